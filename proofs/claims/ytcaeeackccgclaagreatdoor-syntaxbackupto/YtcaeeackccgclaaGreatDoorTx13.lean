/- 13. -/
import Derived.Test.YtcaeeackccgclaaGreatDoorTx12
import Derived.Test.YtcaeeackccgclaaGreatDoorTx11
set_option maxHeartbeats 40000000
set_option maxRecDepth 100000
namespace Go.Proofs.YtcaeeackccgclaaGreatDoor
theorem Tt.adv {α:Type}{k:Nat}{p:Ps}{l:List (List UInt8)}{m:Px α}{J:α→Ps→Prop}(hs:p.sees l=true)(h:Tt k p.adv m J):Tt (k+1) p m J:=by
 obtain⟨h1,h2⟩:=sees_adv hs
 obtain⟨z,e,hz⟩:=h
 refine⟨z,e,fun a q ha=>?_⟩
 obtain⟨k1,k2,k3⟩:=hz a q ha
 exact⟨h1.trans k1,by omega,k3⟩
structure Iq (d:Nat)(s:Ex)(p:Ps):Prop where
 ib:Ib d p
 kids:s.kids.length+p.toks.length≤60000
 names:s.names.length+p.toks.length≤60000
theorem Iq.nx {d:Nat}{s:Ex}{p q:Ps}(h:Iq d s p)(n:Nx p q):Iq d s q:=⟨h.ib.nx n,by have:=n.le;have:=h.kids;omega,by have:=n.le;have:=h.names;omega⟩
section
variable {d:Nat} {E:Ps→Px Ex}
theorem kdE_tt (hE:∀ p,Ib d p→Tt 1 p (E p) (fun _ _=>True)){s:Ex}{p:Ps}(h:Iq d s p):Tt 1 p (kdE E s p) (fun r q=>Iq d r q∧r.kids.length=s.kids.length+1):=by
 refine(Tt.bnd (k:=1) (j:=0) (hE p h.ib) fun e q hn hl _=>tt_ok (s.kid e) ⟨⟨h.ib.nx hn,?_,?_⟩,?_⟩).mono (Nat.le_refl _) (fun _ _ _ _ h=>h)
 ·show(s.kids++[e]).length+_≤_
  rw[List.length_append]
  have:=h.kids
  simp only[List.length_singleton]
  omega
 ·show s.names.length+_≤_
  have:=h.names
  omega
 ·show(s.kids++[e]).length=_
  simp
theorem caE_tt (hE:∀ p,Ib d p→Tt 1 p (E p) (fun _ _=>True))(s:Ex)(p:Ps)(h:Iq d s p):Tt 1 p (caE E s p) (Iq d):=by
 have hk:=h.kids
 have hn:=h.names
 unfold caE
 refine tt_iff (by rw[Bool.and_eq_true,decide_eq_true_eq,decide_eq_true_eq];omega) ?_
 cases hs:sSet p with
 |true=>
  refine(Tt.bnd (k:=1) (j:=1) (tkN_tt s.names p) fun x q n1 l1 _=>?_).mono (by omega) (fun _ _ _ _ h=>h)
  refine(Tt.bnd (k:=1) (j:=0) (tkS_tt [61] q) fun _ r n2 l2 _=>?_).mono (by omega) (fun _ _ _ _ h=>h)
  refine(kdE_tt hE (s:={s with names:=s.names++[x]}) ⟨h.ib.nx (n1.trans n2),?_,?_⟩).mono (Nat.zero_le _) (fun _ _ _ _ h=>h.1)
  ·show s.kids.length+_≤_
   omega
  ·show(s.names++[x]).length+_≤_
   rw[List.length_append]
   simp only[List.length_singleton]
   omega
 |false=>
  refine(Tt.bnd (k:=0) (j:=1) (guIf_tt (decide (0<s.names.length)) 1 p) fun _ q n1 _ _=>?_).mono (by omega) (fun _ _ _ _ h=>h)
  exact(kdE_tt hE (h.nx n1)).mono (Nat.le_refl _) (fun _ _ _ _ h=>h.1)
theorem eaR_tt (s:Ex)(p:Ps)(h:Iq d s p):Tt 0 p (eaR s p) (Iq d):=
 (Tt.bnd (k:=0) (j:=0) (guIf_tt (!p.sees [[93]]) 1 p) fun _ _ n1 _ _=>tt_ok s (h.nx n1)).mono (Nat.le_refl _) (fun _ _ _ _ h=>h)
theorem eaF_tt (hE:∀ p,Ib d p→Tt 1 p (E p) (fun _ _=>True))(s:Ex)(p:Ps)(h:Iq d s p):Tt 0 p (eaF E s p) (Iq d):=by
 unfold eaF
 cases hs:p.sees [[105,102]]with
 |false=>exact eaR_tt s p h
 |true=>
  refine(Tt.adv hs ?_:Tt (0+1) p _ _).mono (Nat.zero_le _) (fun _ _ _ _ h=>h)
  exact(Tt.bnd (k:=1) (j:=0) (kdE_tt hE (h.nx (sees_adv hs).1)) fun r q _ _ hr=>eaR_tt r q hr.1).mono (Nat.zero_le _) (fun _ _ _ _ h=>h)
theorem eaE_tt (hE:∀ p,Ib d p→Tt 1 p (E p) (fun _ _=>True))(s:Ex)(p:Ps)(h:Iq d s p):Tt 1 p (eaE E s p) (Iq d):=by
 refine(Tt.bnd (k:=1) (j:=0) (tkK_tt 1 p (by decide) (by decide) (by decide)) fun t q n1 l1 _=>?_).mono (Nat.le_refl _) (fun _ _ _ _ h=>h)
 refine(Tt.bnd (k:=1) (j:=0) (tkS_tt [105,110] q) fun _ r n2 l2 _=>?_).mono (Nat.zero_le _) (fun _ _ _ _ h=>h)
 exact(Tt.bnd (k:=1) (j:=0) (kdE_tt hE (s:={s with kind:=9,text:=t.text}) (⟨(h.nx (n1.trans n2)).ib,(h.nx (n1.trans n2)).kids,(h.nx (n1.trans n2)).names⟩:Iq d {s with kind:=9,text:=t.text} r)) fun r2 q2 _ _ hr=>eaF_tt hE r2 q2 hr.1).mono (Nat.zero_le _) (fun _ _ _ _ h=>h)
theorem liE_tt (hE:∀ p,Ib d p→Tt 1 p (E p) (fun _ _=>True))(s:Ex)(p:Ps)(h:Iq d s p):Tt 1 p (liE E s p) (Iq d):=by
 have hk:=h.kids
 unfold liE
 refine tt_iff (by rw[decide_eq_true_eq];omega) ?_
 refine(Tt.bnd (k:=1) (j:=0) (kdE_tt hE h) fun r q n1 l1 hr=>?_).mono (Nat.le_refl _) (fun _ _ _ _ h=>h)
 cases hs:decide (r.kids.length=1)&&q.sees [[102,111,114]]with
 |false=>exact tt_ok r hr.1
 |true=>
  have hs2:=((Bool.and_eq_true _ _).mp hs).2
  exact(Tt.adv hs2 (eaE_tt hE r q.adv (hr.1.nx (sees_adv hs2).1))).mono (Nat.zero_le _) (fun _ _ _ _ h=>h)
theorem diE_tt (hE:∀ p,Ib d p→Tt 1 p (E p) (fun _ _=>True))(s:Ex)(p:Ps)(h:Iq d s p):Tt 1 p (diE E s p) (Iq d):=by
 have hk:=h.kids
 unfold diE
 refine tt_iff (by rw[decide_eq_true_eq];omega) ?_
 refine(Tt.bnd (k:=1) (j:=0) (kdE_tt hE h) fun r q n1 l1 hr=>?_).mono (Nat.le_refl _) (fun _ _ _ _ h=>h)
 refine(Tt.bnd (k:=1) (j:=0) (tkS_tt [58] q) fun _ q2 n2 l2 _=>?_).mono (Nat.zero_le _) (fun _ _ _ _ h=>h)
 exact(kdE_tt hE (hr.1.nx n2)).mono (Nat.zero_le _) (fun _ _ _ _ h=>h.1)
theorem ib_lst {c:List UInt8}{each:Ex→Ps→Px Ex}(hea:∀ s p,Iq d s p→Tt 1 p (each s p) (Iq d))(s:Ex)(p:Ps)(h:Iq d s p):Tt 1 p (lst c each s p) (fun _ q=>Ib d q):=
 (lst_tt (Iq d) (fun _ _ _ h n=>h.nx n) hea _ true s p h (Nat.lt_succ_self _)).mono (Nat.le_refl _) (fun _ _ _ _ h=>h.ib)
theorem iq0 (k:Nat){p:Ps}(h:Ib d p):Iq d ⟨k,0,[],[],[]⟩ p:=⟨h,by have:=h.few;simp;omega,by have:=h.few;simp;omega⟩
theorem sgA_tt (hE:∀ p,Ib d p→Tt 1 p (E p) (fun _ _=>True))(p:Ps)(h:Ib d p∨p.sees [[84,114,117,101],[70,97,108,115,101],[78,111,110,101],[40],[91],[123]]=false):Tt 1 p (sgA E p) (fun _ q=>Ib d q):=by
 rcases h with h|h
 ·unfold sgA
  cases h1:p.sees [[84,114,117,101]]with
  |true=>exact(Tt.adv (k:=0) h1 (tt_ok (J:=fun _ q=>Ib d q) _ (h.nx (sees_adv h1).1))).mono (Nat.le_refl 1) (fun _ _ _ _ h=>h)
  |false=>
  cases h2:p.sees [[70,97,108,115,101]]with
  |true=>exact(Tt.adv (k:=0) h2 (tt_ok (J:=fun _ q=>Ib d q) _ (h.nx (sees_adv h2).1))).mono (Nat.le_refl 1) (fun _ _ _ _ h=>h)
  |false=>
  cases h3:p.sees [[78,111,110,101]]with
  |true=>exact(Tt.adv (k:=0) h3 (tt_ok (J:=fun _ q=>Ib d q) _ (h.nx (sees_adv h3).1))).mono (Nat.le_refl 1) (fun _ _ _ _ h=>h)
  |false=>
  cases h4:p.sees [[91]]with
  |true=>exact(Tt.adv h4 (ib_lst (liE_tt hE) _ _ (iq0 7 (h.nx (sees_adv h4).1)))).mono (by omega) (fun _ _ _ _ h=>h)
  |false=>
  cases h5:p.sees [[123]]with
  |true=>exact(Tt.adv h5 (ib_lst (diE_tt hE) _ _ (iq0 8 (h.nx (sees_adv h5).1)))).mono (by omega) (fun _ _ _ _ h=>h)
  |false=>
  refine(Tt.bnd (k:=1) (j:=0) (tkS_tt [40] p) fun _ q n1 _ _=>?_).mono (Nat.le_refl _) (fun _ _ _ _ h=>h)
  refine(Tt.bnd (k:=1) (j:=0) (hE q (h.nx n1)) fun e q2 n2 _ _=>?_).mono (Nat.zero_le _) (fun _ _ _ _ h=>h)
  exact(Tt.bnd (k:=1) (j:=0) (tkS_tt [41] q2) fun _ q3 n3 _ _=>tt_ok e (h.nx ((n1.trans n2).trans n3))).mono (Nat.zero_le _) (fun _ _ _ _ h=>h)
 ·unfold sgA
  rw[sees_sub h (m:=[[84,114,117,101]]) (by simp),sees_sub h (m:=[[70,97,108,115,101]]) (by simp),sees_sub h (m:=[[78,111,110,101]]) (by simp),sees_sub h (m:=[[91]]) (by simp),sees_sub h (m:=[[123]]) (by simp)]
  simp only[cond_false]
  unfold tkS
  rw[sees_sub h (m:=[[40]]) (by simp)]
  exact tt_gu 1 1
theorem atm_tt (hE:∀ p,Ib d p→Tt 1 p (E p) (fun _ _=>True))(p:Ps)(h:Ib d p∨sAtom p=false):Tt 1 p (atm E p) (fun _ q=>Ib d q):=by
 have hk:∀ k,k=1∨k=2∨k=3→p.nx.kind=k→Nx p p.adv∧p.adv.toks.length+1≤p.toks.length:=fun k hk e=>by
  match hp:p.toks with
  |[]=>rw[show p.nx=⟨0,[],0,p.fin⟩ by unfold Ps.nx;rw[hp]]at e;simp only at e;omega
  |t::r=>
   rw[nx_of hp]at e
   have:=nx_adv hp (by omega) (by omega)
   rw[hp]at this
   exact this
 rcases h with h|h
 ·unfold atm
  cases h1:p.nx.kind==1 with
  |true=>exact⟨_,rfl,fun b q e=>by cases e;obtain⟨a,b⟩:=hk 1 (by simp) (by simpa using h1);exact⟨a,b,h.nx a⟩⟩
  |false=>
  cases h2:p.nx.kind==2 with
  |true=>exact⟨_,rfl,fun b q e=>by cases e;obtain⟨a,b⟩:=hk 2 (by simp) (by simpa using h2);exact⟨a,b,h.nx a⟩⟩
  |false=>
  cases h3:p.nx.kind==3 with
  |true=>exact⟨_,rfl,fun b q e=>by cases e;obtain⟨a,b⟩:=hk 3 (by simp) (by simpa using h3);exact⟨a,b,h.nx a⟩⟩
  |false=>exact sgA_tt hE p (.inl h)
 ·unfold sAtom at h
  simp only[Bool.or_eq_false_iff]at h
  unfold atm
  rw[h.1.1.1,h.1.1.2,h.1.2]
  exact sgA_tt hE p (.inr h.2)
theorem psL_tt (hE:∀ p,Ib d p→Tt 1 p (E p) (fun _ _=>True)):∀ (f:Nat) (e:Ex) (p:Ps),Ib d p→p.toks.length<f→Tt 0 p (psL E f e p) (fun _ q=>Ib d q)
 |0,_,_,_,h=>by omega
 |f+1,e,p,hp,hf=>by
  unfold psL
  cases h1:p.sees [[40]]with
  |true=>
   obtain⟨n0,l0⟩:=sees_adv h1
   have hb:=hp.nx n0
   refine(Tt.adv h1 ?_:Tt (0+1) p _ _).mono (Nat.zero_le _) (fun _ _ _ _ h=>h)
   refine(Tt.bnd (k:=1) (j:=0) (ib_lst (caE_tt hE) ⟨10,0,[],[e],[]⟩ p.adv ⟨hb,by have:=hb.few;simp;omega,by have:=hb.few;simp;omega⟩) fun x q n1 l1 hq=>?_).mono (Nat.zero_le _) (fun _ _ _ _ h=>h)
   exact tt_iff (by unfold less;rw[decide_eq_true_eq];omega) (psL_tt hE f x q hq (by omega))
  |false=>
  cases h2:p.sees [[91]]with
  |true=>
   obtain⟨n0,l0⟩:=sees_adv h2
   have hb:=hp.nx n0
   refine(Tt.adv h2 ?_:Tt (0+1) p _ _).mono (Nat.zero_le _) (fun _ _ _ _ h=>h)
   refine(Tt.bnd (k:=1) (j:=0) (hE _ hb) fun x q n1 l1 _=>?_).mono (Nat.zero_le _) (fun _ _ _ _ h=>h)
   refine(Tt.bnd (k:=1) (j:=0) (tkS_tt [93] q) fun _ q2 n2 l2 _=>?_).mono (Nat.zero_le _) (fun _ _ _ _ h=>h)
   exact tt_iff (by unfold less;rw[decide_eq_true_eq];omega) (psL_tt hE f _ q2 (hb.nx (n1.trans n2)) (by omega))
  |false=>exact tt_ok e hp
theorem pst_tt (hE:∀ p,Ib d p→Tt 1 p (E p) (fun _ _=>True))(p:Ps)(h:Ib d p∨sAtom p=false):Tt 1 p (pst E p) (fun _ q=>Ib d q):=
 (Tt.bnd (k:=1) (j:=0) (atm_tt hE p h) fun e q _ _ hq=>psL_tt hE _ e q hq (Nat.lt_succ_self _)).mono (Nat.le_refl _) (fun _ _ _ _ h=>h)
def Cn (l:List (List UInt8))(d:Nat)(p:Ps):Prop:=Ib d p∨(sAtom p=false∧p.sees l=false)
theorem rfD_tt {l:List (List UInt8)}{p:Ps}(h:Ib d p):Tt 0 p (rfD l p) (fun _ q=>q=p∧Cn l d p.inn):=by
 unfold rfD
 refine(guIf_tt _ 2 p).mono (Nat.le_refl _) fun _ q _ _ hq=>⟨hq.1,?_⟩
 have h1:=hq.2
 rcases Nat.lt_or_ge p.deep 30 with h2|h2
 ·exact .inl ⟨by show d<p.deep+1;have:=h.gt;omega,by show p.deep+1≤30;omega,h.few⟩
 ·have h3:p.deep=30:=Nat.le_antisymm h.le h2
  rw[show(p.deep==30)=true by rw[h3];rfl,Bool.and_true,Bool.or_eq_false_iff]at h1
  exact .inr h1
theorem unL_tt (hE:∀ p,Ib d p→Tt 1 p (E p) (fun _ _=>True)):∀ (f:Nat) (p:Ps),Cn [[45]] d p→p.toks.length<f→Tt 1 p (unL E f p) (fun _ q=>Ib d q)
 |0,_,_,h=>by omega
 |f+1,p,hp,hf=>by
  unfold unL
  cases h1:p.sees [[45]]with
  |false=>
   refine pst_tt hE p ?_
   rcases hp with h|h
   ·exact .inl h
   ·exact .inr h.1
  |true=>
   have hb:Ib d p:=by
    rcases hp with h|h
    ·exact h
    ·rw[h.2]at h1;cases h1
   obtain⟨n0,l0⟩:=sees_adv h1
   refine(Tt.adv h1 ?_:Tt (0+1) p _ _).mono (by omega) (fun _ _ _ _ h=>h)
   refine(Tt.bnd (k:=0) (j:=0) (rfD_tt (hb.nx n0)) fun _ q n1 l1 hq=>?_).mono (Nat.le_refl _) (fun _ _ _ _ h=>h)
   obtain⟨rfl,hc⟩:=hq
   have hd:p.adv.deep≤30:=(hb.nx n0).le
   refine(Tt.bnd (k:=1) (j:=0) (inner_tt (J:=fun _ _=>True) (by omega) ((unL_tt hE f p.adv.inn hc (by show p.adv.toks.length<f;omega)).mono (Nat.le_refl _) (fun _ _ _ _ _=>trivial))) fun k q n2 l2 _=>?_).mono (Nat.zero_le _) (fun _ _ _ _ h=>h)
   exact tt_ok _ (hb.nx (n0.trans n2))
theorem una_tt (hE:∀ p,Ib d p→Tt 1 p (E p) (fun _ _=>True))(p:Ps)(h:Cn [[45]] d p):Tt 1 p (una E p) (fun _ q=>Ib d q):=unL_tt hE _ p h (Nat.lt_succ_self _)
theorem sum_tt (hE:∀ p,Ib d p→Tt 1 p (E p) (fun _ _=>True))(p:Ps)(h:Cn [[45]] d p):Tt 1 p (sum E p) (fun _ q=>Ib d q):=
 jn_tt (Cn [[45]] d) (fun _ h=>.inl h) (fun p h=>jn_tt (Cn [[45]] d) (fun _ h=>.inl h) (una_tt hE) p h) p h
theorem cmp_tt (hE:∀ p,Ib d p→Tt 1 p (E p) (fun _ _=>True))(p:Ps)(h:Cn [[45]] d p):Tt 1 p (cmp E p) (fun _ q=>Ib d q):=by
 unfold cmp
 refine(Tt.bnd (k:=1) (j:=0) (sum_tt hE p h) fun e q n1 l1 hq=>?_).mono (Nat.le_refl _) (fun _ _ _ _ h=>h)
 cases hs:q.sees [[61,61],[33,61],[60],[60,61],[105,110]]with
 |false=>exact tt_ok (J:=fun _ q=>Ib d q) e hq
 |true=>
  have hb:=hq.nx (sees_adv hs).1
  refine(Tt.adv hs ?_:Tt (0+1) q _ _).mono (Nat.zero_le _) (fun _ _ _ _ h=>h)
  exact(Tt.bnd (k:=1) (j:=0) (sum_tt hE _ (.inl hb)) fun x r _ _ hr=>tt_ok (J:=fun _ q=>Ib d q) _ hr).mono (Nat.zero_le _) (fun _ _ _ _ h=>h)
theorem ngL_tt (hE:∀ p,Ib d p→Tt 1 p (E p) (fun _ _=>True)):∀ (f:Nat) (p:Ps),Cn [[110,111,116],[45]] d p→p.toks.length<f→Tt 1 p (ngL E f p) (fun _ q=>Ib d q)
 |0,_,_,h=>by omega
 |f+1,p,hp,hf=>by
  unfold ngL
  cases h1:p.sees [[110,111,116]]with
  |false=>
   refine cmp_tt hE p ?_
   rcases hp with h|h
   ·exact .inl h
   ·exact .inr ⟨h.1,sees_sub h.2 (by simp)⟩
  |true=>
   have hb:Ib d p:=by
    rcases hp with h|h
    ·exact h
    ·rw[sees_sub h.2 (m:=[[110,111,116]]) (by simp)]at h1;cases h1
   obtain⟨n0,l0⟩:=sees_adv h1
   refine(Tt.adv h1 ?_:Tt (0+1) p _ _).mono (by omega) (fun _ _ _ _ h=>h)
   refine(Tt.bnd (k:=0) (j:=0) (rfD_tt (hb.nx n0)) fun _ q n1 l1 hq=>?_).mono (Nat.le_refl _) (fun _ _ _ _ h=>h)
   obtain⟨rfl,hc⟩:=hq
   have hd:p.adv.deep≤30:=(hb.nx n0).le
   refine(Tt.bnd (k:=1) (j:=0) (inner_tt (J:=fun _ _=>True) (by omega) ((ngL_tt hE f p.adv.inn hc (by show p.adv.toks.length<f;omega)).mono (Nat.le_refl _) (fun _ _ _ _ _=>trivial))) fun k q n2 l2 _=>?_).mono (Nat.zero_le _) (fun _ _ _ _ h=>h)
   exact tt_ok (J:=fun _ q=>Ib d q) _ (hb.nx (n0.trans n2))
theorem orE_tt (hE:∀ p,Ib d p→Tt 1 p (E p) (fun _ _=>True))(p:Ps)(h:Cn [[110,111,116],[45]] d p):Tt 1 p (orE E p) (fun _ q=>Ib d q):=
 jn_tt (Cn [[110,111,116],[45]] d) (fun _ h=>.inl h) (fun p h=>jn_tt (Cn [[110,111,116],[45]] d) (fun _ h=>.inl h) (fun p h=>ngL_tt hE _ p h (Nat.lt_succ_self _)) p h) p h
end
theorem exF_tt:∀ (n:Nat) (p:Ps),p.deep≤30→31≤n+p.deep→p.toks.length≤50000→Tt 1 p (exF n p) (fun _ _=>True)
 |0,_,h1,h2,_=>by omega
 |n+1,p,h1,h2,h3=>by
  unfold exF
  have h0:Tt 0 p (rfD [[110,111,116],[45]] p) (fun _ q=>q=p∧Cn [[110,111,116],[45]] p.deep p.inn):=by
   unfold rfD
   refine(guIf_tt _ 2 p).mono (Nat.le_refl _) fun _ q _ _ hq=>⟨hq.1,?_⟩
   have h4:=hq.2
   rcases Nat.lt_or_ge p.deep 30 with h5|h5
   ·exact .inl ⟨Nat.lt_succ_self _,by show p.deep+1≤30;omega,h3⟩
   ·have h6:p.deep=30:=Nat.le_antisymm h1 h5
    rw[show(p.deep==30)=true by rw[h6];rfl,Bool.and_true,Bool.or_eq_false_iff]at h4
    exact .inr h4
  refine(Tt.bnd (k:=0) (j:=1) h0 fun _ q n1 l1 hq=>?_).mono (by omega) (fun _ _ _ _ h=>h)
  obtain⟨rfl,hc⟩:=hq
  exact inner_tt (J:=fun _ _=>True) (by omega) ((orE_tt (fun r hr=>exF_tt n r hr.le (by have:=hr.gt;omega) hr.few) q.inn hc).mono (Nat.le_refl _) (fun _ _ _ _ _=>trivial))
def tkey (t:Tk):Nat×List UInt8×Nat:=(t.kind,t.text,t.num)
def hdS (v:List Tk)(l:List (List UInt8)):Bool:=match v with
 |[]=>false
 |t::_=>isS t l
theorem sees_hdS (p:Ps)(l:List (List UInt8)):p.sees l=hdS p.toks l:=by
 unfold Ps.sees hdS
 match hp:p.toks with
 |[]=>rw[show p.nx=⟨0,[],0,p.fin⟩ by unfold Ps.nx;rw[hp]];rfl
 |t::r=>rw[nx_of hp]
theorem isS_key {t t':Tk}(h:tkey t=tkey t')(l:List (List UInt8)):isS t l=isS t' l:=by
 unfold tkey at h
 have h1:=congrArg (·.1) h
 have h2:=congrArg (·.2.1) h
 simp only at h1 h2
 unfold isS
 rw[h1,h2]
def Bd (v v':List Tk):Prop:=∀ l,[41]∉l→hdS v l=hdS v' l
structure Ry (v v':List Tk)(k D:Nat)(p p':Ps):Prop where
 cut:∃ u u',p.toks=u++v∧p'.toks=u'++v'∧u.map tkey=u'.map tkey
 deep:p'.deep=p.deep+k
 d30:p'.deep≤30
 lo:D≤p'.deep
 blk:p'.blk=p.blk
 inD:p'.inD=p.inD
section
variable {v v':List Tk} {k D:Nat} {p p' q q':Ps}
theorem Ry.some (h:Ry v v' k D p p')(hl:v.length+1≤p.toks.length):∃ t u t' u',p.toks=t::(u++v)∧p'.toks=t'::(u'++v')∧tkey t=tkey t'∧u.map tkey=u'.map tkey:=by
 obtain⟨u,u',h1,h2,h3⟩:=h.cut
 match u,u',h3 with
 |[],_,_=>
  exfalso
  rw[h1]at hl
  have h9:([]++v).length=v.length:=rfl
  omega
 |t::u,[],h3=>cases h3
 |t::u,t'::u',h3=>
  simp only[List.map_cons,List.cons.injEq]at h3
  exact⟨t,u,t',u',h1,h2,h3.1,h3.2⟩
theorem Ry.sees (h:Ry v v' k D p p')(hB:Bd v v')(l:List (List UInt8))(hl:[41]∉l∨v.length+1≤p.toks.length):p'.sees l=p.sees l:=by
 rw[sees_hdS,sees_hdS]
 by_cases hs:v.length+1≤p.toks.length
 ·obtain⟨t,u,t',u',h1,h2,h3,_⟩:=h.some hs
  rw[h1,h2]
  exact(isS_key h3 l).symm
 ·have h41:[41]∉l:=hl.resolve_right hs
  obtain⟨u,u',h1,h2,h3⟩:=h.cut
  have hu:u=[]:=by
   rw[h1,List.length_append]at hs
   exact List.length_eq_zero_iff.1 (by omega)
  subst hu
  have hu':u'=[]:=by
   cases u' with
   |nil=>rfl
   |cons a b=>cases h3
  subst hu'
  rw[h1,h2]
  exact(hB l h41).symm
theorem Ry.key (h:Ry v v' k D p p')(hl:v.length+1≤p.toks.length):tkey p'.nx=tkey p.nx:=by
 obtain⟨t,u,t',u',h1,h2,h3,_⟩:=h.some hl
 rw[nx_of h1,nx_of h2,h3]
theorem Ry.adv (h:Ry v v' k D p p')(hl:v.length+1≤p.toks.length):Ry v v' k D p.adv p'.adv:=by
 obtain⟨t,u,t',u',h1,h2,h3,h4⟩:=h.some hl
 exact⟨⟨u,u',by show p.toks.drop 1=_;rw[h1];rfl,by show p'.toks.drop 1=_;rw[h2];rfl,h4⟩,h.deep,h.d30,h.lo,h.blk,h.inD⟩
theorem Ry.len (h:Ry v v' k D p p'):p'.toks.length+v.length=p.toks.length+v'.length:=by
 obtain⟨u,u',h1,h2,h3⟩:=h.cut
 have:=congrArg List.length h3
 rw[List.length_map,List.length_map]at this
 rw[h1,h2,List.length_append,List.length_append]
 omega
theorem Ry.less (h:Ry v v' k D p p')(g:Ry v v' k D q q')(hl:less q p=true):less q' p'=true:=by
 have h1:=h.len
 have h2:=g.len
 unfold Go.Proofs.YtcaeeackccgclaaGreatDoor.less at hl ⊢
 rw[decide_eq_true_eq]at hl ⊢
 omega
theorem Ry.sSet (h:Ry v v' k D p p')(hB:Bd v v')(hl:v.length+1≤p.toks.length):sSet p'=sSet p:=by
 obtain⟨t,u,t',u',h1,h2,h3,h4⟩:=h.some hl
 have hk:t'.kind=t.kind:=congrArg (·.1) h3.symm
 have hs:hdS (u'++v') [[61]]=hdS (u++v) [[61]]:=by
  match u,u',h4 with
  |[],[],_=>exact(hB [[61]] (by simp)).symm
  |a::u,b::u',h4=>
   simp only[List.map_cons,List.cons.injEq]at h4
   exact(isS_key h4.1 _).symm
 have e1:∀ (q:Ps) (t:Tk) (r:List Tk),q.toks=t::r→Go.Proofs.YtcaeeackccgclaaGreatDoor.sSet q=(t.kind==1&&hdS r [[61]]):=fun q t r hq=>by
  unfold Go.Proofs.YtcaeeackccgclaaGreatDoor.sSet hdS
  rw[hq]
  cases r with
  |nil=>simp
  |cons a b=>rfl
 rw[e1 p' t' _ h2,e1 p t _ h1,hk,hs]
end
end Go.Proofs.YtcaeeackccgclaaGreatDoor
namespace Go.Proofs.YtcaeeackccgclaaGreatDoor
open Go.RowKit Go.Shelf
def Tl (x:List UInt8):Prop:=x=[]∨(isDg (x.getD 0 0)=false∧isNm (x.getD 0 0)=false∧(x.getD 0 0).toNat≠61∧(x.getD 0 0).toNat≠47)
theorem rch_app (h:UInt8→Bool)(x:List UInt8):∀ r:List UInt8,(rch h r<r.length∨h (x.getD 0 0)=false∨x=[])→rch h (r++x)=rch h r
 |[],hc=>by
  rcases hc with hc|hc|hc
  ·exact absurd hc (by simp)
  ·cases x with
   |nil=>rfl
   |cons c r=>
    have h0:h c=false:=hc
    show rch h (c::r)=0
    unfold rch
    rw[h0]
    rfl
  ·subst hc;rfl
 |c::r,hc=>by
  show(bif h c then rch h (r++x)+1 else 0)=(bif h c then rch h r+1 else 0)
  cases hh:h c with
  |false=>rfl
  |true=>
   have hc2:rch h r<r.length∨h (x.getD 0 0)=false∨x=[]:=by
    rcases hc with hc|hc
    ·left
     have e:rch h (c::r)=rch h r+1:=by show(bif h c then rch h r+1 else 0)=_;rw[hh];rfl
     rw[e,List.length_cons]at hc
     omega
    ·exact .inr hc
   rw[rch_app h x r hc2]
theorem hd_app {r:List UInt8}(hr:r≠[])(x:List UInt8):(r++x).getD 0 0=r.getD 0 0:=by
 cases r with
 |nil=>exact absurd rfl hr
 |cons a b=>rfl
section
variable {x:List UInt8}
theorem sgn_app (hx:Tl x){r:List UInt8}(hr:r≠[]):sgn (r++x)=sgn r:=by
 have h2:two2 (r++x)=two2 r:=by
  match r,hr with
  |a::b::r,_=>rfl
  |[a],_=>
   rcases hx with e|⟨_,_,h61,h47⟩
   ·subst e;rfl
   ·match x,h61,h47 with
    |[],_,_=>rfl
    |c::y,h61,h47=>
     have e1:c.toNat≠61:=h61
     have e2:c.toNat≠47:=h47
     show([[61,61],[33,61],[60,61],[47,47]]:List (List Nat)).contains [a.toNat,c.toNat]=([[61,61],[33,61],[60,61],[47,47]]:List (List Nat)).contains [a.toNat]
     simp[e1,e2]
 unfold sgn
 rw[h2,hd_app hr]
theorem beg_app (hx:Tl x){r:List UInt8}(hr:r≠[]):beg (r++x)=beg r:=by
 unfold beg
 rw[hd_app hr,sgn_app hx hr]
theorem dg_app (hx:Tl x)(r:List UInt8):rch isDg (r++x)=rch isDg r:=by
 refine rch_app isDg x r ?_
 rcases hx with e|⟨h,_⟩
 ·exact .inr (.inr e)
 ·exact .inr (.inl h)
theorem noInt_app (hx:Tl x){r:List UInt8}(hr:r≠[]):noInt (r++x)=noInt r:=by
 unfold noInt
 rw[dg_app hx,hd_app hr,List.take_append_of_le_length (rch_le isDg r)]
theorem txt_app (x:List UInt8):∀ (f:Nat) (r said:List UInt8) (z:Nat) (t:List UInt8) (y:Nat),txt f r said z= .ok (t,y)→∀ f',(r++x).length<f'→txt f' (r++x) said z= .ok (t,y):=by
 intro f
 induction f with
 |zero=>intro r said z t y h;cases h
 |succ f ih=>
  intro r said z t y h f' hf'
  cases f' with
  |zero=>omega
  |succ f'=>
   unfold txt at h ⊢
   simp only at h ⊢
   by_cases h0:r=[]
   ·rw[if_pos h0]at h;cases h
   rw[if_neg h0]at h
   have h0':r++x≠[]:=by simp[h0]
   rw[if_neg h0',hd_app h0]
   have hl:0<r.length:=List.length_pos_iff.2 h0
   by_cases h34:(r.getD 0 0).toNat=34
   ·rw[if_pos h34]at h ⊢;exact h
   rw[if_neg h34]at h ⊢
   rw[List.length_append]at hf'
   by_cases h92:(r.getD 0 0).toNat=92
   ·rw[if_pos h92]at h ⊢
    by_cases h1:r.drop 1=[]
    ·rw[if_pos h1]at h;cases h
    rw[if_neg h1]at h
    have hl2:1<r.length:=by
     have:=List.length_pos_iff.2 h1
     rw[List.length_drop]at this
     omega
    have e1:(r++x).drop 1=r.drop 1++x:=List.drop_append_of_le_length (by omega)
    have e2:(r++x).drop 2=r.drop 2++x:=List.drop_append_of_le_length (by omega)
    rw[e1,e2,if_neg (fun e=>h1 (List.append_eq_nil_iff.1 e).1),hd_app h1]
    have hn:∀ s z2,txt f (r.drop 2) s z2= .ok (t,y)→txt f' (r.drop 2++x) s z2= .ok (t,y):=fun s z2 hh=>ih _ _ _ _ _ hh f' (by rw[List.length_append,List.length_drop];omega)
    by_cases a1:((r.drop 1).getD 0 0).toNat=110
    ·rw[if_pos a1]at h ⊢;exact hn _ _ h
    rw[if_neg a1]at h ⊢
    by_cases a2:((r.drop 1).getD 0 0).toNat=116
    ·rw[if_pos a2]at h ⊢;exact hn _ _ h
    rw[if_neg a2]at h ⊢
    by_cases a3:((r.drop 1).getD 0 0).toNat=92∨((r.drop 1).getD 0 0).toNat=34
    ·rw[if_pos a3]at h ⊢;exact hn _ _ h
    rw[if_neg a3]at h
    cases h
   rw[if_neg h92]at h ⊢
   by_cases hp:rch isPl r=0
   ·rw[if_pos hp]at h;cases h
   rw[if_neg hp]at h
   have hlt:rch isPl r<r.length:=by
    have hle:=rch_le isPl r
    rcases Nat.lt_or_ge (rch isPl r) r.length with h1|h1
    ·exact h1
    ·exfalso
     have e:r.drop (rch isPl r)=[]:=List.drop_eq_nil_of_le h1
     rw[e]at h
     cases f with
     |zero=>cases h
     |succ f=>unfold txt at h;simp only at h;rw[if_pos trivial]at h;cases h
   rw[rch_app isPl x r (.inl hlt),if_neg hp,List.drop_append_of_le_length (Nat.le_of_lt hlt),List.take_append_of_le_length (Nat.le_of_lt hlt)]
   exact ih _ _ _ _ _ h f' (by rw[List.length_append,List.length_drop];omega)
end
def opF (c:UInt8)(o:Nat):Nat:=if isOpn c then o+1 else if isCls c then o-1 else o
structure Rt (A A':List (Nat×List UInt8×Nat))(x:List UInt8)(d:Nat)(L L':List UInt8)(p p':Sp):Prop where
 rest:L'.drop p'.pos=L.drop p.pos++x
 pos:p'.pos≤L'.length
 ins:p'.ins=p.ins
 opn:p'.opn=p.opn+d
 toks:∃ u,p.toks.map tkey=A++u∧p'.toks.map tkey=A'++u
section
variable {A A':List (Nat×List UInt8×Nat)} {x:List UInt8} {d:Nat} {L L':List UInt8} {p p':Sp}
theorem Rt.len (h:Rt A A' x d L L' p p'):L'.length-p'.pos=L.length-p.pos+x.length:=by
 have:=congrArg List.length h.rest
 rw[List.length_append,List.length_drop,List.length_drop]at this
 exact this
theorem Rt.add (h:Rt A A' x d L L' p p')(k:Nat):Rt A A' x d L L' (p.add k) (p'.add k):=by
 obtain⟨u,h1,h2⟩:=h.toks
 exact⟨h.rest,h.pos,h.ins,h.opn,u++[(k,[],0)],by show(p.toks++[_]).map tkey=_;rw[List.map_append,h1,List.append_assoc];rfl,by show(p'.toks++[_]).map tkey=_;rw[List.map_append,h2,List.append_assoc];rfl⟩
theorem Rt.setIns (h:Rt A A' x d L L' p p')(l:List Nat):Rt A A' x d L L' {p with ins:=l} {p' with ins:=l}:=⟨h.rest,h.pos,rfl,h.opn,h.toks⟩
theorem Rt.top (h:Rt A A' x d L L' p p'):p'.top=p.top:=by unfold Sp.top;rw[h.ins]
theorem outF_rt (i:Nat):∀ (f:Nat) (p p':Sp),Rt A A' x d L L' p p'→Rt A A' x d L L' (outF i f p) (outF i f p')
 |0,_,_,h=>h
 |f+1,p,p',h=>by
  by_cases hi:i<p.top
  ·rw[outF_step i f p hi,outF_step i f p' (by rw[h.top];exact hi),h.ins]
   exact outF_rt i f _ _ ((h.setIns _).add 8)
  ·rw[outF_stop i _ p hi,outF_stop i _ p' (by rw[h.top];exact hi)]
   exact h
theorem Rt.come (h:Rt A A' x d L L' p p')(i:Nat):Rt A A' x d L L' (p.come i) (p'.come i):=by
 show Rt A A' x d L L' (outF i _ _) (outF i _ _)
 by_cases ht:p.top<i
 ·rw[if_pos ht,if_pos (show p'.top<i by rw[h.top];exact ht),h.ins]
  exact outF_rt i _ _ _ ((h.setIns _).add 7)
 ·rw[if_neg ht,if_neg (show ¬p'.top<i by rw[h.top];exact ht),h.ins]
  exact outF_rt i _ _ _ h
theorem Rt.refu (h:Rt A A' x d L L' p p')(hx:Tl x)(hp:p.pos<L.length){i:Nat}(h0:refu L p i=0):Go.Proofs.YtcaeeackccgclaaGreatDoor.refu L' p' i=0∨(d≠0∧Go.Proofs.YtcaeeackccgclaaGreatDoor.refu L' p' i=2):=by
 have hne:L.drop p.pos≠[]:=List.length_pos_iff.1 (by rw[List.length_drop];omega)
 unfold Go.Proofs.YtcaeeackccgclaaGreatDoor.refu at h0 ⊢
 rw[h.rest,h.top,h.ins,h.opn]
 simp only[beg_app hx hne,hd_app hne,noInt_app hx hne]at h0 ⊢
 split at h0
 ·cases h0
 rename_i h1
 rw[if_neg (fun e=>h1 (e.imp id fun e=>⟨e.1,by omega⟩))]
 split at h0
 ·cases h0
 rename_i h2
 rw[if_neg h2]
 split at h0
 ·cases h0
 rename_i h3
 rw[if_neg h3]
 split at h0
 ·cases h0
 rename_i h4
 by_cases h5:(isOpn ((L.drop p.pos).getD 0 0)=true∧p.opn+d=30)∨(p.top<i∧30<p.ins.length)
 ·rw[if_pos h5]
  refine .inr ⟨fun hd=>h4 ?_,rfl⟩
  subst hd
  exact h5
 ·rw[if_neg h5]
  exact .inl rfl
def Sk (G:List UInt8→Prop)(x:List UInt8)(d:Nat):Prop:=∀ (o:Nat) (r:List UInt8),G r→(o=0∨skp o r.length r<r.length)→skp (o+d) (r++x).length (r++x)=skp o r.length r
theorem Rt.skip {G:List UInt8→Prop}(hG:Sk G x d)(h:Rt A A' x d L L' p p')(hp:p.pos≤L.length)(hg:G (L.drop p.pos))(hc:p.opn=0∨(p.skip L).pos<L.length):Rt A A' x d L L' (p.skip L) (p'.skip L'):=by
 have hrl:(L.drop p.pos).length=L.length-p.pos:=List.length_drop
 have e1:skp p.opn L.length (L.drop p.pos)=skp p.opn (L.drop p.pos).length (L.drop p.pos):=skp_fuel _ _ _ _ (by omega) (Nat.le_refl _)
 have e2:skp p'.opn L'.length (L'.drop p'.pos)=skp (p.opn+d) (L.drop p.pos++x).length (L.drop p.pos++x):=by
  rw[←h.rest,←h.opn]
  exact skp_fuel _ _ _ _ (by rw[List.length_drop];omega) (Nat.le_refl _)
 have hle:=skp_len p.opn (L.drop p.pos).length (L.drop p.pos)
 have hc2:p.opn=0∨skp p.opn (L.drop p.pos).length (L.drop p.pos)<(L.drop p.pos).length:=by
  rcases hc with hc|hc
  ·exact .inl hc
  ·right
   have:p.pos+skp p.opn L.length (L.drop p.pos)<L.length:=hc
   rw[e1]at this
   omega
 have e3:=hG p.opn (L.drop p.pos) hg hc2
 have e4:(p'.skip L').pos=p'.pos+skp p.opn (L.drop p.pos).length (L.drop p.pos):=by show p'.pos+skp p'.opn L'.length (L'.drop p'.pos)=_;rw[e2,e3]
 have e5:(p.skip L).pos=p.pos+skp p.opn (L.drop p.pos).length (L.drop p.pos):=by show p.pos+skp p.opn L.length (L.drop p.pos)=_;rw[e1]
 have hl:=h.len
 have hpos:=h.pos
 refine⟨?_,?_,h.ins,h.opn,h.toks⟩
 ·rw[e4,e5,←List.drop_drop,←List.drop_drop,h.rest,List.drop_append_of_le_length hle]
 ·rw[e4];omega
end
end Go.Proofs.YtcaeeackccgclaaGreatDoor
namespace Go.Proofs.YtcaeeackccgclaaGreatDoor
def okB (c:UInt8):Bool:=decide (32≤c.toNat)||decide (c.toNat=9)||decide (c.toNat=10)
theorem pl_qt {c:UInt8}(h:isPl c=true):qt1 c=[c]:=by
 unfold isPl at h
 simp at h
 unfold qt1
 rw[if_neg (by omega),if_neg (by omega),if_neg (by omega)]
theorem npl_qt {c:UInt8}(h:isPl c=false)(ho:okB c=true):∃ d,qt1 c=[92,d]∧((c.toNat=10∧d=110)∨(c.toNat=9∧d=116)∨((c.toNat=92∨c.toNat=34)∧d=c)):=by
 unfold qt1
 by_cases h1:c.toNat=10
 ·exact⟨110,by rw[if_pos h1],.inl ⟨h1,rfl⟩⟩
 ·by_cases h2:c.toNat=9
  ·exact⟨116,by rw[if_neg h1,if_pos h2],.inr (.inl ⟨h2,rfl⟩)⟩
  ·by_cases h3:c.toNat=92∨c.toNat=34
   ·exact⟨c,by rw[if_neg h1,if_neg h2,if_pos h3],.inr (.inr ⟨h3,rfl⟩)⟩
   ·exfalso
    unfold isPl at h
    unfold okB at ho
    simp at h ho
    omega
theorem run_qt:∀ l:List UInt8,(∀ c∈l,okB c=true)→∃ p r,l=p++r∧rch isPl (l.flatMap qt1++[34])=p.length∧(l.flatMap qt1++[34]).take p.length=p∧(l.flatMap qt1++[34]).drop p.length=r.flatMap qt1++[34]∧(∀ c r',l=c::r'→isPl c=true→p≠[])
 |[],_=>⟨[],[],rfl,rfl,rfl,rfl,fun c r' h=>by cases h⟩
 |c::l,h=>by
  cases hc:isPl c with
  |true=>
   obtain⟨p,r,h1,h2,h3,h4,_⟩:=run_qt l (fun d hd=>h d (by simp[hd]))
   refine⟨c::p,r,by rw[h1];rfl,?_,?_,?_,fun _ _ _ _=>by simp⟩
   ·rw[List.flatMap_cons,pl_qt hc]
    show rch isPl (c::(l.flatMap qt1++[34]))=_
    unfold rch
    rw[hc,h2]
    rfl
   ·rw[List.flatMap_cons,pl_qt hc]
    show c::((l.flatMap qt1++[34]).take p.length)=_
    rw[h3]
   ·rw[List.flatMap_cons,pl_qt hc]
    show(l.flatMap qt1++[34]).drop p.length=_
    exact h4
  |false=>
   obtain⟨d,hd,_⟩:=npl_qt hc (h c (by simp))
   refine⟨[],c::l,rfl,?_,rfl,rfl,fun c' r' e hp=>?_⟩
   ·rw[List.flatMap_cons,hd]
    show rch isPl (92::(d::(l.flatMap qt1++[34])))=0
    unfold rch
    rfl
   ·cases e
    rw[hc]at hp
    cases hp
theorem txt_qt:∀ (f:Nat) (l said:List UInt8) (at_:Nat),(∀ c∈l,okB c=true)→(l.flatMap qt1).length<f→txt f (l.flatMap qt1++[34]) said at_= .ok (said++l,at_+(l.flatMap qt1).length+1)
 |0,_,_,_,_,h=>absurd h (Nat.not_lt_zero _)
 |f+1,[],said,at_,_,_=>by
  unfold txt
  simp
 |f+1,c::l,said,at_,h,hf=>by
  cases hc:isPl c with
  |false=>
   obtain⟨d,hd,hcd⟩:=npl_qt hc (h c (by simp))
   have hl:∀ c∈l,okB c=true:=fun x hx=>h x (by simp[hx])
   rw[List.flatMap_cons,hd]at hf ⊢
   simp only[List.length_append,List.length_cons,List.length_nil]at hf
   have hlen:at_+([92,d]++l.flatMap qt1).length+1=at_+2+(l.flatMap qt1).length+1:=by simp;omega
   rw[hlen]
   show txt (f+1) (92::d::(l.flatMap qt1++[34])) said at_=_
   unfold txt
   rcases hcd with⟨h1,rfl⟩|⟨h1,rfl⟩|⟨h1,rfl⟩
   ·have e:c=10:=UInt8.toNat.inj h1
    subst e
    simp only[List.getD_cons_zero,List.drop_succ_cons,List.drop_zero]
    simp
    rw[txt_qt f l (said++[10]) (at_+2) hl (by omega)]
    simp
   ·have e:c=9:=UInt8.toNat.inj h1
    subst e
    simp only[List.getD_cons_zero,List.drop_succ_cons,List.drop_zero]
    simp
    rw[txt_qt f l (said++[9]) (at_+2) hl (by omega)]
    simp
   ·have h110:¬d.toNat=110:=by omega
    have h116:¬d.toNat=116:=by omega
    simp only[List.getD_cons_zero,List.drop_succ_cons,List.drop_zero]
    simp[h110,h116,h1]
    rw[txt_qt f l (said++[d]) (at_+2) hl (by omega)]
    simp
  |true=>
   obtain⟨p,r,h1,h2,h3,h4,h5⟩:=run_qt (c::l) h
   have hp:p≠[]:=h5 c l rfl hc
   have hp1:0<p.length:=List.length_pos_iff.2 hp
   have hpl:(r.flatMap qt1).length+1=((c::l).flatMap qt1++[34]).length-p.length:=by rw[←List.length_drop,h4];simp
   have htk:=congrArg List.length h3
   rw[List.length_take]at htk
   have hhead:(((c::l).flatMap qt1++[34]).getD 0 0)=c:=by rw[List.flatMap_cons,pl_qt hc];rfl
   have hpc:32≤c.toNat∧¬c.toNat=34∧¬c.toNat=92:=by
    unfold isPl at hc
    simp at hc
    exact⟨hc.1.1,hc.1.2,hc.2⟩
   have hsz:((c::l).flatMap qt1++[34]).length=((c::l).flatMap qt1).length+1:=by rw[List.length_append];rfl
   unfold txt
   simp only[hhead]
   rw[if_neg (by simp),if_neg hpc.2.1,if_neg hpc.2.2,h2,if_neg (by omega),h3,h4,txt_qt f r (said++p) (at_+p.length) (fun x hx=>h x (by rw[h1];simp[hx])) (by omega),h1]
   congr 2
   ·simp
   ·rw[←h1]
    omega
end Go.Proofs.YtcaeeackccgclaaGreatDoor
namespace Go.Proofs.YtcaeeackccgclaaGreatDoor
open Go.RowKit Go.Shelf
structure Std (L:List UInt8)(t:Tk):Prop where
 plain:t.kind=1∨t.kind=2∨t.kind=4∨t.kind=5→t.text≠[]∧t.pos+t.text.length≤L.length∧(L.drop t.pos).take t.text.length=t.text
 quote:t.kind=3→t.pos<L.length∧(L.getD t.pos 0).toNat=34
 none_:6≤t.kind→t.text=[]
 num:t.kind≠2→t.num=0
 kind:1≤t.kind∧t.kind≤8
 pos:t.pos≤L.length
 small:t.num≤9007199254740991
def AllStd (L:List UInt8)(p:Sp):Prop:=∀ t∈p.toks,Std L t
theorem AllStd.snoc {L:List UInt8}{p q:Sp}(h:AllStd L p)(t:Tk)(ht:Std L t)(hq:q.toks=p.toks++[t]):AllStd L q:=by
 intro x hx
 rw[hq]at hx
 rcases List.mem_append.1 hx with hx|hx
 ·exact h x hx
 ·rw[List.mem_singleton.1 hx];exact ht
theorem AllStd.add {L:List UInt8}{p:Sp}(h:AllStd L p)(k:Nat)(h1:6≤k)(h2:k≤8)(hp:p.pos≤L.length):AllStd L (p.add k):=
 h.snoc ⟨k,[],0,p.pos⟩ ⟨fun hk=>by exfalso;simp only at hk;omega,fun hk=>by exfalso;simp only at hk;omega,fun _=>rfl,fun _=>rfl,⟨by show 1≤k;omega,h2⟩,hp,by show 0≤_;omega⟩ rfl
end Go.Proofs.YtcaeeackccgclaaGreatDoor
