/- 43. -/
import Derived.Test.YtcaeeackccgclaaGreatDoorTx36
set_option maxHeartbeats 40000000
set_option maxRecDepth 100000
namespace Go.Proofs.YtcaeeackccgclaaGreatDoor
def lvT:Nat→List Tk→Prop
 |_,[]=>True
 |d,t::r=>if t.kind=7 then d+1≤30∧lvT (d+1) r else if t.kind=8 then 1≤d∧lvT (d-1) r else lvT d r
theorem lvT_app:∀ (u:List Tk) {d:Nat} {r:List Tk},(∀ t∈u,t.kind≠7∧t.kind≠8)→lvT d (u++r)→lvT d r
 |[],_,_,_,h=>h
 |t::u,d,r,hu,h=>by
  obtain⟨h7,h8⟩:=hu t List.mem_cons_self
  refine lvT_app u (fun x hx=>hu x (List.mem_cons_of_mem _ hx)) ?_
  have h2:lvT d (t::(u++r)):=h
  unfold lvT at h2
  rwa [if_neg h7,if_neg h8]at h2
structure SI (p:Ps):Prop where
 deep:p.deep=0
 few:p.toks.length≤50000
 lv:lvT p.blk p.toks
 blk:p.blk≤30
theorem SI.nx {p q:Ps}(h:SI p)(n:Nx p q):SI q:=by
 obtain⟨u,h1,h2⟩:=n.sf
 refine⟨n.deep.trans h.deep,Nat.le_trans n.le h.few,?_,by rw[n.blk];exact h.blk⟩
 rw[n.blk]
 have:=h.lv
 rw[h1]at this
 exact lvT_app u h2 this
def Ts {α:Type}(k:Nat)(p:Ps)(m:Px α)(J:α→Ps→Prop):Prop:=∃ z,m=some z∧∀ a q,z= .ok (a,q)→SI q∧q.blk=p.blk∧q.toks.length+k≤p.toks.length∧J a q
section
variable {α β:Type} {k j:Nat} {p:Ps} {m:Px α} {J J':α→Ps→Prop} {K:β→Ps→Prop}
theorem Tt.ts (h:Tt k p m J)(hp:SI p):Ts k p m J:=by
 obtain⟨z,e,hz⟩:=h
 refine⟨z,e,fun a q ha=>?_⟩
 obtain⟨h1,h2,h3⟩:=hz a q ha
 exact⟨hp.nx h1,h1.blk,h2,h3⟩
theorem Ts.bnd {f:α→Ps→Px β}(h:Ts k p m J)(g:∀ a q,SI q→q.blk=p.blk→q.toks.length+k≤p.toks.length→J a q→Ts j q (f a q) K):Ts (k+j) p (bnd m f) K:=by
 obtain⟨z,rfl,hz⟩:=h
 match z,hz with
 | .error x,_=>exact⟨.error x,rfl,fun a q e=>by cases e⟩
 | .ok (a,q),hz=>
  obtain⟨h1,h2,h3,h4⟩:=hz a q rfl
  obtain⟨z2,e2,h5⟩:=g a q h1 h2 h3 h4
  refine⟨z2,e2,fun b r hb=>?_⟩
  obtain⟨h6,h7,h8,h9⟩:=h5 b r hb
  exact⟨h6,h7.trans h2,by omega,h9⟩
theorem Ts.mono (h:Ts k p m J)(hk:j≤k)(hJ:∀ a q,J a q→J' a q):Ts j p m J':=by
 obtain⟨z,e,hz⟩:=h
 refine⟨z,e,fun a q ha=>?_⟩
 obtain⟨h1,h2,h3,h4⟩:=hz a q ha
 exact⟨h1,h2,by omega,hJ a q h4⟩
theorem ts_ok (a:α)(hp:SI p)(h:J a p):Ts 0 p (ok a p) J:=⟨_,rfl,fun b q e=>by cases e;exact⟨hp,rfl,Nat.le_refl _,h⟩⟩
end
abbrev Any {α:Type}:α→Ps→Prop:=fun _ _=>True
theorem tkS_ts (x:List UInt8){p:Ps}(hp:SI p):Ts 1 p (tkS x p) Any:=((tkS_tt x p).ts hp).mono (Nat.le_refl _) (fun _ _ _=>trivial)
theorem tkK_ts (k:Nat){p:Ps}(hp:SI p)(h0:k≠0)(h7:k≠7)(h8:k≠8):Ts 1 p (tkK k p) Any:=((tkK_tt k p h0 h7 h8).ts hp).mono (Nat.le_refl _) (fun _ _ _=>trivial)
theorem guIf_ts (b:Bool)(c:Nat){p:Ps}(hp:SI p):Ts 0 p (guIf b c p) Any:=((guIf_tt b c p).ts hp).mono (Nat.le_refl _) (fun _ _ _=>trivial)
section
variable {E:Ps→Px Ex}
theorem givS_ts (hE:∀ p,SI p→Ts 1 p (E p) Any){p:Ps}(hp:SI p):Ts 1 p (givS E p) Any:=by
 refine(Ts.bnd (k:=0) (j:=1) (guIf_ts _ 4 hp) fun _ q hq _ _ _=>?_).mono (by omega) (fun _ _ h=>h)
 refine(Ts.bnd (k:=1) (j:=0) (tkS_ts _ hq) fun _ r hr _ _ _=>?_).mono (by omega) (fun _ _ h=>h)
 cases h6:r.nx.kind==6 with
 |true=>exact ts_ok _ hr trivial
 |false=>exact(Ts.bnd (k:=1) (j:=0) (hE r hr) fun e s hs _ _ _=>ts_ok (J:=Any) _ hs trivial).mono (Nat.zero_le _) (fun _ _ h=>h)
theorem setS_ts (hE:∀ p,SI p→Ts 1 p (E p) Any){p:Ps}(hp:SI p):Ts 1 p (setS E p) Any:=by
 refine(Ts.bnd (k:=1) (j:=0) (tkK_ts 1 hp (by decide) (by decide) (by decide)) fun t q hq _ _ _=>?_).mono (by omega) (fun _ _ h=>h)
 refine(Ts.bnd (k:=1) (j:=0) (tkS_ts _ hq) fun _ r hr _ _ _=>?_).mono (Nat.zero_le _) (fun _ _ h=>h)
 exact(Ts.bnd (k:=1) (j:=0) (hE r hr) fun e s hs _ _ _=>ts_ok (J:=Any) _ hs trivial).mono (Nat.zero_le _) (fun _ _ h=>h)
theorem ldL_ts:∀ (f:Nat) (l:List (List UInt8)) (p:Ps),SI p→l.length+p.toks.length≤60000→p.toks.length<f→Ts 0 p (ldL f l p) Any
 |0,_,_,_,_,h=>by omega
 |f+1,l,p,hp,hl,hf=>by
  unfold ldL
  cases hc:decide (0<l.length)&&p.sees [[41]]with
  |true=>exact ts_ok l hp trivial
  |false=>
   have hn:decide (l.length<1000000)=true:=by rw[decide_eq_true_eq];omega
   rw[hn]
   refine(Ts.bnd (k:=1) (j:=0) (tkS_ts _ hp) fun _ q hq _ l1 _=>?_).mono (Nat.zero_le _) (fun _ _ h=>h)
   refine(Ts.bnd (k:=0) (j:=0) (guIf_ts _ 1 hq) fun _ r hr _ l2 _=>?_).mono (Nat.zero_le _) (fun _ _ h=>h)
   refine(Ts.bnd (k:=1) (j:=0) (tkK_ts 3 hr (by decide) (by decide) (by decide)) fun t s hs _ l3 _=>?_).mono (Nat.zero_le _) (fun _ _ h=>h)
   have hls:less s p=true:=by unfold less;rw[decide_eq_true_eq];omega
   rw[hls]
   exact ldL_ts f _ s hs (by rw[List.length_append,List.length_singleton];omega) (by omega)
theorem loadS_ts {p:Ps}(hp:SI p):Ts 1 p (loadS p) Any:=by
 refine(Ts.bnd (k:=0) (j:=1) (guIf_ts _ 4 hp) fun _ q hq _ _ _=>?_).mono (by omega) (fun _ _ h=>h)
 refine(Ts.bnd (k:=1) (j:=0) (tkS_ts _ hq) fun _ r hr _ _ _=>?_).mono (by omega) (fun _ _ h=>h)
 refine(Ts.bnd (k:=1) (j:=0) (tkS_ts _ hr) fun _ s hs _ _ _=>?_).mono (Nat.zero_le _) (fun _ _ h=>h)
 refine(Ts.bnd (k:=1) (j:=0) (tkK_ts 3 hs (by decide) (by decide) (by decide)) fun t u hu _ _ _=>?_).mono (Nat.zero_le _) (fun _ _ h=>h)
 refine(Ts.bnd (k:=0) (j:=0) (ldL_ts _ [] u hu (by have:=hu.few;simp;omega) (Nat.lt_succ_self _)) fun l v hv _ _ _=>?_).mono (Nat.zero_le _) (fun _ _ h=>h)
 exact(Ts.bnd (k:=1) (j:=0) (tkS_ts _ hv) fun _ w hw _ _ _=>ts_ok (J:=Any) _ hw trivial).mono (Nat.zero_le _) (fun _ _ h=>h)
theorem smlF_ts (hE:∀ p,SI p→Ts 1 p (E p) Any){p:Ps}(hp:SI p):Ts 1 p (smlF E p) Any:=by
 unfold smlF
 cases h0:p.sees [[112,97,115,115]]with
 |true=>
  obtain⟨n0,l0⟩:=sees_adv h0
  exact⟨_,rfl,fun a q e=>by cases e;exact⟨hp.nx n0,n0.blk,l0,trivial⟩⟩
 |false=>
 cases h1:p.sees [[114,101,116,117,114,110]]with
 |true=>exact givS_ts hE hp
 |false=>
 cases h2:p.sees [[108,111,97,100]]with
 |true=>exact loadS_ts hp
 |false=>
 cases h3:sSet p with
 |true=>exact setS_ts hE hp
 |false=>exact(Ts.bnd (k:=1) (j:=0) (hE p hp) fun e s hs _ _ _=>ts_ok (J:=Any) _ hs trivial).mono (Nat.le_refl _) (fun _ _ h=>h)
theorem blL_ts {St:Ps→Px Sm}{b:Nat}(hSt:∀ p,SI p→p.blk=b→Ts 1 p (St p) Any):∀ (f:Nat) (l:List Sm) (p:Ps),SI p→p.blk=b→l.length+p.toks.length≤60000→p.toks.length<f→Ts 0 p (blL St f l p) (fun _ q=>q.nx.kind=8)
 |0,_,_,_,_,_,h=>by omega
 |f+1,l,p,hp,hb,hl,hf=>by
  unfold blL
  cases hk:p.nx.kind==8 with
  |true=>exact ts_ok l hp (by simpa using hk)
  |false=>
   have hn:decide (l.length<1000000)=true:=by rw[decide_eq_true_eq];omega
   rw[hn]
   refine(Ts.bnd (k:=1) (j:=0) (hSt p hp hb) fun s q hq hqb l1 _=>?_).mono (Nat.zero_le _) (fun _ _ h=>h)
   have hls:less q p=true:=by unfold less;rw[decide_eq_true_eq];omega
   rw[hls]
   exact blL_ts hSt f _ q hq (hqb.trans hb) (by rw[List.length_append,List.length_singleton];omega) (by omega)
theorem nx_nil {p:Ps}(h:p.toks=[]):p.nx=⟨0,[],0,p.fin⟩:=by unfold Ps.nx;rw[h]
theorem blF_ts {St:Ps→Px Sm}{p:Ps}(hp:SI p)(hSt:∀ q,SI q→q.blk=p.blk+1→Ts 1 q (St q) Any):Ts 1 p (blF St p) Any:=by
 refine(Ts.bnd (k:=1) (j:=0) (tkS_ts _ hp) fun _ q hq hqb l1 _=>?_).mono (by omega) (fun _ _ h=>h)
 refine(Ts.bnd (k:=1) (j:=0) (tkK_ts 6 hq (by decide) (by decide) (by decide)) fun _ r hr hrb l2 _=>?_).mono (Nat.zero_le _) (fun _ _ h=>h)
 unfold tkK
 cases hk:r.nx.kind==7 with
 |false=>exact⟨_,rfl,fun a q e=>by cases e⟩
 |true=>
  match hrt:r.toks with
  |[]=>rw[nx_nil hrt]at hk;simp at hk
  |t::rest=>
   rw[nx_of hrt]at hk
   have hk7:t.kind=7:=by simpa using hk
   have hlv:=hr.lv
   rw[hrt]at hlv
   unfold lvT at hlv
   rw[if_pos hk7]at hlv
   have e0:r.adv.toks=rest:=by show r.toks.drop 1=rest;rw[hrt];rfl
   have hfew:=hr.few
   rw[hrt,List.length_cons]at hfew
   have hB:SI r.adv.bin:=⟨hr.deep,by show r.adv.toks.length≤50000;rw[e0];omega,by show lvT (r.blk+1) r.adv.toks;rw[e0];exact hlv.2,hlv.1⟩
   show Ts 0 r (iff (decide (r.adv.blk<1000)) _) Any
   have hd:decide (r.adv.blk<1000)=true:=by
    rw[decide_eq_true_eq]
    show r.blk<1000
    have:=hr.blk
    omega
   rw[hd]
   obtain⟨z,e1,hz⟩:=blL_ts (b:=p.blk+1) hSt (r.adv.toks.length+1) [] r.adv.bin hB (by show r.blk+1=p.blk+1;omega) (by have:=hB.few;simp;omega) (Nat.lt_succ_self _)
   show Ts 0 r (bnd (blL St (r.adv.toks.length+1) [] r.adv.bin) _) Any
   rw[e1]
   match z,hz with
   | .error x,_=>exact⟨_,rfl,fun a q e=>by cases e⟩
   | .ok (l,q2),hz=>
    obtain⟨h1,h2,h3,h4⟩:=hz l q2 rfl
    have h2':q2.blk=r.blk+1:=h2
    show Ts 0 r (iff (decide (1≤q2.blk)) (bnd (tkK 8 q2.bout) fun _ q=>ok l q)) Any
    rw[show decide (1≤q2.blk)=true by rw[decide_eq_true_eq];omega]
    show Ts 0 r (bnd (tkK 8 q2.bout) fun _ q=>ok l q) Any
    match hqt:q2.toks with
    |[]=>rw[nx_nil hqt]at h4;simp at h4
    |u::rest2=>
     have hu:u.kind=8:=by rw[nx_of hqt]at h4;exact h4
     have hlv2:=h1.lv
     rw[hqt]at hlv2
     unfold lvT at hlv2
     rw[if_neg (by omega),if_pos hu]at hlv2
     have e3:q2.bout.nx=u:=nx_of (p:=q2.bout) hqt
     have e4:tkK 8 q2.bout=ok u q2.bout.adv:=by unfold tkK;rw[e3,hu];rfl
     rw[e4]
     have e5:q2.bout.adv.toks=rest2:=by show q2.toks.drop 1=rest2;rw[hqt];rfl
     have hfew2:=h1.few
     rw[hqt,List.length_cons]at hfew2
     have hl3:q2.toks.length+0≤r.adv.toks.length:=h3
     rw[hqt,e0,List.length_cons]at hl3
     refine⟨_,rfl,fun a q e=>?_⟩
     cases e
     refine⟨⟨h1.deep,by rw[e5];omega,?_,by show q2.blk-1≤30;have:=h1.blk;omega⟩,by show q2.blk-1=r.blk;omega,by rw[e5,hrt,List.length_cons];omega,trivial⟩
     show lvT (q2.blk-1) q2.bout.adv.toks
     rw[e5]
     exact hlv2.2
section
variable {B:Ps→Px (List Sm)}
theorem condS_ts (hE:∀ p,SI p→Ts 1 p (E p) Any){p:Ps}(hp:SI p)(hB:∀ q,SI q→q.blk=p.blk→Ts 1 q (B q) Any):Ts 1 p (condS E B p) Any:=by
 refine(Ts.bnd (k:=1) (j:=0) (tkS_ts _ hp) fun _ q hq b1 _ _=>?_).mono (by omega) (fun _ _ h=>h)
 refine(Ts.bnd (k:=1) (j:=0) (hE q hq) fun e r hr b2 _ _=>?_).mono (Nat.zero_le _) (fun _ _ h=>h)
 refine(Ts.bnd (k:=1) (j:=0) (hB r hr (b2.trans b1)) fun bl s hs b3 _ _=>?_).mono (Nat.zero_le _) (fun _ _ h=>h)
 cases he:s.sees [[101,108,115,101]]with
 |false=>exact ts_ok (J:=Any) _ hs trivial
 |true=>
  obtain⟨n0,l0⟩:=sees_adv he
  have h0:=hs.nx n0
  obtain⟨z,e1,hz⟩:=(Ts.bnd (k:=1) (j:=0) (hB s.adv h0 (n0.blk.trans (b3.trans (b2.trans b1)))) fun c t ht _ _ _=>ts_ok (J:=Any) (⟨7,[],[],e,bl,c⟩:Sm) ht trivial)
  refine⟨z,e1,fun a q ha=>?_⟩
  obtain⟨k1,k2,k3,k4⟩:=hz a q ha
  exact⟨k1,k2.trans n0.blk,by omega,trivial⟩
theorem loopS_ts (hE:∀ p,SI p→Ts 1 p (E p) Any){p:Ps}(hp:SI p)(hB:∀ q,SI q→q.blk=p.blk→Ts 1 q (B q) Any):Ts 1 p (loopS E B p) Any:=by
 refine(Ts.bnd (k:=1) (j:=0) (tkS_ts _ hp) fun _ q hq b1 _ _=>?_).mono (by omega) (fun _ _ h=>h)
 refine(Ts.bnd (k:=1) (j:=0) (tkK_ts 1 hq (by decide) (by decide) (by decide)) fun t r hr b2 _ _=>?_).mono (Nat.zero_le _) (fun _ _ h=>h)
 refine(Ts.bnd (k:=1) (j:=0) (tkS_ts _ hr) fun _ s hs b3 _ _=>?_).mono (Nat.zero_le _) (fun _ _ h=>h)
 refine(Ts.bnd (k:=1) (j:=0) (hE s hs) fun e u hu b4 _ _=>?_).mono (Nat.zero_le _) (fun _ _ h=>h)
 exact(Ts.bnd (k:=1) (j:=0) (hB u hu (b4.trans (b3.trans (b2.trans b1)))) fun bl v hv _ _ _=>ts_ok (J:=Any) _ hv trivial).mono (Nat.zero_le _) (fun _ _ h=>h)
theorem SI.din {p:Ps}(h:SI p)(b:Bool):SI (p.din b):=⟨h.deep,h.few,h.lv,h.blk⟩
theorem nms_ts {p:Ps}(hp:SI p):Ts 1 p (lst [41] nmE [] p) Any:=by
 refine((lst_tt (fun l q=>l.length+q.toks.length≤60000) (fun _ _ _ h n=>by have:=n.le;omega) (fun l q h=>?_) (p.toks.length+1) true [] p (by have:=hp.few;simp;omega) (Nat.lt_succ_self _)).ts hp).mono (Nat.le_refl _) (fun _ _ _=>trivial)
 unfold nmE
 refine tt_iff (by rw[decide_eq_true_eq];omega) ?_
 exact(Tt.bnd (k:=1) (j:=0) (tkN_tt l q) fun x r n l1 _=>tt_ok (J:=fun l q=>l.length+q.toks.length≤60000) (l++[x]) (by rw[List.length_append,List.length_singleton];omega)).mono (Nat.le_refl _) (fun _ _ _ _ h=>h)
theorem defS_ts {p:Ps}(hp:SI p)(hB:∀ q,SI q→q.blk=p.blk→Ts 1 q (B q) Any):Ts 1 p (defS B p) Any:=by
 refine(Ts.bnd (k:=0) (j:=1) (guIf_ts _ 4 hp) fun _ q hq b1 _ _=>?_).mono (by omega) (fun _ _ h=>h)
 refine(Ts.bnd (k:=1) (j:=0) (tkS_ts _ hq) fun _ r hr b2 _ _=>?_).mono (by omega) (fun _ _ h=>h)
 refine(Ts.bnd (k:=1) (j:=0) (tkK_ts 1 hr (by decide) (by decide) (by decide)) fun t s hs b3 _ _=>?_).mono (Nat.zero_le _) (fun _ _ h=>h)
 refine(Ts.bnd (k:=1) (j:=0) (tkS_ts _ hs) fun _ u hu b4 _ _=>?_).mono (Nat.zero_le _) (fun _ _ h=>h)
 refine(Ts.bnd (k:=1) (j:=0) (nms_ts hu) fun l v hv b5 _ _=>?_).mono (Nat.zero_le _) (fun _ _ h=>h)
 obtain⟨z,e1,hz⟩:=hB (v.din true) (hv.din true) (b5.trans (b4.trans (b3.trans (b2.trans b1))))
 rw[e1]
 match z,hz with
 | .error x,_=>exact⟨_,rfl,fun a q e=>by cases e⟩
 | .ok (bl,w),hz=>
  obtain⟨k1,k2,k3,_⟩:=hz bl w rfl
  refine⟨_,rfl,fun a q e=>?_⟩
  cases e
  exact⟨k1.din false,k2,Nat.le_trans (Nat.le_succ _) k3,trivial⟩
theorem stmF_ts (hE:∀ p,SI p→Ts 1 p (E p) Any){p:Ps}(hp:SI p)(hB:∀ q,SI q→q.blk=p.blk→Ts 1 q (B q) Any):Ts 1 p (stmF E B p) Any:=by
 unfold stmF
 cases h0:p.sees [[105,102]]with
 |true=>exact condS_ts hE hp hB
 |false=>
 cases h1:p.sees [[102,111,114]]with
 |true=>exact loopS_ts hE hp hB
 |false=>
 cases h2:p.sees [[100,101,102]]with
 |true=>exact defS_ts hp hB
 |false=>
 refine(Ts.bnd (k:=1) (j:=0) (smlF_ts hE hp) fun s q hq _ _ _=>?_).mono (Nat.le_refl _) (fun _ _ h=>h)
 exact(Ts.bnd (k:=1) (j:=0) (tkK_ts 6 hq (by decide) (by decide) (by decide)) fun _ r hr _ _ _=>ts_ok (J:=Any) _ hr trivial).mono (Nat.zero_le _) (fun _ _ h=>h)
end
theorem stD_ts (hE:∀ p,SI p→Ts 1 p (E p) Any):∀ (n:Nat) (p:Ps),SI p→31≤n+p.blk→Ts 1 p (stD E n p) Any
 |0,p,hp,h=>by have:=hp.blk;omega
 |n+1,p,hp,h=>by
  unfold stD
  refine stmF_ts hE hp fun q hq hb=>blF_ts hq fun r hr hrb=>stD_ts hE n r hr (by omega)
theorem srcL_ts {St:Ps→Px Sm}(hSt:∀ p,SI p→Ts 1 p (St p) Any):∀ (f:Nat) (l:List Sm) (p:Ps),SI p→l.length+p.toks.length≤60000→p.toks.length<f→Ts 0 p (srcL St f l p) (fun _ q=>q.toks=[])
 |0,_,_,_,_,h=>by omega
 |f+1,l,p,hp,hl,hf=>by
  unfold srcL
  cases hk:decide (p.toks.length=0)with
  |true=>exact ts_ok l hp (List.length_eq_zero_iff.1 (of_decide_eq_true hk))
  |false=>
   have hn:decide (l.length<1000000)=true:=by rw[decide_eq_true_eq];omega
   rw[hn]
   refine(Ts.bnd (k:=1) (j:=0) (hSt p hp) fun s q hq hqb l1 _=>?_).mono (Nat.zero_le _) (fun _ _ h=>h)
   have hls:less q p=true:=by unfold less;rw[decide_eq_true_eq];omega
   rw[hls]
   exact srcL_ts hSt f _ q hq (by rw[List.length_append,List.length_singleton];omega) (by omega)
theorem srcF_ts {p:Ps}(hp:SI p):Ts 0 p (srcF (exF 40) p) (fun _ q=>q.toks=[]):=by
 have hE:∀ p,SI p→Ts 1 p (exF 40 p) Any:=fun p hp=>(exF_tt 40 p (by rw[hp.deep];omega) (by omega) hp.few).ts hp
 exact srcL_ts (fun p hp=>stD_ts hE 40 p hp (by omega)) _ [] p hp (by have:=hp.few;simp;omega) (Nat.lt_succ_self _)
end
end Go.Proofs.YtcaeeackccgclaaGreatDoor
namespace Go.Proofs.YtcaeeackccgclaaGreatDoor
open Go.RowKit Go.Shelf
theorem pcatch_idle (p q:Addr)(w:World):
  CallsD Tryz.prog 21 #[.pointer (some p),.pointer (some q)] .returning w fun e u' w'=>e= .returned (.tuple #[])∧u'= .returning∧Below w.heap.size w w':=by
 refine callsD_of_wpS Tryz.func21 rfl fun c₀ cs hu=>?_
 apply wpS_seq
 apply wpS_region
 simp[wpOpsS,go_sem,recoverD,hu,Tryz.ntmps21,Exit.thenS,ta_nil]
 apply wpS_seq
 apply wpS_region
 simp[wpOpsS,go_sem,Exit.thenS]
 refine wpS_cond (t:=false) (by simp[Act.eval,Array.replicate]) ?_
 simp only[Bool.false_eq_true,if_false]
 refine wpS_of_wp (wp_skip ?_)
 have hb:Below w.heap.size w (w.alloc (.cells #[.int .i64 0,.int .i64 0] 25)):=(Below.refl _ w).alloc (Nat.le_refl _) _
 cases c₀
 simp_all [bodyPostS,results,Tryz.results21]
theorem pcatch_pan (B lb fb:Nat)(x y0 y1:Value)(k:Int)(z:Nat)(older:List PanicEntry)(w:World)(h0:w.cell? ⟨lb,0,none⟩=some x)(h1:w.cell? ⟨fb,0,none⟩=some y0)(h2:w.cell? ⟨fb,1,none⟩=some y1)
  (f0:w.frozen? ⟨lb,0,none⟩=false) (f1:w.frozen? ⟨fb,0,none⟩=false) (f2:w.frozen? ⟨fb,1,none⟩=false) (hn:¬lb=fb) (hB:B≤lb) (hB2:B≤fb):
  CallsD Tryz.prog 21 #[.pointer (some ⟨lb,0,none⟩),.pointer (some ⟨fb,0,none⟩)] (.panicking ({v:= .iface 25 (.agg #[.int .i64 k,.int .i64 z]),recovered:=false}::older)) w fun e u' w'=>
   e= .returned (.tuple #[])∧u'= .panicking ({v:= .iface 25 (.agg #[.int .i64 k,.int .i64 z]),recovered:=true}::older)∧w'.cell? ⟨lb,0,none⟩=some (.slice none 0 0)∧w'.cell? ⟨fb,0,none⟩=some (.int .i64 k)∧w'.cell? ⟨fb,1,none⟩=some (.int .i64 z)∧Below B w w':=by
 refine callsD_of_wpS Tryz.func21 rfl fun c₀ cs hu=>?_
 apply wpS_seq
 apply wpS_region
 simp[wpOpsS,go_sem,recoverD,hu,Tryz.ntmps21,Exit.thenS,ta_yes]
 apply wpS_seq
 apply wpS_region
 simp[wpOpsS,go_sem,Exit.thenS]
 refine wpS_cond (t:=true) (by simp[Act.eval,Array.replicate]) ?_
 simp only[if_true]
 refine wpS_of_wp ?_
 simp[Array.replicate]
 have hpl:lb<w.heap.size:=World.block_lt_of_cell? w ⟨lb,0,none⟩ h0
 have hql:fb<w.heap.size:=World.block_lt_of_cell? w ⟨fb,0,none⟩ h1
 have hnew:=heap_alloc_new w (.cells #[.int .i64 k,.int .i64 (z:Int)] 25)
 have g0:(w.alloc (.cells #[.int .i64 k,.int .i64 (z:Int)] 25)).cell? ⟨lb,0,none⟩=some x:=(World.cell?_alloc_past _ _ _ hpl).trans h0
 have g1:(w.alloc (.cells #[.int .i64 k,.int .i64 (z:Int)] 25)).cell? ⟨fb,0,none⟩=some y0:=(World.cell?_alloc_past _ _ _ hql).trans h1
 have g2:(w.alloc (.cells #[.int .i64 k,.int .i64 (z:Int)] 25)).cell? ⟨fb,1,none⟩=some y1:=(World.cell?_alloc_past _ _ _ hql).trans h2
 have e0:(w.alloc (.cells #[.int .i64 k,.int .i64 (z:Int)] 25)).frozen? ⟨lb,0,none⟩=false:=(World.frozen?_of_block (heap_al w _ lb hpl)).trans f0
 have e1:(w.alloc (.cells #[.int .i64 k,.int .i64 (z:Int)] 25)).frozen? ⟨fb,0,none⟩=false:=(World.frozen?_of_block (heap_al w _ fb hql)).trans f1
 have e2:(w.alloc (.cells #[.int .i64 k,.int .i64 (z:Int)] 25)).frozen? ⟨fb,1,none⟩=false:=(World.frozen?_of_block (heap_al w _ fb hql)).trans f2
 have n0:(w.alloc (.cells #[.int .i64 k,.int .i64 (z:Int)] 25)).cell? ⟨w.heap.size,0,none⟩=some (.int .i64 k):=by rw[Lib.cell_of_heap hnew];rfl
 have n1:(w.alloc (.cells #[.int .i64 k,.int .i64 (z:Int)] 25)).cell? ⟨w.heap.size,1,none⟩=some (.int .i64 (z:Int)):=by rw[Lib.cell_of_heap hnew];rfl
 have HB:Hid (Below B w (w.alloc (.cells #[.int .i64 k,.int .i64 (z:Int)] 25))):=(Below.refl B w).alloc (by omega) _
 have m1:¬w.heap.size=lb:=by omega
 have m2:¬w.heap.size=fb:=by omega
 clear h0 h1 h2 f0 f1 f2 hpl hql hnew
 generalize w.alloc (.cells #[.int .i64 k,.int .i64 (z:Int)] 25)=W at *
 generalize w.heap.size=Z at *
 go_region_with fail
 all_goals
  have hb:Below B w (((W.setCell ⟨lb,0,none⟩ (.slice none 0 0)).setCell ⟨fb,0,none⟩ (.int .i64 k)).setCell ⟨fb,1,none⟩ (.int .i64 (z:Int))).drew:=(((HB.out.setCell (p:=⟨lb,0,none⟩) hB _).setCell (p:=⟨fb,0,none⟩) hB2 _).setCell (p:=⟨fb,1,none⟩) hB2 _).drew
  cases c₀
  simp[bodyPostS,results,Tryz.results21,go_sem,g0,g1,g2,hb]
theorem RwS.mono {n m:Nat}{w:World}{l:List Sm}{v:Value}{vs:List (List Value)}(h:RwS n w l v vs)(hm:m≤n):RwS m w l v vs:=⟨row_mono h.row hm,h.fa.mono fun _ _ f=>f.mono fun _ hg _=>⟨Nat.le_trans hm hg.1,hg.2⟩⟩
def ParP (w:World)(r:Except Ft (List Sm))(e:Ending)(w':World):Prop:=
 (∀ (k z:Nat),r= .error (k,z)→e= .returned (.tuple #[.slice none 0 0,.agg #[.int .i64 (k:Int),.int .i64 (z:Int)]]))∧
 (∀ l,r= .ok l→∃ v vs,e= .returned (.tuple #[v,.agg #[.int .i64 0,.int .i64 0]])∧RwS w.heap.size w' l v vs)∧Below w.heap.size w w'
def bpW (tv:Value)(n:Nat)(w:World):World:=((w.alloc (.cells #[.slice none 0 0] 28)).alloc (.cells #[.int .i64 0,.int .i64 0] 25)).alloc (.cells #[tv,.int .i64 n,.int .i64 0,.bool false,.int .i64 0] 60)
theorem bp_facts {B:Nat}{toks:List Tk}{ao:Option Addr}{cp:Nat}{w:World}(n:Nat)(hr:w.ownsRow B 84 4 (.slice ao toks.length cp) toks.length (tcs toks)):∃ T,PsA (w.heap.size+1+1) T (bpW (.slice ao toks.length cp) n w) ⟨toks,n,0,false,0⟩∧Below w.heap.size w (bpW (.slice ao toks.length cp) n w)∧
  (bpW (.slice ao toks.length cp) n w).heap[w.heap.size]? =some (.cells #[.slice none 0 0] 28 (0,0))∧(bpW (.slice ao toks.length cp) n w).heap[w.heap.size+1]? =some (.cells #[.int .i64 0,.int .i64 0] 25 (0,0))∧(bpW (.slice ao toks.length cp) n w).heap.size=w.heap.size+1+1+1:=by
 have s1:(w.alloc (.cells #[.slice none 0 0] 28)).heap.size=w.heap.size+1:=World.size_alloc _ _
 have s2:((w.alloc (.cells #[.slice none 0 0] 28)).alloc (.cells #[.int .i64 0,.int .i64 0] 25)).heap.size=w.heap.size+1+1:=by rw[World.size_alloc,s1]
 have s3:(bpW (.slice ao toks.length cp) n w).heap.size=w.heap.size+1+1+1:=by unfold bpW;rw[World.size_alloc,s2]
 have k0:∀ g,g<w.heap.size→(bpW (.slice ao toks.length cp) n w).heap[g]? =w.heap[g]? :=fun g hg=>by
  unfold bpW
  rw[heap_al _ _ _ (by rw[s2];omega),heap_al _ _ _ (by rw[s1];omega),heap_al _ _ _ hg]
 have b0:(bpW (.slice ao toks.length cp) n w).heap[w.heap.size]? =some (.cells #[.slice none 0 0] 28 (0,0)):=by
  unfold bpW
  rw[heap_al _ _ _ (by rw[s2];omega),heap_al _ _ _ (by rw[s1];omega)]
  exact heap_alloc_new w _
 have b1:(bpW (.slice ao toks.length cp) n w).heap[w.heap.size+1]? =some (.cells #[.int .i64 0,.int .i64 0] 25 (0,0)):=by
  unfold bpW
  rw[heap_al _ _ _ (by rw[s2];omega),←s1]
  exact heap_alloc_new _ _
 have b2:(bpW (.slice ao toks.length cp) n w).heap[w.heap.size+1+1]? =some (.cells #[.slice ao toks.length cp,.int .i64 n,.int .i64 0,.bool false,.int .i64 0] 60 (0,0)):=by
  unfold bpW
  rw[←s2]
  exact heap_alloc_new _ _
 have hbb:Below w.heap.size w (bpW (.slice ao toks.length cp) n w):=by
  unfold bpW
  exact(((Below.refl _ w).alloc (Nat.le_refl _) _).alloc (by rw[s1];omega) _).alloc (by rw[s2];omega) _
 rcases hr.2 with⟨_,e0⟩|⟨g,cap,cur,hv,h2,h3,h4,h5,h6,h7⟩
 ·exact⟨0,⟨ao,cp,0,b2,(by show toks.length≤cp;omega),Nat.zero_le _,(fun h=>absurd h (by show ¬0<toks.length;omega)),(fun j hj=>absurd hj (by show ¬j<toks.length*4;omega)),by omega,by omega,Nat.zero_le _,Nat.zero_le _⟩,hbb,b0,b1,s3⟩
 ·cases hv
  have hg:g<w.heap.size:=(Array.getElem?_eq_some_iff.1 h3).1
  refine⟨g,⟨some ⟨g,0,none⟩,cp,0,b2,h4,Nat.zero_le _,fun _=>rfl,fun j hj=>?_,by omega,by omega,Nat.zero_le _,Nat.zero_le _⟩,hbb,b0,b1,s3⟩
  ·rw[Nat.zero_add,Lib.cell_of_heap ((k0 g hg).trans h3),←h7,List.getElem?_take_of_lt hj]
   simp
theorem parse_any {B:Nat}{toks:List Tk}{tv:Value}{w:World}(he:ErrR w)(n:Nat)(hr:w.ownsRow B 84 4 tv toks.length (tcs toks)){E:Ps→Px Ex}(hE:∀ P T,MethC P T 70 E){l:List Sm}{q:Ps}(hz:srcF E ⟨toks,n,0,false,0⟩=some (.ok (l,q))):
  Calls Tryz.prog 14 #[tv,.int .i64 n] w (ParP w (.ok l)):=by
 have hmf:∀ (fn:Fn) (first cap:Array Value) (w:World),(Instr.makeFunc fn first cap).run Tryz.prog w= .ok (.func fn first cap) w:=fun _ _ _ _=>rfl
 obtain⟨ao,cp,rfl⟩:=row_shape hr
 obtain⟨T,t0,hb0,l0,f0,s0⟩:=bp_facts n hr
 have HLn:=source_any (stD_any (hE _ T) 40) _ _ _ t0 (he.up hb0) hz
 rw[s0]at HLn
 have HB0:Hid (Below w.heap.size w (bpW (.slice ao toks.length cp) n w)∧(bpW (.slice ao toks.length cp) n w).heap[w.heap.size]? =some (.cells #[.slice none 0 0] 28 (0,0))∧(bpW (.slice ao toks.length cp) n w).heap[w.heap.size+1]? =some (.cells #[.int .i64 0,.int .i64 0] 25 (0,0))∧(bpW (.slice ao toks.length cp) n w).heap.size=w.heap.size+1+1+1):=⟨hb0,l0,f0,s0⟩
 clear t0 hb0 l0 f0 s0 hr hz hE he
 unfold bpW at *
 go_enter_defers Tryz.func14,Tryz.ntmps14
 go_wp2_with fail
 refine HLn.mono ?_
 rintro e w1 ⟨v,rfl,⟨vs,hrw⟩,hps,hk⟩
 obtain⟨a1,c1,rfl⟩:=row_shape hrw.row
 have l1:=(hk.blk w.heap.size (by have:=HB0.out.2.2.2;omega) (by omega)).trans HB0.out.2.1
 have f1:=(hk.blk (w.heap.size+1) (by have:=HB0.out.2.2.2;omega) (by omega)).trans HB0.out.2.2.1
 have HB1:Hid (Below w.heap.size w w1):=HB0.out.1.trans (hk.below (by omega) (by have:=HB0.out.2.2.2;omega))
 have q0:w1.cell? ⟨w.heap.size,0,none⟩=some (.slice none 0 0):=by rw[Lib.cell_of_heap l1];rfl
 have q1:w1.cell? ⟨w.heap.size+1,0,none⟩=some (.int .i64 0):=by rw[Lib.cell_of_heap f1];rfl
 have q2:w1.cell? ⟨w.heap.size+1,1,none⟩=some (.int .i64 0):=by rw[Lib.cell_of_heap f1];rfl
 have r0:w1.frozen? ⟨w.heap.size,0,none⟩=false:=Lib.frozen_of_heap l1 0
 have r1:w1.frozen? ⟨w.heap.size+1,0,none⟩=false:=Lib.frozen_of_heap f1 0
 have r2:w1.frozen? ⟨w.heap.size+1,1,none⟩=false:=Lib.frozen_of_heap f1 1
 have s0:(((w1.setCell ⟨w.heap.size,0,none⟩ (.slice a1 l.length c1)).setCell ⟨w.heap.size+1,0,none⟩ (.int .i64 0)).setCell ⟨w.heap.size+1,1,none⟩ (.int .i64 0)).cell? ⟨w.heap.size,0,none⟩=some (.slice a1 l.length c1):=by simp[go_sem,q0]
 have s1:(((w1.setCell ⟨w.heap.size,0,none⟩ (.slice a1 l.length c1)).setCell ⟨w.heap.size+1,0,none⟩ (.int .i64 0)).setCell ⟨w.heap.size+1,1,none⟩ (.int .i64 0)).cell? ⟨w.heap.size+1,0,none⟩=some (.int .i64 0):=by simp[go_sem,q1]
 have s2:(((w1.setCell ⟨w.heap.size,0,none⟩ (.slice a1 l.length c1)).setCell ⟨w.heap.size+1,0,none⟩ (.int .i64 0)).setCell ⟨w.heap.size+1,1,none⟩ (.int .i64 0)).cell? ⟨w.heap.size+1,1,none⟩=some (.int .i64 0):=by simp[go_sem,q2]
 have HS:Hid ((((w1.setCell ⟨w.heap.size,0,none⟩ (.slice a1 l.length c1)).setCell ⟨w.heap.size+1,0,none⟩ (.int .i64 0)).setCell ⟨w.heap.size+1,1,none⟩ (.int .i64 0)).cell? ⟨w.heap.size,0,none⟩=some (.slice a1 l.length c1)∧(((w1.setCell ⟨w.heap.size,0,none⟩ (.slice a1 l.length c1)).setCell ⟨w.heap.size+1,0,none⟩ (.int .i64 0)).setCell ⟨w.heap.size+1,1,none⟩ (.int .i64 0)).cell? ⟨w.heap.size+1,0,none⟩=some (.int .i64 0)∧(((w1.setCell ⟨w.heap.size,0,none⟩ (.slice a1 l.length c1)).setCell ⟨w.heap.size+1,0,none⟩ (.int .i64 0)).setCell ⟨w.heap.size+1,1,none⟩ (.int .i64 0)).cell? ⟨w.heap.size+1,1,none⟩=some (.int .i64 0)):=⟨s0,s1,s2⟩
 have hkw:∀ g,w.heap.size+1+1+1≤g→g<w1.heap.size→(((w1.setCell ⟨w.heap.size,0,none⟩ (.slice a1 l.length c1)).setCell ⟨w.heap.size+1,0,none⟩ (.int .i64 0)).setCell ⟨w.heap.size+1,1,none⟩ (.int .i64 0)).heap[g]? =w1.heap[g]? :=fun g hg _=>(Below.heap_setCell _ ⟨w.heap.size+1,1,none⟩ _ g (by show ¬g=w.heap.size+1;omega)).trans ((Below.heap_setCell _ ⟨w.heap.size+1,0,none⟩ _ g (by show ¬g=w.heap.size+1;omega)).trans (Below.heap_setCell _ ⟨w.heap.size,0,none⟩ _ g (by show ¬g=w.heap.size;omega)))
 have HO:Hid (RwS (w.heap.size+1+1+1) (((w1.setCell ⟨w.heap.size,0,none⟩ (.slice a1 l.length c1)).setCell ⟨w.heap.size+1,0,none⟩ (.int .i64 0)).setCell ⟨w.heap.size+1,1,none⟩ (.int .i64 0)) l (.slice a1 l.length c1) vs):=hrw.keep hkw
 have HB2:Hid (Below w.heap.size w (((w1.setCell ⟨w.heap.size,0,none⟩ (.slice a1 l.length c1)).setCell ⟨w.heap.size+1,0,none⟩ (.int .i64 0)).setCell ⟨w.heap.size+1,1,none⟩ (.int .i64 0))):=((HB1.out.setCell (p:=⟨w.heap.size,0,none⟩) (Nat.le_refl _) _).setCell (p:=⟨w.heap.size+1,0,none⟩) (Nat.le_succ _) _).setCell (p:=⟨w.heap.size+1,1,none⟩) (Nat.le_succ _) _
 clear s0 s1 s2 hkw hrw hps hk l1 f1 HB0 HLn
 go_wp2
 generalize(((w1.setCell ⟨w.heap.size,0,none⟩ (.slice a1 l.length c1)).setCell ⟨w.heap.size+1,0,none⟩ (.int .i64 0)).setCell ⟨w.heap.size+1,1,none⟩ (.int .i64 0))=w2 at *
 refine leaves_cons (f:=21) (args:=#[.pointer (some ⟨w.heap.size,0,none⟩),.pointer (some ⟨w.heap.size+1,0,none⟩)]) (by simp) (by simp[go_sem]) ?_
 refine(pcatch_idle ⟨w.heap.size,0,none⟩ ⟨w.heap.size+1,0,none⟩ _).mono ?_
 rintro e u' w3 ⟨rfl,rfl,hb3⟩
 have k0:=(hb3.cell (World.block_lt_of_cell? w2 _ HS.out.1)).trans HS.out.1
 have k1:=(hb3.cell (World.block_lt_of_cell? w2 _ HS.out.2.1)).trans HS.out.2.1
 have k2:=(hb3.cell (World.block_lt_of_cell? w2 _ HS.out.2.2)).trans HS.out.2.2
 have hle:w.heap.size≤w2.heap.size:=Nat.le_of_lt (World.block_lt_of_cell? w2 _ HS.out.1)
 simp[Leaves,settle,results,Tryz.results14,go_sem,k0,k1,k2]
 refine⟨(fun k' z' hz=>by cases hz),fun l' hl=>?_,HB2.out.trans (hb3.mono hle)⟩
 cases hl
 exact⟨_,vs,rfl,(HO.out.keep (fun g _ hg=>hb3.block g hg)).mono (by omega)⟩
theorem parse_err {B:Nat}{toks:List Tk}{tv:Value}{w:World}(he:ErrR w)(n:Nat)(hr:w.ownsRow B 84 4 tv toks.length (tcs toks)){E:Ps→Px Ex}(hE:∀ P T,MethC P T 70 E){k z:Nat}(hz:srcF E ⟨toks,n,0,false,0⟩=some (.error (k,z))):
  Calls Tryz.prog 14 #[tv,.int .i64 n] w (ParP w (.error (k,z))):=by
 have hmf:∀ (fn:Fn) (first cap:Array Value) (w:World),(Instr.makeFunc fn first cap).run Tryz.prog w= .ok (.func fn first cap) w:=fun _ _ _ _=>rfl
 obtain⟨ao,cp,rfl⟩:=row_shape hr
 obtain⟨T,t0,hb0,l0,f0,s0⟩:=bp_facts n hr
 have HLn:=source_any (stD_any (hE _ T) 40) _ _ _ t0 (he.up hb0) hz
 have HB0:Hid (Below w.heap.size w (bpW (.slice ao toks.length cp) n w)∧(bpW (.slice ao toks.length cp) n w).heap[w.heap.size]? =some (.cells #[.slice none 0 0] 28 (0,0))∧(bpW (.slice ao toks.length cp) n w).heap[w.heap.size+1]? =some (.cells #[.int .i64 0,.int .i64 0] 25 (0,0))∧(bpW (.slice ao toks.length cp) n w).heap.size=w.heap.size+1+1+1):=⟨hb0,l0,f0,s0⟩
 clear t0 hb0 l0 f0 s0 hr hz hE he
 unfold bpW at *
 go_enter_defers Tryz.func14,Tryz.ntmps14
 go_wp2_with fail
 refine HLn.mono ?_
 rintro e w1 ⟨rfl,hk⟩
 have l1:=(hk.blk w.heap.size (by have:=HB0.out.2.2.2;omega) (by omega)).trans HB0.out.2.1
 have f1:=(hk.blk (w.heap.size+1) (by have:=HB0.out.2.2.2;omega) (by omega)).trans HB0.out.2.2.1
 have HB1:Hid (Below w.heap.size w w1):=HB0.out.1.trans (hk.below (by omega) (by have:=HB0.out.2.2.2;omega))
 have q0:w1.cell? ⟨w.heap.size,0,none⟩=some (.slice none 0 0):=by rw[Lib.cell_of_heap l1];rfl
 have q1:w1.cell? ⟨w.heap.size+1,0,none⟩=some (.int .i64 0):=by rw[Lib.cell_of_heap f1];rfl
 have q2:w1.cell? ⟨w.heap.size+1,1,none⟩=some (.int .i64 0):=by rw[Lib.cell_of_heap f1];rfl
 have r0:w1.frozen? ⟨w.heap.size,0,none⟩=false:=Lib.frozen_of_heap l1 0
 have r1:w1.frozen? ⟨w.heap.size+1,0,none⟩=false:=Lib.frozen_of_heap f1 0
 have r2:w1.frozen? ⟨w.heap.size+1,1,none⟩=false:=Lib.frozen_of_heap f1 1
 clear hk l1 f1 HB0 HLn
 go_wp2
 refine leaves_cons (f:=21) (args:=#[.pointer (some ⟨w.heap.size,0,none⟩),.pointer (some ⟨w.heap.size+1,0,none⟩)]) (by simp) (by simp[go_sem]) ?_
 refine(pcatch_pan w.heap.size w.heap.size (w.heap.size+1) _ _ _ k z [] _ q0 q1 q2 r0 r1 r2 (by omega) (Nat.le_refl _) (Nat.le_succ _)).mono ?_
 rintro e u' w2 ⟨rfl,rfl,s0,s1,s2,hb2⟩
 simp[Leaves,settle,results,Tryz.results14,go_sem,s0,s1,s2]
 refine⟨fun k' z' hz=>?_,(fun l hl=>by cases hl),HB1.out.trans hb2⟩
 cases hz
 rfl
end Go.Proofs.YtcaeeackccgclaaGreatDoor
