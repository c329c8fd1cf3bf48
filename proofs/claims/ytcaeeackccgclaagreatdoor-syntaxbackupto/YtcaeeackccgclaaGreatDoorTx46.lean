/- 46. -/
import Derived.Test.YtcaeeackccgclaaGreatDoorTx45
set_option maxHeartbeats 40000000
set_option maxRecDepth 100000
namespace Go.Proofs.YtcaeeackccgclaaGreatDoor
open Go.RowKit Go.Shelf
def Po {α:Type}(m:Px α)(J:α→Ps→Prop):Prop:=∀ a q,m=some (.ok (a,q))→J a q
section
variable {α β:Type} {m:Px α} {J J':α→Ps→Prop} {K:β→Ps→Prop} {p q r:Ps}
theorem Po.bnd {f:α→Ps→Px β}(h:Po m J)(g:∀ a q,J a q→Po (f a q) K):Po (bnd m f) K:=fun b r e=>by
 rcases bnd_some e with⟨x,_,e2⟩|⟨a,q,e1,e2⟩
 ·cases e2
 ·exact g a q (h a q e1) b r e2
theorem Po.mono (h:Po m J)(g:∀ a q,J a q→J' a q):Po m J':=fun a q e=>g a q (h a q e)
theorem po_ok {a:α}(h:J a p):Po (ok a p) J:=fun b q e=>by cases e;exact h
theorem po_gu {k:Nat}:Po (gu p k:Px α) J:=fun b q e=>by cases e
theorem po_iff {b:Bool}(h:b=true→Po m J):Po (iff b m) J:=fun a q e=>by
 obtain⟨h1,h2⟩:=iff_some e
 exact h h1 a q h2
theorem po_guIf {b:Bool}{k:Nat}:Po (guIf b k p) fun _ q=>q=p∧b=false:=by
 cases b
 ·exact po_ok ⟨rfl,rfl⟩
 ·exact po_gu
structure Vp (p q:Ps)(c:Nat):Prop where
 tk:AllT q.toks
 sf:q.toks <:+ p.toks
 inD:q.inD=p.inD
 blk:q.blk=p.blk
 wt:c+12400*q.toks.length≤12400*p.toks.length
theorem Vp.refl (h:AllT p.toks):Vp p p 0:=⟨h,List.suffix_refl _,rfl,rfl,by omega⟩
theorem Vp.trans {c d:Nat}(h:Vp p q c)(g:Vp q r d):Vp p r (c+d):=⟨g.tk,g.sf.trans h.sf,g.inD.trans h.inD,g.blk.trans h.blk,by have:=h.wt;have:=g.wt;omega⟩
theorem Vp.mono {c d:Nat}(h:Vp p q c)(hd:d≤c):Vp p q d:=⟨h.tk,h.sf,h.inD,h.blk,by have:=h.wt;omega⟩
theorem Vp.adv {c:Nat}(h:Vp p q c){t:Tk}{l:List Tk}(hq:q.toks=t::l):Vp p q.adv (c+12400):=by
 have e:q.adv.toks=l:=by show q.toks.drop 1=l;rw[hq];rfl
 refine⟨fun x hx=>h.tk x (by rw[hq];rw[e]at hx;exact List.mem_cons_of_mem _ hx),by rw[e];exact(by rw[hq];exact List.suffix_cons _ _:l <:+ q.toks).trans h.sf,h.inD,h.blk,?_⟩
 have:=h.wt
 rw[hq,List.length_cons]at this
 rw[e]
 omega
theorem Vp.sees {c:Nat}(h:Vp p q c){l:List (List UInt8)}(hs:q.sees l=true):Vp p q.adv (c+12400)∧q.nx.text∈l:=by
 obtain⟨t,r,hp,_,ht⟩:=sees_hd hs
 exact⟨h.adv hp,by rw[nx_of hp];exact ht⟩
theorem Vp.kind {c:Nat}(h:Vp p q c)(hk:q.nx.kind≠0):Vp p q.adv (c+12400)∧TkOk q.nx:=by
 match hp:q.toks with
 |[]=>exact absurd (by unfold Ps.nx;rw[hp]) hk
 |t::r=>exact⟨h.adv hp,by rw[nx_of hp];exact h.tk t (by rw[hp];exact List.mem_cons_self)⟩
theorem po_tkS {c:Nat}(h:Vp p q c){x:List UInt8}:Po (tkS x q) fun _ r=>r=q.adv∧Vp p r (c+12400):=by
 unfold tkS
 cases hs:q.sees [x]
 ·exact po_gu
 ·exact po_ok ⟨rfl,(h.sees hs).1⟩
theorem po_tkK {c k:Nat}(h:Vp p q c)(hk:k≠0):Po (tkK k q) fun t r=>r=q.adv∧t.kind=k∧TkOk t∧Vp p r (c+12400):=by
 unfold tkK
 cases hs:q.nx.kind==k
 ·exact po_gu
 ·have hs:q.nx.kind=k:=by simpa using hs
  obtain⟨a,b⟩:=h.kind (by rw[hs];exact hk)
  exact po_ok ⟨rfl,hs,b,a⟩
theorem po_tkN {c:Nat}(h:Vp p q c){l:List (List UInt8)}:Po (tkN l q) fun x r=>x∉l∧(NmS x∧isWd x=false)∧x.length≤6000∧Vp p r (c+12400):=by
 unfold tkN
 cases hs:q.nx.kind==1&&l.contains q.nx.text
 ·show Po (bnd (tkK 1 q) _) _
  unfold tkK
  cases hk:q.nx.kind==1
  ·exact fun _ _ e=>by cases e
  ·have hk2:q.nx.kind=1:=by simpa using hk
   obtain⟨a,b⟩:=h.kind (by rw[hk2];decide)
   refine po_ok ⟨fun hm=>?_,b.2.1 hk2,b.1,a⟩
   rw[hk,List.contains_iff_mem.2 hm]at hs
   cases hs
 ·exact po_gu
theorem po_rfD {l:List (List UInt8)}:Po (rfD l p) fun _ q=>q=p:=po_guIf.mono fun _ _ h=>h.1
end
def EJ (p:Ps)(e:Ex)(q:Ps):Prop:=∃ n c,Ce n e c∧Vp p q c
def PoE (E:Ps→Px Ex):Prop:=∀ p,AllT p.toks→Po (E p) (EJ p)
theorem po_lsL {σ:Type}{c:List UInt8}{each:σ→Ps→Px σ}(I J:σ→Ps→Prop)(hC:∀ s p,I s p→p.sees [c]=true→J s p.adv)(hE:∀ s p q,I s p→p.sees [c]=false→(q=p∨(p.sees [[44]]=true∧q=p.adv))→Po (each s q) I):∀ (f:Nat) (first:Bool) (s:σ) (p:Ps),I s p→Po (lsL c each f first s p) J
 |0,_,_,_,_=>fun _ _ e=>by cases e
 |f+1,first,s,p,h=>by
  unfold lsL
  cases hc:p.sees [c]
  ·refine Po.bnd (J:=fun _ q=>q=p∨(p.sees [[44]]=true∧q=p.adv)) ?_ fun _ q hq=>Po.bnd (hE s p q h hc hq) fun s2 r hr=>po_iff fun _=>po_lsL I J hC hE f false s2 r hr
   cases first
   ·show Po (tkS [44] p) _
    unfold tkS
    cases hs:p.sees [[44]]
    ·exact po_gu
    ·exact po_ok (.inr ⟨rfl,rfl⟩)
   ·exact po_ok (.inl rfl)
  ·exact po_ok (hC s p h hc)
theorem po_jnL {part:Ps→Px Ex}(hp:PoE part){l:List (List UInt8)}(hl:∀ x∈l,x∈opsB){p0:Ps}:∀ (f:Nat) (e:Ex) (p:Ps),EJ p0 e p→Po (jnL part l f e p) (EJ p0)
 |0,_,_,_=>fun _ _ e=>by cases e
 |f+1,e,p,h=>by
  unfold jnL
  cases hs:p.sees l
  ·exact po_ok h
  ·obtain⟨n,c,hc,hv⟩:=h
   obtain⟨hv1,ht⟩:=hv.sees hs
   refine Po.bnd (hp p.adv hv1.tk) fun x q hx=>po_iff fun _=>po_jnL hp hl f _ q ?_
   obtain⟨m,d,hd,hw⟩:=hx
   exact⟨_,_,ce_two hc hd (hl _ ht),(hv1.trans hw).mono (by omega)⟩
theorem po_jn {part:Ps→Px Ex}(hp:PoE part){l:List (List UInt8)}(hl:∀ x∈l,x∈opsB):PoE (jn part l):=fun p h=>Po.bnd (hp p h) fun e q he=>po_jnL hp hl _ e q he
theorem po_inner {m:Ps→Px Ex}(hm:PoE m):PoE (inner m):=fun p h=>po_iff fun _=>Po.bnd (hm p.inn h) fun e q he=>po_iff fun _=>by
 obtain⟨n,c,hc,hv⟩:=he
 exact po_ok ⟨n,c,hc,⟨hv.tk,hv.sf,hv.inD,hv.blk,hv.wt⟩⟩
section
variable {E:Ps→Px Ex}
theorem po_kd (hE:PoE E){p q:Ps}{s:Ex}{n c d:Nat}(hs:Cl n s.kids c)(hv:Vp p q d):Po (kdE E s q) fun s' r=>∃ e m x,s'=s.kid e∧Cl m (s.kids++[e]) (c+x)∧Vp p r (d+x):=by
 refine Po.bnd (hE q hv.tk) fun e r he=>?_
 obtain⟨m,x,hd,hw⟩:=he
 exact po_ok ⟨e,_,x,rfl,hs.snoc hd,hv.trans hw⟩
def CaI (p:Ps)(s:Ex)(q:Ps):Prop:=∃ n c d,s=⟨10,0,[],s.kids,s.names⟩∧Cl n s.kids c∧s.names.length+1≤s.kids.length∧(∀ t∈s.names,(NmS t∧isWd t=false)∧t.length≤6000)∧s.names.Nodup∧c+6010*s.names.length+10≤d∧Vp p q d
theorem CaI.adv {p q:Ps}{s:Ex}{l:List (List UInt8)}(h:CaI p s q)(hs:q.sees l=true):CaI p s q.adv:=by
 obtain⟨n,c,d,h1,h2,h3,h4,h5,h6,h7⟩:=h
 exact⟨n,c,d,h1,h2,h3,h4,h5,h6,(h7.sees hs).1.mono (by omega)⟩
theorem po_ca (hE:PoE E){p q:Ps}{s:Ex}(h:CaI p s q):Po (caE E s q) (CaI p):=by
 obtain⟨n,c,d,h1,h2,h3,h4,h5,h6,h7⟩:=h
 unfold caE
 refine po_iff fun _=>?_
 cases hs:sSet q
 ·refine Po.bnd po_guIf fun _ r hr=>?_
  obtain⟨rfl,h0⟩:=hr
  have h0:s.names.length=0:=by simpa using h0
  refine Po.bnd (hE r h7.tk) fun e r2 he=>?_
  obtain⟨m,d2,hd,hw⟩:=he
  refine po_ok ⟨_,c+d2,d+d2,by rw[h1];rfl,h2.snoc hd,?_,h4,h5,by show _+6010*s.names.length+10≤_;omega,h7.trans hw⟩
  show s.names.length+1≤(s.kids++[e]).length
  rw[List.length_append]
  omega
 ·refine Po.bnd (po_tkN h7) fun x r hx=>?_
  obtain⟨x1,x2,x3,x4⟩:=hx
  refine Po.bnd (po_tkS x4) fun _ r2 hr2=>?_
  obtain⟨_,hv⟩:=hr2
  refine Po.bnd (hE r2 hv.tk) fun e r3 he=>?_
  obtain⟨m,d2,hd,hw⟩:=he
  refine po_ok ⟨_,c+d2,_,by rw[h1];rfl,h2.snoc hd,?_,fun t ht=>?_,?_,?_,hv.trans hw⟩
  ·show(s.names++[x]).length+1≤(s.kids++[e]).length
   rw[List.length_append,List.length_append]
   show _+1+1≤_+1
   omega
  ·rcases List.mem_append.1 ht with ht|ht
   ·exact h4 t ht
   ·rw[List.mem_singleton.1 ht]
    exact⟨x2,x3⟩
  ·show(s.names++[x]).Nodup
   rw[List.nodup_append]
   exact⟨h5,by simp,fun a ha b hb e=>x1 (by rw[←List.mem_singleton.1 hb,←e];exact ha)⟩
  ·show c+d2+6010*(s.names++[x]).length+10≤_
   rw[List.length_append]
   show c+d2+6010*(s.names.length+1)+10≤_
   omega
theorem po_psL (hE:PoE E){p0:Ps}:∀ (f:Nat) (e:Ex) (p:Ps),EJ p0 e p→Po (psL E f e p) (EJ p0)
 |0,_,_,_=>fun _ _ e=>by cases e
 |f+1,e,p,h=>by
  obtain⟨n,c,hc,hv⟩:=h
  unfold psL
  cases hs:p.sees [[40]]
  ·cases hs2:p.sees [[91]]
   ·exact po_ok ⟨n,c,hc,hv⟩
   ·have hv1:=(hv.sees hs2).1
    refine Po.bnd (hE p.adv hv1.tk) fun x q hx=>?_
    obtain⟨m,d,hd,hw⟩:=hx
    refine Po.bnd (po_tkS (hv1.trans hw)) fun _ r hr=>po_iff fun _=>po_psL hE f _ r ?_
    exact⟨_,_,ce_idx hc hd,hr.2.mono (by omega)⟩
  ·have hv1:=(hv.sees hs).1
   refine Po.bnd (po_lsL (CaI p0) (CaI p0) (fun s q h hs=>h.adv hs) (fun s p q h _ hq=>po_ca hE (by rcases hq with rfl|⟨hs,rfl⟩<;>first|exact h|exact h.adv hs)) _ _ _ _ ⟨n,c,_,rfl,?_,Nat.le_refl _,fun _ h=>absurd h List.not_mem_nil,List.nodup_nil,?_,hv1⟩) fun x q hx=>po_iff fun _=>po_psL hE f x q ?_
   ·exact⟨fun x hx=>by rw[List.mem_singleton.1 hx];exact hc.1,by have:=hc.2;show _+4+0≤_;omega⟩
   ·show c+6010*0+10≤_
    omega
   ·obtain⟨n,c,d,h1,h2,h3,h4,h5,h6,h7⟩:=hx
    rw[h1]
    exact⟨_,_,ce_call h2 h3 (fun t ht=>(h4 t ht).1) h5 (fun t ht=>(h4 t ht).2),h7.mono h6⟩
def LiI (p:Ps)(s:Ex)(q:Ps):Prop:=∃ n c d,Cl n s.kids c∧(s=⟨7,0,[],s.kids,[]⟩∨(s=⟨9,0,s.text,s.kids,[]⟩∧(s.kids.length=2∨s.kids.length=3)∧(NmS s.text∧isWd s.text=false)∧q.sees [[93]]=true))∧c+s.text.length+30≤d∧Vp p q d
theorem po_eaR {p q:Ps}{s:Ex}{n c d:Nat}(h1:Cl n s.kids c)(h2:s=⟨9,0,s.text,s.kids,[]⟩)(h3:s.kids.length=2∨s.kids.length=3)(h4:NmS s.text∧isWd s.text=false)(h5:c+s.text.length+30≤d)(hv:Vp p q d):Po (eaR s q) (LiI p):=Po.bnd po_guIf fun _ r hr=>by
 obtain⟨rfl,hr⟩:=hr
 exact po_ok ⟨n,c,d,h1,.inr ⟨h2,h3,h4,by simpa using hr⟩,h5,hv⟩
theorem po_li (hE:PoE E){p q:Ps}{s:Ex}{n c d:Nat}(h1:Cl n s.kids c)(h2:s=⟨7,0,[],s.kids,[]⟩)(h3:c+30≤d)(hv:Vp p q d):Po (liE E s q) (LiI p):=by
 unfold liE
 refine po_iff fun _=>Po.bnd (po_kd hE h1 hv) fun r q hr=>?_
 obtain⟨e,m,x,rfl,hk,hw⟩:=hr
 have hr:s.kid e=⟨7,0,[],s.kids++[e],[]⟩:=by rw[h2];rfl
 rw[hr]
 cases hb:decide ((s.kids++[e]).length=1)&&q.sees [[102,111,114]]
 ·exact po_ok ⟨m,_,_,hk,.inl rfl,by show c+x+0+30≤d+x;omega,hw⟩
 ·rw[Bool.and_eq_true,decide_eq_true_eq]at hb
  have hw1:=(hw.sees hb.2).1
  unfold eaE
  refine Po.bnd (po_tkK hw1 (by decide)) fun t q2 ht=>?_
  obtain⟨_,ht1,ht2,hw2⟩:=ht
  have hnm:=ht2.2.1 ht1
  have htl:=ht2.1
  refine Po.bnd (po_tkS hw2) fun _ q3 h3'=>?_
  refine Po.bnd (po_kd hE (s:=⟨9,0,t.text,s.kids++[e],[]⟩) hk h3'.2) fun r q4 h4=>?_
  obtain⟨e2,m2,x2,rfl,hk2,hw4⟩:=h4
  have hk2:Cl m2 (s.kids++[e]++[e2]) (c+x+x2):=hk2
  have hl2:(s.kids++[e]++[e2]).length=2:=by rw[List.length_append,hb.1];rfl
  unfold eaF
  cases hi:q4.sees [[105,102]]
  ·exact po_eaR hk2 rfl (.inl hl2) hnm (by show _+t.text.length+30≤_;omega) hw4
  ·have hw5:=(hw4.sees hi).1
   refine Po.bnd (po_kd hE (s:=(⟨9,0,t.text,s.kids++[e],[]⟩:Ex).kid e2) hk2 hw5) fun r q6 h6=>?_
   obtain⟨e3,m3,x3,rfl,hk3,hw6⟩:=h6
   refine po_eaR hk3 rfl (.inr ?_) hnm (by show _+t.text.length+30≤_;omega) hw6
   show(s.kids++[e]++[e2]++[e3]).length=3
   rw[List.length_append,hl2]
   rfl
theorem po_list (hE:PoE E){p q:Ps}{d:Nat}(hv:Vp p q d)(hd:30≤d):Po (lst [93] (liE E) ⟨7,0,[],[],[]⟩ q) (EJ p):=by
 refine po_lsL (LiI p) (EJ p) (fun s q h hs=>?_) (fun s q r h hc hq=>?_) _ _ _ _ ⟨0,0,d,Cl.nil 0,.inl rfl,by show 0+0+30≤d;omega,hv⟩
 ·obtain⟨n,c,d,h1,h2,h3,h4⟩:=h
  have hw:=(h4.sees hs).1
  rcases h2 with h2|⟨h2,h5,h6,_⟩
  ·rw[h2]
   exact⟨_,_,ce_list h1,hw.mono (by omega)⟩
  ·rw[h2]
   exact⟨_,_,ce_each h1 h5 h6,hw.mono (by omega)⟩
 ·obtain⟨n,c,d,h1,h2,h3,h4⟩:=h
  rcases h2 with h2|⟨_,_,_,h5⟩
  ·rcases hq with rfl|⟨hs,rfl⟩
   ·exact po_li hE h1 h2 (by omega) h4
   ·exact po_li hE h1 h2 (by omega) (h4.sees hs).1
  ·rw[h5]at hc
   cases hc
def DiI (p:Ps)(s:Ex)(q:Ps):Prop:=∃ n c d,Cl n s.kids c∧s=⟨8,0,[],s.kids,[]⟩∧s.kids.length%2=0∧c+30≤d∧Vp p q d
theorem po_di (hE:PoE E){p q:Ps}{s:Ex}{n c d:Nat}(h1:Cl n s.kids c)(h2:s=⟨8,0,[],s.kids,[]⟩)(h0:s.kids.length%2=0)(h3:c+30≤d)(hv:Vp p q d):Po (diE E s q) (DiI p):=by
 unfold diE
 refine po_iff fun _=>Po.bnd (po_kd hE h1 hv) fun r q hr=>?_
 obtain⟨e,m,x,rfl,hk,hw⟩:=hr
 refine Po.bnd (po_tkS hw) fun _ q2 h4=>?_
 refine(po_kd hE (s:=s.kid e) hk h4.2).mono fun r q3 hr=>?_
 obtain⟨e2,m2,x2,rfl,hk2,hw2⟩:=hr
 refine⟨m2,_,_,hk2,by rw[h2];rfl,?_,?_,hw2⟩
 ·show(s.kids++[e]++[e2]).length%2=0
  rw[List.length_append,List.length_append]
  show(s.kids.length+1+1)%2=0
  omega
 ·omega
theorem po_dict (hE:PoE E){p q:Ps}{d:Nat}(hv:Vp p q d)(hd:30≤d):Po (lst [125] (diE E) ⟨8,0,[],[],[]⟩ q) (EJ p):=by
 refine po_lsL (DiI p) (EJ p) (fun s q h hs=>?_) (fun s q r h hc hq=>?_) _ _ _ _ ⟨0,0,d,Cl.nil 0,rfl,rfl,by omega,hv⟩
 ·obtain⟨n,c,d,h1,h2,h0,h3,h4⟩:=h
  have hw:=(h4.sees hs).1
  rw[h2]
  exact⟨_,_,ce_dict h1 h0,hw.mono (by omega)⟩
 ·obtain⟨n,c,d,h1,h2,h0,h3,h4⟩:=h
  rcases hq with rfl|⟨hs,rfl⟩
  ·exact po_di hE h1 h2 h0 h3 h4
  ·exact po_di hE h1 h2 h0 (by omega) (h4.sees hs).1
theorem ce_lit:Ce 1 ⟨1,0,[],[],[]⟩ 20∧Ce 1 ⟨2,0,[],[],[]⟩ 20∧Ce 1 ⟨3,0,[],[],[]⟩ 20:=by
 refine⟨⟨rfl,?_⟩,⟨rfl,?_⟩,⟨rfl,?_⟩⟩<;>decide
theorem dec_len:∀ k n:Nat,n<10 ^ (k+1)→(Lib.decDigits n).length≤k+1
 |0,n,h=>by
  rw[Lib.decDigits_one (by simpa using h)]
  exact Nat.le_refl _
 |k+1,n,h=>by
  by_cases h10:n<10
  ·rw[Lib.decDigits_one h10]
   show 1≤_
   omega
  ·have:=dec_len k (n/10) (by rw[Nat.pow_succ]at h;omega)
   rw[Lib.decDigits,dif_neg h10,List.length_append]
   show _+1≤_
   omega
theorem dec_le {n:Nat}(h:n≤9007199254740991):(Lib.decDigits n).length≤20:=dec_len 19 n (Nat.lt_of_le_of_lt h (by decide))
theorem po_atm (hE:PoE E):PoE (atm E):=fun p hp=>by
 have hv:=Vp.refl hp
 unfold atm
 cases h1:p.nx.kind==1
 ·cases h2:p.nx.kind==2
  ·cases h3:p.nx.kind==3
   ·show Po (sgA E p) _
    unfold sgA
    cases s1:p.sees [[84,114,117,101]]
    ·cases s2:p.sees [[70,97,108,115,101]]
     ·cases s3:p.sees [[78,111,110,101]]
      ·cases s4:p.sees [[91]]
       ·cases s5:p.sees [[123]]
        ·refine Po.bnd (po_tkS hv) fun _ q hq=>Po.bnd (hE q hq.2.tk) fun e r he=>?_
         obtain⟨n,c,hc,hw⟩:=he
         refine Po.bnd (po_tkS (hq.2.trans hw)) fun _ r2 hr2=>po_ok ⟨n,c,hc,hr2.2.mono (by omega)⟩
        ·exact po_dict hE (hv.sees s5).1 (by omega)
       ·exact po_list hE (hv.sees s4).1 (by omega)
      ·exact po_ok ⟨1,20,ce_lit.1,(hv.sees s3).1.mono (by omega)⟩
     ·exact po_ok ⟨1,20,ce_lit.2.2,(hv.sees s2).1.mono (by omega)⟩
    ·exact po_ok ⟨1,20,ce_lit.2.1,(hv.sees s1).1.mono (by omega)⟩
   ·have h3:p.nx.kind=3:=by simpa using h3
    obtain⟨hw,ht⟩:=hv.kind (by rw[h3];decide)
    refine po_ok ⟨1,12020,⟨⟨rfl,ht.2.2.2 h3⟩,?_⟩,hw.mono (by omega)⟩
    have a:=qt_le p.nx.text
    have b:=ht.1
    have c:ll [kT p.nx.text]=(qtL p.nx.text).length:=by rw[ll_one rfl];rfl
    have d:(qtL p.nx.text).length=(p.nx.text.flatMap qt1).length+2:=by simp[qtL]
    show ll [kT p.nx.text]+4≤_
    omega
  ·have h2:p.nx.kind=2:=by simpa using h2
   obtain⟨hw,ht⟩:=hv.kind (by rw[h2];decide)
   refine po_ok ⟨1,30,⟨⟨rfl,ht.2.2.1 h2⟩,?_⟩,hw.mono (by omega)⟩
   have a:=dec_le (ht.2.2.1 h2)
   have c:ll [kI p.nx.num]=(Lib.decDigits p.nx.num).length:=by rw[ll_one rfl];rfl
   show ll [kI p.nx.num]+4≤_
   omega
 ·have h1:p.nx.kind=1:=by simpa using h1
  obtain⟨hw,ht⟩:=hv.kind (by rw[h1];decide)
  refine po_ok ⟨1,6010,⟨⟨rfl,ht.2.1 h1⟩,?_⟩,hw.mono (by omega)⟩
  have b:=ht.1
  have c:ll [kW p.nx.text]=p.nx.text.length:=by rw[ll_one rfl];rfl
  show ll [kW p.nx.text]+4≤_
  omega
theorem po_pst (hE:PoE E):PoE (pst E):=fun p h=>Po.bnd (po_atm hE p h) fun e q he=>po_psL hE _ e q he
theorem po_unL (hE:PoE E):∀ f:Nat,PoE (unL E f)
 |0=>fun _ _ _ _ e=>by cases e
 |f+1=>fun p h=>by
  unfold unL
  cases hs:p.sees [[45]]
  ·exact po_pst hE p h
  ·have hv:=((Vp.refl h).sees hs).1
   refine Po.bnd po_rfD fun _ q hq=>?_
   subst hq
   refine Po.bnd (po_inner (po_unL hE f) p.adv hv.tk) fun k r hk=>?_
   obtain⟨n,c,hc,hw⟩:=hk
   exact po_ok ⟨_,_,ce_min hc,(hv.trans hw).mono (by omega)⟩
theorem po_sum (hE:PoE E):PoE (sum E):=po_jn (po_jn (fun p h=>po_unL hE _ p h) (by decide)) (by decide)
theorem po_cmp (hE:PoE E):PoE (cmp E):=fun p h=>Po.bnd (po_sum hE p h) fun e q he=>by
 obtain⟨n,c,hc,hv⟩:=he
 cases hs:q.sees [[61,61],[33,61],[60],[60,61],[105,110]]
 ·exact po_ok ⟨n,c,hc,hv⟩
 ·obtain⟨hv1,ht⟩:=hv.sees hs
  refine Po.bnd (po_sum hE q.adv hv1.tk) fun x r hx=>?_
  obtain⟨m,d,hd,hw⟩:=hx
  exact po_ok ⟨_,_,ce_two hc hd ((by decide:∀ x∈([[61,61],[33,61],[60],[60,61],[105,110]]:List (List UInt8)),x∈opsB) _ ht),(hv1.trans hw).mono (by omega)⟩
theorem po_ngL (hE:PoE E):∀ f:Nat,PoE (ngL E f)
 |0=>fun _ _ _ _ e=>by cases e
 |f+1=>fun p h=>by
  unfold ngL
  cases hs:p.sees [[110,111,116]]
  ·exact po_cmp hE p h
  ·have hv:=((Vp.refl h).sees hs).1
   refine Po.bnd po_rfD fun _ q hq=>?_
   subst hq
   refine Po.bnd (po_inner (po_ngL hE f) p.adv hv.tk) fun k r hk=>?_
   obtain⟨n,c,hc,hw⟩:=hk
   exact po_ok ⟨_,_,ce_not hc,(hv.trans hw).mono (by omega)⟩
theorem po_or (hE:PoE E):PoE (orE E):=po_jn (po_jn (fun p h=>po_ngL hE _ p h) (by decide)) (by decide)
end
theorem po_exF:∀ n:Nat,PoE (exF n)
 |0=>fun _ _ _ _ e=>by cases e
 |n+1=>fun p h=>Po.bnd po_rfD fun _ q hq=>by
  subst hq
  exact po_inner (po_or (po_exF n)) q h
end Go.Proofs.YtcaeeackccgclaaGreatDoor
