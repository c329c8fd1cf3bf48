/- 47. -/
import Derived.Test.YtcaeeackccgclaaGreatDoorTx46
set_option maxHeartbeats 40000000
set_option maxRecDepth 100000
namespace Go.Proofs.YtcaeeackccgclaaGreatDoor
open Go.RowKit Go.Shelf
def wl (ls:List (Nat×List Lx)):Nat:=(lnsB ls).length
theorem wl_cons (x:Nat×List Lx)(ls:List (Nat×List Lx)):wl (x::ls)=4*x.1+ll x.2+1+wl ls:=by
 show(List.replicate (4*x.1) 32++(lxB x.2++10::lnsB ls)).length=_
 rw[List.length_append,List.length_append,List.length_replicate,List.length_cons]
 show _+(ll x.2+(wl ls+1))=_
 omega
theorem wl_app:∀ a b:List (Nat×List Lx),wl (a++b)=wl a+wl b
 |[],b=>(Nat.zero_add _).symm
 |x::a,b=>by
  rw[List.cons_append,wl_cons,wl_cons,wl_app a b]
  omega
theorem flat_eq {α β:Type}{f g:α→List β}:∀ l:List α,(∀ x∈l,f x=g x)→l.flatMap f=l.flatMap g
 |[],_=>rfl
 |x::l,h=>by
  rw[List.flatMap_cons,List.flatMap_cons,h x List.mem_cons_self,flat_eq l fun y hy=>h y (List.mem_cons_of_mem _ hy)]
theorem line_up {n n' m:Nat}(hn:n≤n'){b d:Bool}:∀ s:Sm,WfX n (m+1) b d s→lSm n' s=lSm n s∧lHd n' s=lHd n s
 |⟨k,text,names,ex,body,els⟩,h=>by
  match k,h with
  |0,h=>exact h.elim
  |1,_=>exact⟨rfl,rfl⟩
  |2,h=>
   refine⟨?_,rfl⟩
   show(kW [114,101,116,117,114,110]).and::lE n' ex=_
   rw[(wfe_mono hn h.2.1).2]
   rfl
  |3,h=>
   refine⟨?_,rfl⟩
   show(kW text).and::(kS [61]).and::lE n' ex=_
   rw[(wfe_mono hn h.2.2.2).2]
   rfl
  |4,_=>exact⟨rfl,rfl⟩
  |5,h=>exact⟨(wfe_mono hn h.2).2,rfl⟩
  |6,_=>exact⟨rfl,rfl⟩
  |7,h=>
   refine⟨rfl,?_⟩
   show((kW [105,102]).and::lE n' ex)++[kS [58]]=_
   rw[(wfe_mono hn h.2.1).2]
   rfl
  |8,h=>
   refine⟨rfl,?_⟩
   show((kW [102,111,114]).and::(kW text).and::(kW [105,110]).and::lE n' ex)++[kS [58]]=_
   rw[(wfe_mono hn h.2.2.2.1).2]
   rfl
  |k+9,h=>exact h.elim
theorem wfx_mono {n n':Nat}(hn:n≤n'):∀ (m:Nat) (b d:Bool) (s:Sm),WfX n m b d s→WfX n' m b d s∧∀ dd,lnS n' m dd s=lnS n m dd s
 |0,_,_,_,h=>h.elim
 |m+1,b,d,s,h=>by
  have hl:=line_up hn s h
  have key:(∀ x∈s.body,∃ b d,WfX n m b d x)→(∀ x∈s.els,∃ b d,WfX n m b d x)→∀ dd,lnS n' (m+1) dd s=lnS n (m+1) dd s:=fun h1 h2 dd=>by
   unfold lnS
   rw[hl.1,hl.2,flat_eq s.body fun x hx=>(by obtain⟨b,d,g⟩:=h1 x hx;exact(wfx_mono hn m b d x g).2 _),flat_eq s.els fun x hx=>(by obtain⟨b,d,g⟩:=h2 x hx;exact(wfx_mono hn m b d x g).2 _)]
  have up:∀ (b d:Bool) (l:List Sm),(∀ x∈l,WfX n m b d x)→(∀ x∈l,WfX n' m b d x)∧∀ x∈l,∃ b d,WfX n m b d x:=fun b d l g=>⟨fun x hx=>(wfx_mono hn m b d x (g x hx)).1,fun x hx=>⟨b,d,g x hx⟩⟩
  obtain⟨k,text,names,ex,body,els⟩:=s
  match k,h with
  |0,h=>exact h.elim
  |1,h=>cases h;exact⟨rfl,key (fun _ h=>absurd h List.not_mem_nil) (fun _ h=>absurd h List.not_mem_nil)⟩
  |2,h=>
   obtain⟨e,h1,h2⟩:=h
   cases e
   exact⟨⟨rfl,(wfe_mono hn h1).1,h2⟩,key (fun _ h=>absurd h List.not_mem_nil) (fun _ h=>absurd h List.not_mem_nil)⟩
  |3,h=>
   obtain⟨e,h1,h2,h3⟩:=h
   cases e
   exact⟨⟨rfl,h1,h2,(wfe_mono hn h3).1⟩,key (fun _ h=>absurd h List.not_mem_nil) (fun _ h=>absurd h List.not_mem_nil)⟩
  |4,h=>
   obtain⟨e,h1⟩:=h
   cases e
   exact⟨⟨rfl,h1⟩,key (fun _ h=>absurd h List.not_mem_nil) (fun _ h=>absurd h List.not_mem_nil)⟩
  |5,h=>
   obtain⟨e,h1⟩:=h
   cases e
   exact⟨⟨rfl,(wfe_mono hn h1).1⟩,key (fun _ h=>absurd h List.not_mem_nil) (fun _ h=>absurd h List.not_mem_nil)⟩
  |6,h=>
   obtain⟨e,h1,h2,h3,h4,h5,h6,h7⟩:=h
   cases e
   obtain⟨u1,u2⟩:=up _ _ _ h7
   exact⟨⟨rfl,h1,h2,h3,h4,h5,h6,u1⟩,key u2 (fun _ h=>absurd h List.not_mem_nil)⟩
  |7,h=>
   obtain⟨e,h1,h2,h3,h4⟩:=h
   cases e
   obtain⟨u1,u2⟩:=up _ _ _ h3
   obtain⟨v1,v2⟩:=up _ _ _ h4
   exact⟨⟨rfl,(wfe_mono hn h1).1,h2,u1,v1⟩,key u2 v2⟩
  |8,h=>
   obtain⟨e,h1,h2,h3,h4,h5⟩:=h
   cases e
   obtain⟨u1,u2⟩:=up _ _ _ h5
   exact⟨⟨rfl,h1,h2,(wfe_mono hn h3).1,h4,u1⟩,key u2 (fun _ h=>absurd h List.not_mem_nil)⟩
  |k+9,h=>exact h.elim
def NoIO (l:List Tk):Prop:=∀ u t v r,l=u++t::v::r→t.kind=7→v.kind≠8
theorem NoIO.sf {l m:List Tk}(h:NoIO l)(hs:m <:+ l):NoIO m:=fun u t v r e=>by
 obtain⟨w,hw⟩:=hs
 exact h (w++u) t v r (by rw[←hw,e,List.append_assoc])
theorem noio_of {n:Nat}{l:List Tk}(h:Lw.AllNxt n l):NoIO l:=fun u t v r e h7 h8=>by
 have e:l=(u++[t])++v::r:=by rw[e,List.append_assoc];rfl
 have hl:(u++[t]).length<l.length:=by simp only[e,List.length_append,List.length_cons,List.length_nil];omega
 have hx:=(h (u++[t]).length hl).behind
 have e1:l.take (u++[t]).length=u++[t]:=by rw[e];exact List.take_left
 have e2:l[(u++[t]).length]=v:=by simp only[e];rw[List.getElem_append_right (Nat.le_refl _)];simp
 rw[e1,e2,Lw.lastK_snoc,h7]at hx
 rcases hx (.inr h8)with h|h<;>cases h
def Cs (n m:Nat)(b d:Bool)(l:List Sm)(c:Nat):Prop:=(∀ s∈l,WfX n m b d s)∧∀ dd,dd+m≤40→wl (l.flatMap (lnS n m dd))≤c
theorem Cs.up {n n' m:Nat}{b d:Bool}{l:List Sm}{c:Nat}(h:Cs n m b d l c)(hn:n≤n'):Cs n' m b d l c:=by
 refine⟨fun s hs=>(wfx_mono hn m b d s (h.1 s hs)).1,fun dd hd=>?_⟩
 rw[flat_eq l fun s hs=>(wfx_mono hn m b d s (h.1 s hs)).2 dd]
 exact h.2 dd hd
theorem Cs.snoc {n n' m:Nat}{b d:Bool}{l:List Sm}{s:Sm}{c c':Nat}(h:Cs n m b d l c)(g:Cs n' m b d [s] c'):Cs (max n n') m b d (l++[s]) (c+c'):=by
 have h:=h.up (Nat.le_max_left n n')
 have g:=g.up (Nat.le_max_right n n')
 refine⟨fun x hx=>(List.mem_append.1 hx).elim (h.1 x) (g.1 x),fun dd hd=>?_⟩
 rw[List.flatMap_append,wl_app]
 have:=h.2 dd hd
 have:=g.2 dd hd
 omega
def SJ (m:Nat)(p:Ps)(s:Sm)(q:Ps):Prop:=∃ n c,Cs n m (decide (0<p.blk)) p.inD [s] c∧Vp p q c
def PoS (m:Nat)(St:Ps→Px Sm):Prop:=∀ p,AllT p.toks→NoIO p.toks→(p.blk=0→p.inD=false)→Po (St p) (SJ m p)
theorem po_blL {m:Nat}{St:Ps→Px Sm}(hS:PoS m St){p0:Ps}(h0:0<p0.blk)(hN:NoIO p0.toks):∀ (f:Nat) (l:List Sm) (p:Ps),(∃ n c,Cs n m true p0.inD l c∧Vp p0 p c)→Po (blL St f l p) fun l' q=>(∃ n c,Cs n m true p0.inD l' c∧Vp p0 q c)∧(l≠[]∨p.nx.kind≠8→l'≠[])
 |0,_,_,_=>fun _ _ e=>by cases e
 |f+1,l,p,h=>by
  unfold blL
  cases hk:p.nx.kind==8
  ·obtain⟨n,c,hc,hv⟩:=h
   refine po_iff fun _=>Po.bnd (hS p hv.tk (hN.sf hv.sf) fun e=>absurd (hv.blk.symm.trans e) (by omega)) fun s q hs=>po_iff fun _=>?_
   obtain⟨n2,c2,hc2,hw⟩:=hs
   rw[decide_eq_true (show 0<p.blk by rw[hv.blk];exact h0),hv.inD]at hc2
   exact(po_blL hS h0 hN f (l++[s]) q ⟨_,_,hc.snoc hc2,hv.trans hw⟩).mono fun l' r hr=>⟨hr.1,fun _=>hr.2 (.inl (by simp))⟩
  ·refine po_ok ⟨h,fun g=>?_⟩
   rcases g with g|g
   ·exact g
   ·exact absurd (by simpa using hk) g
def BJ (m:Nat)(p:Ps)(l:List Sm)(q:Ps):Prop:=l≠[]∧∃ n c,Cs n m true p.inD l c∧Vp p q (c+12400)
theorem po_blF {m:Nat}{St:Ps→Px Sm}(hS:PoS m St){p:Ps}(hp:AllT p.toks)(hN:NoIO p.toks):Po (blF St p) (BJ m p):=by
 unfold blF
 refine Po.bnd (po_tkS (Vp.refl hp)) fun _ q hq=>Po.bnd (po_tkK hq.2 (by decide)) fun _ q2 h2=>?_
 obtain⟨_,_,_,hv2⟩:=h2
 refine Po.bnd (J:=fun _ q3=>q3=q2.adv∧q2.nx.kind=7∧Vp p q3 (0+12400+12400+12400)) ?_ fun _ q3 h3=>?_
 ·refine fun t q3 e=>?_
  obtain⟨e1,e2,_,e4⟩:=po_tkK hv2 (k:=7) (by decide) t q3 e
  unfold tkK at e
  cases hb:q2.nx.kind==7
  ·rw[hb]at e
   cases e
  ·exact⟨e1,by simpa using hb,e4⟩
 obtain⟨rfl,h7,hv3⟩:=h3
 refine po_iff fun _=>?_
 have h8:q2.adv.nx.kind≠8:=fun h8=>by
  match hq2:q2.toks with
  |[]=>rw[show q2.nx=⟨0,[],0,q2.fin⟩ by unfold Ps.nx;rw[hq2]]at h7;exact absurd h7 (by show ¬0=7;decide)
  |[t]=>rw[show q2.adv.nx=⟨0,[],0,q2.fin⟩ by unfold Ps.nx Ps.adv;rw[hq2];rfl]at h8;exact absurd h8 (by show ¬0=8;decide)
  |t::v::r=>
   rw[nx_of hq2]at h7
   rw[show q2.adv.nx=v by unfold Ps.nx Ps.adv;rw[hq2];rfl]at h8
   exact hN.sf hv2.sf [] t v r hq2 h7 h8
 refine Po.bnd (po_blL hS (p0:=q2.adv.bin) (Nat.succ_pos _) (hN.sf hv3.sf) _ [] q2.adv.bin ⟨0,0,⟨fun _ h=>absurd h List.not_mem_nil,fun _ _=>Nat.le_refl _⟩,Vp.refl hv3.tk⟩) fun l q4 h4=>po_iff fun _=>?_
 obtain⟨⟨n,c,hc,hv4⟩,hne⟩:=h4
 have hv5:Vp p q4.bout (c+12400):=⟨hv4.tk,hv4.sf.trans hv3.sf,hv4.inD.trans hv3.inD,by show q4.blk-1=_;rw[hv4.blk];exact hv3.blk,by have:=hv4.wt;have:=hv3.wt;show _+12400*q4.toks.length≤_;have h:q2.adv.bin.toks.length=q2.adv.toks.length:=rfl;omega⟩
 refine Po.bnd (po_tkK hv5 (by decide)) fun _ q6 h6=>po_ok ⟨hne (.inr h8),n,c,?_,h6.2.2.2.mono (by omega)⟩
 have e:q2.adv.bin.inD=p.inD:=hv3.inD
 rw[e]at hc
 exact hc
theorem cs_one {n m:Nat}{b d:Bool}{s:Sm}{c:Nat}(h:WfX n m b d s)(hw:∀ dd,dd+m≤40→wl (lnS n m dd s)≤c):Cs n m b d [s] c:=by
 refine⟨fun x hx=>by rw[List.mem_singleton.1 hx];exact h,fun dd hd=>?_⟩
 show wl (lnS n m dd s++[])≤c
 rw[List.append_nil]
 exact hw dd hd
def MJ (m:Nat)(p:Ps)(s:Sm)(q:Ps):Prop:=∃ n c,s.kind≤5∧WfX n (m+1) (decide (0<p.blk)) p.inD s∧ll (lSm n s)≤c∧Vp p q c
theorem po_ldL {p0:Ps}:∀ (f:Nat) (l:List (List UInt8)) (p:Ps) (c:Nat),(∀ t∈l,isNmL t=true∧(∀ x∈t,okB x=true)∧t.length≤6000)→c+12010*l.length+30≤12400*(l.length+1)+c→Vp p0 p (c+12400*(l.length+1))→Po (ldL f l p) fun l' q=>l'≠[]∧(∀ t∈l',isNmL t=true∧(∀ x∈t,okB x=true)∧t.length≤6000)∧Vp p0 q (c+12400*(l'.length+1))
 |0,_,_,_,_,_,_=>fun _ _ e=>by cases e
 |f+1,l,p,c,h,hc,hv=>by
  unfold ldL
  cases hb:decide (0<l.length)&&p.sees [[41]]
  ·refine po_iff fun _=>Po.bnd (po_tkS hv) fun _ q hq=>?_
   refine Po.bnd po_guIf fun _ q2 h2=>?_
   obtain⟨rfl,hn⟩:=h2
   have hn:isNmL q2.nx.text=true:=by simpa using hn
   refine Po.bnd (J:=fun t r=>t=q2.nx∧t.kind=3∧TkOk t∧Vp p0 r (c+12400*(l.length+1)+12400+12400)) ?_ fun t r ht=>po_iff fun _=>?_
   ·intro t r e
    obtain⟨_,e2,e3,e4⟩:=po_tkK hq.2 (k:=3) (by decide) t r e
    refine⟨?_,e2,e3,e4⟩
    unfold tkK at e
    cases hk:q2.nx.kind==3
    ·rw[hk]at e
     cases e
    ·rw[hk]at e
     cases e
     rfl
   ·obtain⟨rfl,t1,t2,t3⟩:=ht
    refine(po_ldL f (l++[q2.nx.text]) r c (fun t ht=>?_) ?_ (t3.mono ?_)).mono fun l' r hr=>hr
    ·rcases List.mem_append.1 ht with ht|ht
     ·exact h t ht
     ·rw[List.mem_singleton.1 ht]
      exact⟨hn,t2.2.2.2 t1,t2.1⟩
    ·rw[List.length_append,List.length_singleton]
     omega
    ·rw[List.length_append,List.length_singleton]
     omega
  ·have h0:0<l.length:=by
    rw[Bool.and_eq_true,decide_eq_true_eq]at hb
    exact hb.1
   exact po_ok ⟨fun e=>(by rw[e]at h0;cases h0),h,hv⟩
theorem text_sum:∀ l:List (List UInt8),(∀ t∈l,t.length≤6000)→((l.map fun t=>[kT t]).map fun x=>ll x+2).sum≤12010*l.length
 |[],_=>Nat.le_refl _
 |t::l,h=>by
  have a:=text_sum l fun x hx=>h x (List.mem_cons_of_mem _ hx)
  have b:=h t List.mem_cons_self
  have d:=qt_le t
  have e:ll [kT t]=(qtL t).length:=by rw[ll_one rfl];rfl
  have g:(qtL t).length=(t.flatMap qt1).length+2:=by simp[qtL]
  rw[List.map_cons,List.map_cons,List.sum_cons,List.length_cons]
  omega
theorem name_sum:∀ l:List (List UInt8),(∀ t∈l,t.length≤6000)→((l.map fun t=>[kW t]).map fun x=>ll x+2).sum≤6010*l.length
 |[],_=>Nat.le_refl _
 |t::l,h=>by
  have a:=name_sum l fun x hx=>h x (List.mem_cons_of_mem _ hx)
  have b:=h t List.mem_cons_self
  have e:ll [kW t]=t.length:=by rw[ll_one rfl];rfl
  rw[List.map_cons,List.map_cons,List.sum_cons,List.length_cons]
  omega
theorem br_len (x:List Lx)(xs:List Lx):ll (x++kS [40]::(xs++[kS [41]]))=ll x+ll xs+2:=by
 rw[ll_app,ll_one rfl,ll_app]
 show _+(1+(_+1))=_
 omega
theorem po_load {m:Nat}{p:Ps}(hp:AllT p.toks):Po (loadS p) (MJ m p):=by
 unfold loadS
 refine Po.bnd po_guIf fun _ q hq=>?_
 obtain⟨rfl,hb⟩:=hq
 refine Po.bnd (po_tkS (Vp.refl hp)) fun _ q2 h2=>Po.bnd (po_tkS h2.2) fun _ q3 h3=>Po.bnd (po_tkK h3.2 (by decide)) fun t q4 h4=>?_
 obtain⟨_,t1,t2,hv4⟩:=h4
 refine Po.bnd (po_ldL _ [] q4 24800 (fun _ h=>absurd h List.not_mem_nil) (by decide) (hv4.mono (by decide))) fun l q5 h5=>?_
 obtain⟨l1,l2,hv5⟩:=h5
 refine Po.bnd (po_tkS hv5) fun _ q6 h6=>po_ok ⟨0,_,(by show 4≤5;decide),⟨rfl,hb,l1,t2.2.2.2 t1,fun x hx=>⟨(l2 x hx).1,(l2 x hx).2.1⟩⟩,?_,h6.2⟩
 have a:=ll_join ((t.text::l).map fun t=>[kT t])
 have b:=text_sum (t.text::l) fun x hx=>(by rcases List.mem_cons.1 hx with rfl|hx;exact t2.1;exact(l2 x hx).2.2)
 have c:ll [kW [108,111,97,100]]=4:=rfl
 show ll ([kW [108,111,97,100]]++kS [40]::(joinC ((t.text::l).map fun t=>[kT t])++[kS [41]]))≤_
 rw[br_len]
 rw[List.length_cons]at b
 omega
theorem po_sml {m:Nat}{E:Ps→Px Ex}(hE:PoE E){p:Ps}(hp:AllT p.toks):Po (smlF E p) (MJ m p):=by
 have hv:=Vp.refl hp
 unfold smlF
 cases s1:p.sees [[112,97,115,115]]
 ·cases s2:p.sees [[114,101,116,117,114,110]]
  ·cases s3:p.sees [[108,111,97,100]]
   ·cases s4:sSet p
    ·refine Po.bnd (hE p hp) fun e q he=>?_
     obtain⟨n,c,hc,hw⟩:=he
     exact po_ok ⟨n,c,(by show 5≤5;decide),⟨rfl,hc.1⟩,Nat.le_trans (Nat.le_add_right _ 4) hc.2,hw⟩
    ·show Po (setS E p) _
     unfold setS
     refine Po.bnd (po_tkK hv (by decide)) fun t q h2=>?_
     obtain⟨_,t1,t2,hv2⟩:=h2
     refine Po.bnd (po_tkS hv2) fun _ q3 h3=>Po.bnd (hE q3 h3.2.tk) fun e q he=>?_
     obtain⟨n,c,hc,hw⟩:=he
     obtain⟨k1,k2⟩:=t2.2.1 t1
     refine po_ok ⟨n,_,(by show 3≤5;decide),⟨rfl,k1,k2,hc.1⟩,?_,h3.2.trans hw⟩
     have a:=ll_cons (kW t.text).and ((kS [61]).and::lE n e)
     have b:=ll_cons (kS [61]).and (lE n e)
     have d:(kW t.text).and.b.length=t.text.length:=rfl
     have g:(kS [61]).and.b.length=1:=rfl
     have k:=hc.2
     have j:=t2.1
     show ll ((kW t.text).and::(kS [61]).and::lE n e)≤_
     omega
   ·exact po_load hp
  ·show Po (givS E p) _
   unfold givS
   refine Po.bnd po_guIf fun _ q hq=>?_
   obtain⟨rfl,hd⟩:=hq
   have hd:q.inD=true:=by simpa using hd
   refine Po.bnd (po_tkS (Vp.refl hp)) fun _ q2 h2=>?_
   have key:∀ n e c q3,Ce n e c→Vp q q3 (c+12000)→MJ m q ⟨2,[],[],e,[],[]⟩ q3:=fun n e c q3 hc hw=>by
    refine⟨n,_,by show 2≤5;decide,⟨rfl,hc.1,hd⟩,?_,hw⟩
    have a:=ll_cons (kW [114,101,116,117,114,110]).and (lE n e)
    have b:(kW [114,101,116,117,114,110]).and.b.length=6:=rfl
    have k:=hc.2
    show ll ((kW [114,101,116,117,114,110]).and::lE n e)≤_
    omega
   cases hk:q2.nx.kind==6
   ·refine Po.bnd (hE q2 h2.2.tk) fun e q3 he=>?_
    obtain⟨n,c,hc,hw⟩:=he
    exact po_ok (key n e c q3 hc ((h2.2.trans hw).mono (by omega)))
   ·exact po_ok (key 1 _ 20 q2 ce_lit.1 (h2.2.mono (by omega)))
 ·refine po_ok ⟨0,12400,by decide,rfl,by decide,(hv.sees s1).1.mono (by omega)⟩
theorem wl_small {n m dd:Nat}{s:Sm}(h5:s.kind≤5)(hd:dd+(m+1)≤40):wl (lnS n (m+1) dd s)≤161+ll (lSm n s):=by
 have e:lnS n (m+1) dd s=[(dd,lSm n s)]:=by unfold lnS;rw[decide_eq_true h5];rfl
 rw[e,wl_cons]
 show 4*dd+ll (lSm n s)+1+0≤_
 omega
theorem wl_block {n m dd:Nat}{s:Sm}(h6:¬s.kind≤5)(hd:dd+(m+1)≤40){c1 c2:Nat}(h1:∀ dd,dd+m≤40→wl (s.body.flatMap (lnS n m dd))≤c1)(h2:∀ dd,dd+m≤40→wl (s.els.flatMap (lnS n m dd))≤c2):wl (lnS n (m+1) dd s)≤340+ll (lHd n s)+c1+c2:=by
 have e:lnS n (m+1) dd s=((dd,lHd n s)::s.body.flatMap (lnS n m (dd+1)))++(bif s.els.isEmpty then[]else(dd,lEl)::s.els.flatMap (lnS n m (dd+1))):=by
  conv=>lhs;unfold lnS
  rw[decide_eq_false h6]
  rfl
 have a:=h1 (dd+1) (by omega)
 have b:=h2 (dd+1) (by omega)
 rw[e,wl_app,wl_cons]
 have g:wl (bif s.els.isEmpty then[]else(dd,lEl)::s.els.flatMap (lnS n m (dd+1)))≤170+c2:=by
  cases s.els.isEmpty
  ·show wl ((dd,lEl)::s.els.flatMap (lnS n m (dd+1)))≤_
   rw[wl_cons]
   show 4*dd+5+1+_≤_
   omega
  ·exact Nat.zero_le _
 show 4*dd+ll (lHd n s)+1+_+_≤_
 omega
theorem hd_len (xs:List Lx):ll (xs++[kS [58]])=ll xs+1:=by
 rw[ll_app]
 rfl
theorem po_if {m:Nat}{E:Ps→Px Ex}(hE:PoE E){St:Ps→Px Sm}(hS:PoS m St){p:Ps}(hp:AllT p.toks)(hN:NoIO p.toks):Po (condS E (blF St) p) (SJ (m+1) p):=by
 unfold condS
 refine Po.bnd (po_tkS (Vp.refl hp)) fun _ q hq=>Po.bnd (hE q hq.2.tk) fun e q2 he=>?_
 obtain⟨n,c,hc,hw⟩:=he
 have hv2:=hq.2.trans hw
 refine Po.bnd (po_blF hS hv2.tk (hN.sf hv2.sf)) fun l q3 h3=>?_
 obtain⟨l1,n2,c2,l2,hw3⟩:=h3
 have hv3:=hv2.trans hw3
 rw[hv2.inD]at l2
 have hhd:∀ n',n≤n'→ll (lHd n' ⟨7,[],[],e,l,[]⟩)≤c+5:=fun n' hn=>by
  have a:=ll_cons (kW [105,102]).and (lE n' e)
  have b:(kW [105,102]).and.b.length=2:=rfl
  have k:=(hc.up hn).2
  show ll (((kW [105,102]).and::lE n' e)++[kS [58]])≤_
  rw[hd_len]
  omega
 cases hs:q3.sees [[101,108,115,101]]
 ·have l3:=l2.up (Nat.le_max_right n n2)
  refine po_ok ⟨max n n2,_,cs_one ⟨rfl,(hc.up (Nat.le_max_left _ _)).1,l1,l3.1,fun _ h=>absurd h List.not_mem_nil⟩ fun dd hd=>?_,hv3⟩
  have a:=wl_block (n:=max n n2) (s:=⟨7,[],[],e,l,[]⟩) (by show ¬7≤5;decide) hd l3.2 (fun _ _=>Nat.le_refl 0)
  have b:=hhd _ (Nat.le_max_left n n2)
  omega
 ·have hv4:=(hv3.sees hs).1
  refine Po.bnd (po_blF hS hv4.tk (hN.sf hv4.sf)) fun l' q4 h4=>?_
  obtain⟨_,n3,c3,k2,hw4⟩:=h4
  rw[show q3.adv.inD=p.inD from hv4.inD]at k2
  have l3:=l2.up (Nat.le_trans (Nat.le_max_right n n2) (Nat.le_max_left _ n3))
  have k3:=k2.up (Nat.le_max_right (max n n2) n3)
  have hn:n≤max (max n n2) n3:=Nat.le_trans (Nat.le_max_left n n2) (Nat.le_max_left _ n3)
  refine po_ok ⟨max (max n n2) n3,_,cs_one ⟨rfl,(hc.up hn).1,l1,l3.1,k3.1⟩ fun dd hd=>?_,hv4.trans hw4⟩
  have a:=wl_block (n:=max (max n n2) n3) (s:=⟨7,[],[],e,l,l'⟩) (by show ¬7≤5;decide) hd l3.2 k3.2
  have b:ll (lHd (max (max n n2) n3) ⟨7,[],[],e,l,l'⟩)≤c+5:=hhd _ hn
  omega
theorem po_for {m:Nat}{E:Ps→Px Ex}(hE:PoE E){St:Ps→Px Sm}(hS:PoS m St){p:Ps}(hp:AllT p.toks)(hN:NoIO p.toks):Po (loopS E (blF St) p) (SJ (m+1) p):=by
 unfold loopS
 refine Po.bnd (po_tkS (Vp.refl hp)) fun _ q hq=>Po.bnd (po_tkK hq.2 (by decide)) fun t q1 h1=>?_
 obtain⟨_,t1,t2,hv1⟩:=h1
 refine Po.bnd (po_tkS hv1) fun _ q2 h2=>Po.bnd (hE q2 h2.2.tk) fun e q3 he=>?_
 obtain⟨n,c,hc,hw⟩:=he
 have hv3:=h2.2.trans hw
 refine Po.bnd (po_blF hS hv3.tk (hN.sf hv3.sf)) fun l q4 h4=>?_
 obtain⟨l1,n2,c2,l2,hw4⟩:=h4
 rw[hv3.inD]at l2
 obtain⟨k1,k2⟩:=t2.2.1 t1
 have l3:=l2.up (Nat.le_max_right n n2)
 refine po_ok ⟨max n n2,_,cs_one ⟨rfl,k1,k2,(hc.up (Nat.le_max_left _ _)).1,l1,l3.1⟩ fun dd hd=>?_,hv3.trans hw4⟩
 have a:=wl_block (n:=max n n2) (s:=⟨8,t.text,[],e,l,[]⟩) (by show ¬8≤5;decide) hd l3.2 (fun _ _=>Nat.le_refl 0)
 have b:ll (lHd (max n n2) ⟨8,t.text,[],e,l,[]⟩)≤t.text.length+c+12:=by
  have a:=ll_cons (kW [102,111,114]).and ((kW t.text).and::(kW [105,110]).and::lE (max n n2) e)
  have b:=ll_cons (kW t.text).and ((kW [105,110]).and::lE (max n n2) e)
  have d:=ll_cons (kW [105,110]).and (lE (max n n2) e)
  have d1:(kW [102,111,114]).and.b.length=3:=rfl
  have d2:(kW t.text).and.b.length=t.text.length:=rfl
  have d3:(kW [105,110]).and.b.length=2:=rfl
  have k:=(hc.up (Nat.le_max_left n n2)).2
  show ll (((kW [102,111,114]).and::(kW t.text).and::(kW [105,110]).and::lE (max n n2) e)++[kS [58]])≤_
  rw[hd_len]
  omega
 have j:=t2.1
 omega
theorem num_1 {a c x y z:Nat}(h1:c+12400+12400*x≤12400*y)(h2:a+12400+12400*y≤12400*z):a+12400+(c+12400)+12400*x≤12400*z:=by omega
def NmI (p:Ps)(l:List (List UInt8))(q:Ps):Prop:=(∀ t∈l,(NmS t∧isWd t=false)∧t.length≤6000)∧l.Nodup∧Vp p q (6010*l.length+12400)
theorem po_def {m:Nat}{St:Ps→Px Sm}(hS:PoS m St){p:Ps}(hp:AllT p.toks)(hN:NoIO p.toks)(hd0:p.blk=0→p.inD=false):Po (defS (blF St) p) (SJ (m+1) p):=by
 unfold defS
 refine Po.bnd po_guIf fun _ q hq=>?_
 obtain⟨rfl,hb⟩:=hq
 have hb0:q.blk=0:=by simpa using hb
 refine Po.bnd (po_tkS (Vp.refl hp)) fun _ q1 h1=>Po.bnd (po_tkK h1.2 (by decide)) fun t q2 h2=>?_
 obtain⟨_,t1,t2,hv2⟩:=h2
 refine Po.bnd (po_tkS hv2) fun _ q3 h3=>?_
 refine Po.bnd (po_lsL (NmI q) (NmI q) (fun s r h hs=>⟨h.1,h.2.1,(h.2.2.sees hs).1.mono (by omega)⟩) (fun s r r2 h _ hr=>?_) _ _ _ _ ⟨fun _ h=>absurd h List.not_mem_nil,List.nodup_nil,h3.2.mono (by show 6010*0+12400≤_;omega)⟩) fun l q4 h4=>?_
 ·have hv:Vp q r2 (6010*s.length+12400):=by
   rcases hr with rfl|⟨hs,rfl⟩
   ·exact h.2.2
   ·exact(h.2.2.sees hs).1.mono (by omega)
  unfold nmE
  refine po_iff fun _=>Po.bnd (po_tkN hv) fun x r3 hx=>?_
  obtain⟨x1,x2,x3,x4⟩:=hx
  refine po_ok ⟨fun t ht=>?_,?_,x4.mono ?_⟩
  ·rcases List.mem_append.1 ht with ht|ht
   ·exact h.1 t ht
   ·rw[List.mem_singleton.1 ht]
    exact⟨x2,x3⟩
  ·rw[List.nodup_append]
   exact⟨h.2.1,by simp,fun a ha b hb e=>x1 (by rw[←List.mem_singleton.1 hb,←e];exact ha)⟩
  ·rw[List.length_append,List.length_singleton]
   omega
 ·obtain⟨l1,l2,hv4⟩:=h4
  refine Po.bnd (po_blF hS (p:=q4.din true) hv4.tk (hN.sf hv4.sf)) fun l' q5 h5=>?_
  obtain⟨k1,n,c,k2,hw⟩:=h5
  have w1:c+12400+12400*q5.toks.length≤12400*q4.toks.length:=hw.wt
  have w2:=hv4.wt
  have w3:6010*l.length+12400+(c+12400)+12400*q5.toks.length≤12400*q.toks.length:=num_1 w1 w2
  have hv5:Vp q (q5.din false) (6010*l.length+12400+(c+12400)):=⟨hw.tk,hw.sf.trans hv4.sf,(hd0 hb0).symm,hw.blk.trans hv4.blk,w3⟩
  obtain⟨m1,m2⟩:=t2.2.1 t1
  refine po_ok ⟨n,_,cs_one ⟨rfl,hb,m1,m2,fun t ht=>(l1 t ht).1,l2,k1,k2.1⟩ fun dd hd=>?_,hv5⟩
  have a:=wl_block (n:=n) (s:=⟨6,t.text,l,⟨0,0,[],[],[]⟩,l',[]⟩) (by show ¬6≤5;decide) hd k2.2 (fun _ _=>Nat.le_refl 0)
  have b:ll (lHd n ⟨6,t.text,l,⟨0,0,[],[],[]⟩,l',[]⟩)≤t.text.length+6010*l.length+10:=by
   have a:=ll_cons (kW [100,101,102]).and ([kW t.text]++kS [40]::(joinC (l.map fun t=>[kW t])++[kS [41]]))
   have b:=ll_join (l.map fun t=>[kW t])
   have d:=name_sum l fun t ht=>(l1 t ht).2
   have d1:(kW [100,101,102]).and.b.length=3:=rfl
   have d2:ll [kW t.text]=t.text.length:=by rw[ll_one rfl];rfl
   rw[br_len]at a
   show ll (((kW [100,101,102]).and::([kW t.text]++kS [40]::(joinC (l.map fun t=>[kW t])++[kS [41]])))++[kS [58]])≤_
   rw[hd_len]
   omega
  have j:=t2.1
  omega
theorem po_stD:∀ m:Nat,PoS m (stD (exF 40) m)
 |0=>fun _ _ _ _ _ _ e=>by cases e
 |m+1=>fun p hp hN hd=>by
  have ih:=po_stD m
  show Po (stmF (exF 40) (blF (stD (exF 40) m)) p) _
  unfold stmF
  cases s1:p.sees [[105,102]]
  ·cases s2:p.sees [[102,111,114]]
   ·cases s3:p.sees [[100,101,102]]
    ·refine Po.bnd (po_sml (m:=m) (po_exF 40) hp) fun s q hs=>?_
     obtain⟨n,c,h5,hw,hl,hv⟩:=hs
     refine Po.bnd (po_tkK hv (by decide)) fun _ q2 h2=>po_ok ⟨n,_,cs_one hw fun dd hd=>?_,h2.2.2.2⟩
     have:=wl_small (n:=n) h5 hd
     omega
    ·exact po_def ih hp hN hd
   ·exact po_for (po_exF 40) ih hp hN
  ·exact po_if (po_exF 40) ih hp hN
theorem po_srcL {p0:Ps}(h0:p0.blk=0)(hd:p0.inD=false)(hN:NoIO p0.toks):∀ (f:Nat) (l:List Sm) (p:Ps),(∃ n c,Cs n 40 false false l c∧Vp p0 p c)→Po (srcL (stD (exF 40) 40) f l p) fun l' q=>∃ n c,Cs n 40 false false l' c∧Vp p0 q c
 |0,_,_,_=>fun _ _ e=>by cases e
 |f+1,l,p,h=>by
  unfold srcL
  cases decide (p.toks.length=0)
  ·obtain⟨n,c,hc,hv⟩:=h
   refine po_iff fun _=>Po.bnd (po_stD 40 p hv.tk (hN.sf hv.sf) fun _=>hv.inD.trans hd) fun s q hs=>po_iff fun _=>?_
   obtain⟨n2,c2,hc2,hw⟩:=hs
   rw[hv.blk,h0,hv.inD,hd]at hc2
   exact po_srcL h0 hd hN f (l++[s]) q ⟨_,_,hc.snoc hc2,hv.trans hw⟩
  ·exact po_ok h
theorem par_wf {L:List UInt8}{l:List Sm}(h:parT L= .ok l):∃ n,(∀ s∈l,WfX n 40 false false s)∧(wrL n 40 l).length≤500000000:=by
 unfold parT at h
 split at h
 ·cases h
 rename_i toks hs
 have hN:NoIO toks:=by
  unfold splitA at hs
  split at hs
  ·exact noio_of ((Lw.splitL_lv L).1 toks hs).1
  ·cases hs
 have hf:toks.length≤24004:=by
  unfold splitA at hs
  split at hs
  ·rename_i hL
   have:=splitL_few hs
   omega
  ·cases hs
 split at h
 ·cases h
 ·cases h
 ·rename_i l' q e
  cases h
  have e':srcL (stD (exF 40) 40) (toks.length+1) [] ⟨toks,L.length,0,false,0⟩=some (.ok (l,q)):=e
  obtain⟨n,c,hc,hv⟩:=po_srcL (p0:=⟨toks,L.length,0,false,0⟩) rfl rfl hN _ [] ⟨toks,L.length,0,false,0⟩ ⟨0,0,⟨fun _ h=>absurd h List.not_mem_nil,fun _ _=>Nat.le_refl _⟩,Vp.refl (splitA_tk hs)⟩ _ _ e'
  refine⟨n,hc.1,?_⟩
  have a:=hc.2 0 (by decide)
  have b:=hv.wt
  have d:c+12400*q.toks.length≤12400*toks.length:=b
  show wl (l.flatMap (lnS n 40 0))≤_
  omega
end Go.Proofs.YtcaeeackccgclaaGreatDoor
namespace Go.Proofs.YtcaeeackccgclaaGreatDoor
def Ne {α:Type}(m:Px α):Prop:=∀ x,m=some (.error x)→x.1≠0
section
variable {α β σ:Type}
theorem ne_bnd {m:Px α}{f:α→Ps→Px β}(h:Ne m)(g:∀ a q,Ne (f a q)):Ne (bnd m f):=fun x e=>by
 rcases bnd_some e with⟨y,h1,hx⟩|⟨a,q,_,h2⟩
 ·cases hx
  exact h _ h1
 ·exact g a q x h2
theorem ne_ok (a:α)(p:Ps):Ne (ok a p):=fun x e=>by cases e
theorem ne_gu (p:Ps){k:Nat}(h:k≠0):Ne (gu p k:Px α):=fun x e=>by cases e;exact h
theorem ne_bif {b:Bool}{m m':Px α}(h:Ne m)(h':Ne m'):Ne (bif b then m else m'):=by cases b<;>assumption
theorem ne_iff {b:Bool}{m:Px α}(h:Ne m):Ne (iff b m):=fun x e=>h x (iff_some e).2
theorem ne_none:Ne (none:Px α):=fun x e=>by cases e
theorem ne_guIf (b:Bool){k:Nat}(p:Ps)(h:k≠0):Ne (guIf b k p):=ne_bif (ne_gu p h) (ne_ok _ _)
theorem ne_tkS (x:List UInt8)(p:Ps):Ne (tkS x p):=ne_bif (ne_ok _ _) (ne_gu p (by decide))
theorem ne_tkK (k:Nat)(p:Ps):Ne (tkK k p):=ne_bif (ne_ok _ _) (ne_gu p (by decide))
theorem ne_tkN (l:List (List UInt8))(p:Ps):Ne (tkN l p):=ne_bif (ne_gu p (by decide)) (ne_bnd (ne_tkK 1 p) fun _ _=>ne_ok _ _)
theorem ne_rfD (l:List (List UInt8))(p:Ps):Ne (rfD l p):=ne_guIf _ p (by decide)
theorem ne_inner {m:Ps→Px Ex}(h:∀ p,Ne (m p))(p:Ps):Ne (inner m p):=ne_iff (ne_bnd (h _) fun _ _=>ne_iff (ne_ok _ _))
theorem ne_lsL {c:List UInt8}{each:σ→Ps→Px σ}(h:∀ s p,Ne (each s p)):∀ (f:Nat) (b:Bool) (s:σ) (p:Ps),Ne (lsL c each f b s p)
 |0,_,_,_=>ne_none
 |f+1,_,_,_=>ne_bif (ne_ok _ _) (ne_bnd (ne_bif (ne_ok _ _) (ne_tkS _ _)) fun _ _=>ne_bnd (h _ _) fun _ _=>ne_iff (ne_lsL h f _ _ _))
theorem ne_jnL {part:Ps→Px Ex}{l:List (List UInt8)}(h:∀ p,Ne (part p)):∀ (f:Nat) (e:Ex) (p:Ps),Ne (jnL part l f e p)
 |0,_,_=>ne_none
 |f+1,_,_=>ne_bif (ne_bnd (h _) fun _ _=>ne_iff (ne_jnL h f _ _)) (ne_ok _ _)
theorem ne_jn {part:Ps→Px Ex}{l:List (List UInt8)}(h:∀ p,Ne (part p))(p:Ps):Ne (jn part l p):=ne_bnd (h p) fun _ _=>ne_jnL h _ _ _
end
section
variable {E:Ps→Px Ex}
theorem ne_kdE (hE:∀ p,Ne (E p))(s:Ex)(p:Ps):Ne (kdE E s p):=ne_bnd (hE p) fun _ _=>ne_ok _ _
theorem ne_caE (hE:∀ p,Ne (E p))(s:Ex)(p:Ps):Ne (caE E s p):=ne_iff (ne_bif (ne_bnd (ne_tkN _ _) fun _ _=>ne_bnd (ne_tkS _ _) fun _ _=>ne_kdE hE _ _) (ne_bnd (ne_guIf _ p (by decide)) fun _ _=>ne_kdE hE _ _))
theorem ne_eaR (s:Ex)(p:Ps):Ne (eaR s p):=ne_bnd (ne_guIf _ p (by decide)) fun _ _=>ne_ok _ _
theorem ne_eaF (hE:∀ p,Ne (E p))(s:Ex)(p:Ps):Ne (eaF E s p):=ne_bif (ne_bnd (ne_kdE hE _ _) fun _ _=>ne_eaR _ _) (ne_eaR _ _)
theorem ne_eaE (hE:∀ p,Ne (E p))(s:Ex)(p:Ps):Ne (eaE E s p):=ne_bnd (ne_tkK 1 p) fun _ _=>ne_bnd (ne_tkS _ _) fun _ _=>ne_bnd (ne_kdE hE _ _) fun _ _=>ne_eaF hE _ _
theorem ne_liE (hE:∀ p,Ne (E p))(s:Ex)(p:Ps):Ne (liE E s p):=ne_iff (ne_bnd (ne_kdE hE _ _) fun _ _=>ne_bif (ne_eaE hE _ _) (ne_ok _ _))
theorem ne_diE (hE:∀ p,Ne (E p))(s:Ex)(p:Ps):Ne (diE E s p):=ne_iff (ne_bnd (ne_kdE hE _ _) fun _ _=>ne_bnd (ne_tkS _ _) fun _ _=>ne_kdE hE _ _)
theorem ne_sgA (hE:∀ p,Ne (E p))(p:Ps):Ne (sgA E p):=ne_bif (ne_ok _ _) (ne_bif (ne_ok _ _) (ne_bif (ne_ok _ _) (ne_bif (ne_lsL (ne_liE hE) _ _ _ _) (ne_bif (ne_lsL (ne_diE hE) _ _ _ _) (ne_bnd (ne_tkS _ _) fun _ _=>ne_bnd (hE _) fun _ _=>ne_bnd (ne_tkS _ _) fun _ _=>ne_ok _ _)))))
theorem ne_atm (hE:∀ p,Ne (E p))(p:Ps):Ne (atm E p):=ne_bif (ne_ok _ _) (ne_bif (ne_ok _ _) (ne_bif (ne_ok _ _) (ne_sgA hE p)))
theorem ne_psL (hE:∀ p,Ne (E p)):∀ (f:Nat) (e:Ex) (p:Ps),Ne (psL E f e p)
 |0,_,_=>ne_none
 |f+1,_,_=>ne_bif (ne_bnd (ne_lsL (ne_caE hE) _ _ _ _) fun _ _=>ne_iff (ne_psL hE f _ _)) (ne_bif (ne_bnd (hE _) fun _ _=>ne_bnd (ne_tkS _ _) fun _ _=>ne_iff (ne_psL hE f _ _)) (ne_ok _ _))
theorem ne_pst (hE:∀ p,Ne (E p))(p:Ps):Ne (pst E p):=ne_bnd (ne_atm hE p) fun _ _=>ne_psL hE _ _ _
theorem ne_unL (hE:∀ p,Ne (E p)):∀ (f:Nat) (p:Ps),Ne (unL E f p)
 |0,_=>ne_none
 |f+1,p=>ne_bif (ne_bnd (ne_rfD _ _) fun _ q=>ne_bnd (ne_inner (ne_unL hE f) q) fun _ _=>ne_ok _ _) (ne_pst hE p)
theorem ne_sum (hE:∀ p,Ne (E p))(p:Ps):Ne (sum E p):=ne_jn (fun p=>ne_jn (fun p=>ne_unL hE _ p) p) p
theorem ne_cmp (hE:∀ p,Ne (E p))(p:Ps):Ne (cmp E p):=ne_bnd (ne_sum hE p) fun _ _=>ne_bif (ne_bnd (ne_sum hE _) fun _ _=>ne_ok _ _) (ne_ok _ _)
theorem ne_ngL (hE:∀ p,Ne (E p)):∀ (f:Nat) (p:Ps),Ne (ngL E f p)
 |0,_=>ne_none
 |f+1,p=>ne_bif (ne_bnd (ne_rfD _ _) fun _ q=>ne_bnd (ne_inner (ne_ngL hE f) q) fun _ _=>ne_ok _ _) (ne_cmp hE p)
theorem ne_orE (hE:∀ p,Ne (E p))(p:Ps):Ne (orE E p):=ne_jn (fun p=>ne_jn (fun p=>ne_ngL hE _ p) p) p
theorem ne_givS (hE:∀ p,Ne (E p))(p:Ps):Ne (givS E p):=ne_bnd (ne_guIf _ p (by decide)) fun _ _=>ne_bnd (ne_tkS _ _) fun _ _=>ne_bif (ne_ok _ _) (ne_bnd (hE _) fun _ _=>ne_ok _ _)
theorem ne_setS (hE:∀ p,Ne (E p))(p:Ps):Ne (setS E p):=ne_bnd (ne_tkK _ _) fun _ _=>ne_bnd (ne_tkS _ _) fun _ _=>ne_bnd (hE _) fun _ _=>ne_ok _ _
theorem ne_ldL:∀ (f:Nat) (l:List (List UInt8)) (p:Ps),Ne (ldL f l p)
 |0,_,_=>ne_none
 |f+1,_,_=>ne_bif (ne_ok _ _) (ne_iff (ne_bnd (ne_tkS _ _) fun _ q=>ne_bnd (ne_guIf _ q (by decide)) fun _ _=>ne_bnd (ne_tkK _ _) fun _ _=>ne_iff (ne_ldL f _ _)))
theorem ne_loadS (p:Ps):Ne (loadS p):=ne_bnd (ne_guIf _ p (by decide)) fun _ _=>ne_bnd (ne_tkS _ _) fun _ _=>ne_bnd (ne_tkS _ _) fun _ _=>ne_bnd (ne_tkK _ _) fun _ _=>ne_bnd (ne_ldL _ _ _) fun _ _=>ne_bnd (ne_tkS _ _) fun _ _=>ne_ok _ _
theorem ne_smlF (hE:∀ p,Ne (E p))(p:Ps):Ne (smlF E p):=ne_bif (ne_ok _ _) (ne_bif (ne_givS hE p) (ne_bif (ne_loadS p) (ne_bif (ne_setS hE p) (ne_bnd (hE p) fun _ _=>ne_ok _ _))))
end
theorem ne_exF:∀ (n:Nat) (p:Ps),Ne (exF n p)
 |0,_=>ne_none
 |n+1,p=>ne_bnd (ne_rfD _ p) fun _ q=>ne_inner (ne_orE (ne_exF n)) q
theorem ne_blL {St:Ps→Px Sm}(h:∀ p,Ne (St p)):∀ (f:Nat) (l:List Sm) (p:Ps),Ne (blL St f l p)
 |0,_,_=>ne_none
 |f+1,_,p=>ne_bif (ne_ok _ _) (ne_iff (ne_bnd (h p) fun _ _=>ne_iff (ne_blL h f _ _)))
theorem ne_blF {St:Ps→Px Sm}(h:∀ p,Ne (St p))(p:Ps):Ne (blF St p):=ne_bnd (ne_tkS _ _) fun _ _=>ne_bnd (ne_tkK _ _) fun _ _=>ne_bnd (ne_tkK _ _) fun _ _=>ne_iff (ne_bnd (ne_blL h _ _ _) fun _ _=>ne_iff (ne_bnd (ne_tkK _ _) fun _ _=>ne_ok _ _))
theorem ne_stmF {E:Ps→Px Ex}{B:Ps→Px (List Sm)}(hE:∀ p,Ne (E p))(hB:∀ p,Ne (B p))(p:Ps):Ne (stmF E B p):=
 ne_bif (ne_bnd (ne_tkS _ _) fun _ _=>ne_bnd (hE _) fun _ _=>ne_bnd (hB _) fun _ _=>ne_bif (ne_bnd (hB _) fun _ _=>ne_ok _ _) (ne_ok _ _))
  (ne_bif (ne_bnd (ne_tkS _ _) fun _ _=>ne_bnd (ne_tkK _ _) fun _ _=>ne_bnd (ne_tkS _ _) fun _ _=>ne_bnd (hE _) fun _ _=>ne_bnd (hB _) fun _ _=>ne_ok _ _)
   (ne_bif (ne_bnd (ne_guIf _ p (by decide)) fun _ _=>ne_bnd (ne_tkS _ _) fun _ _=>ne_bnd (ne_tkK _ _) fun _ _=>ne_bnd (ne_tkS _ _) fun _ _=>ne_bnd (ne_lsL (fun l p=>ne_iff (ne_bnd (ne_tkN l p) fun _ _=>ne_ok _ _)) _ _ _ _) fun _ _=>ne_bnd (hB _) fun _ _=>ne_ok _ _)
    (ne_bnd (ne_smlF hE p) fun _ _=>ne_bnd (ne_tkK _ _) fun _ _=>ne_ok _ _)))
theorem ne_stD {E:Ps→Px Ex}(hE:∀ p,Ne (E p)):∀ (n:Nat) (p:Ps),Ne (stD E n p)
 |0,_=>ne_none
 |n+1,p=>ne_stmF hE (ne_blF (ne_stD hE n)) p
theorem ne_srcL {St:Ps→Px Sm}(h:∀ p,Ne (St p)):∀ (f:Nat) (l:List Sm) (p:Ps),Ne (srcL St f l p)
 |0,_,_=>ne_none
 |f+1,_,p=>ne_bif (ne_ok _ _) (ne_iff (ne_bnd (h p) fun _ _=>ne_iff (ne_srcL h f _ _)))
theorem parT_bad {L:List UInt8}{k z:Nat}(h:parT L= .error (k,z)):k≠0:=by
 unfold parT at h
 split at h
 ·rename_i x hx
  cases h
  exact splitA_bad hx
 rename_i toks hs
 obtain⟨z2,e,_⟩:=srcF_ts (split_si hs)
 rw[e]at h
 match z2,h with
 | .error x,h=>
  cases h
  exact ne_srcL (ne_stD (ne_exF 40) 40) _ _ _ _ e
end Go.Proofs.YtcaeeackccgclaaGreatDoor
