/- 41. -/
import Derived.Test.YtcaeeackccgclaaGreatDoorTx40
set_option maxHeartbeats 40000000
set_option maxRecDepth 100000
namespace Go.Proofs.YtcaeeackccgclaaGreatDoor
open Go.RowKit Go.Shelf
theorem kys_br (c d:List UInt8)(xs:List Lx):kys (kS c::(xs++[kS d]))=(4,c,0)::(kys xs++[(4,d,0)]):=by
 show(4,c,0)::kys (xs++[kS d])=_
 rw[kys_app]
 rfl
theorem jk_mem {x:List Ky}:∀ {first:Bool} {L:List (List Ky)},x∈L→x.length≤(jk first L).length
 |first,y::ys,h=>by
  show _≤((bif first then[]else[(4,[44],0)])++(y++jk false ys):List Ky).length
  rw[List.length_append,List.length_append]
  rcases List.mem_cons.1 h with rfl|h
  ·omega
  ·have:=jk_mem (first:=false) h
   omega
theorem jk_many:∀ {first:Bool} {L:List (List Ky)},(∀ x∈L,x≠[])→L.length≤(jk first L).length
 |_,[],_=>Nat.zero_le _
 |first,y::ys,h=>by
  show _≤((bif first then[]else[(4,[44],0)])++(y++jk false ys):List Ky).length
  rw[List.length_append,List.length_append]
  have:=jk_many (first:=false) (L:=ys) fun x hx=>h x (List.mem_cons_of_mem _ hx)
  have:0<y.length:=List.length_pos_iff.2 (h y List.mem_cons_self)
  show ys.length+1≤_
  omega
theorem flat_pairs:∀ l:List Ex,l.length%2=0→(pairs l).flatMap (fun x=>[x.1,x.2])=l
 |[],_=>rfl
 |[_],h=>by cases h
 |a::b::r,h=>by
  show a::b::(pairs r).flatMap _=_
  rw[flat_pairs r (by have:(r.length+1+1)%2=0:=h;omega)]
theorem lP_len (n:Nat)(e:Ex):(kys (lE n e)).length≤(kys (lP (lE n) e)).length:=by
 unfold lP
 cases decide (12≤e.kind)
 ·exact Nat.le_refl _
 ·show _≤(kys (kS [40]::(lE n e++[kS [41]]))).length
  rw[kys_br,List.length_cons,List.length_append]
  omega
theorem kys_call {n:Nat}{c:Ex}{l:List Ex}{names:List (List UInt8)}:kys (lE (n+1) ⟨10,0,[],c::l,names⟩)=kys (lP (lE n) c)++(4,[40],0)::(jk true ((argsL names l).map fun a=>kys (lH (lE n) a))++[(4,[41],0)]):=by
 show kys (lP (lE n) c++kS [40]::(joinC ((argsL names l).map (lH (lE n)))++[kS [41]]))=_
 rw[kys_app,kys_br,jk_join,List.map_map]
 rfl
theorem kys_list {n:Nat}{kids:List Ex}:kys (lE (n+1) ⟨7,0,[],kids,[]⟩)=(4,[91],0)::(jk true (kids.map fun e=>kys (lE n e))++[(4,[93],0)]):=by
 show kys (kS [91]::(joinC (kids.map (lE n))++[kS [93]]))=_
 rw[kys_br,jk_join,List.map_map]
 rfl
theorem kys_dict {n:Nat}{kids:List Ex}:kys (lE (n+1) ⟨8,0,[],kids,[]⟩)=(4,[123],0)::(jk true ((pairs kids).map (prK n))++[(4,[125],0)]):=by
 show kys (kS [123]::(joinC ((pairs kids).map fun p=>lE n p.1++((kS [58]).and::lE n p.2))++[kS [125]]))=_
 rw[kys_br,jk_join,List.map_map]
 congr 3
 refine List.map_congr_left fun x _=>?_
 show kys (lE n x.1++((kS [58]).and::lE n x.2))=_
 rw[kys_app]
 rfl
theorem kys_idx {n:Nat}{a b:Ex}:kys (lE (n+1) ⟨11,0,[],[a,b],[]⟩)=kys (lP (lE n) a)++(4,[91],0)::(kys (lE n b)++[(4,[93],0)]):=by
 show kys (lP (lE n) a++kS [91]::(lE n b++[kS [93]]))=_
 rw[kys_app,kys_br]
theorem kys_two {n:Nat}{t:List UInt8}{a b:Ex}:kys (lE (n+1) ⟨14,0,t,[a,b],[]⟩)=kys (lP (lE n) a)++(kO t).k::kys (lP (lE n) b):=by
 show kys (spL (lP (lE n) a)++((kO t).and::lP (lE n) b))=_
 rw[kys_app,kys_sp]
 rfl
theorem kys_each {n:Nat}{t:List UInt8}{a b:Ex}(ht:isWd t=false):∀ c:Option Ex,kys (lE (n+1) ⟨9,0,t,a::b::c.toList,[]⟩)=(4,[91],0)::(kys (lE n a)++(5,[102,111,114],0)::(1,t,0)::(5,[105,110],0)::(kys (lE n b)++(eTl n c++[(4,[93],0)])))
 |none=>by
  show kys (kS [91]::((spL (lE n a)++((kW [102,111,114]).and::(kW t).and::(kW [105,110]).and::lE n b))++[kS [93]]))=_
  rw[kys_br,kys_app,kys_sp]
  show(4,[91],0)::((kys (lE n a)++(5,[102,111,114],0)::(kW t).k::(5,[105,110],0)::kys (lE n b))++[(4,[93],0)])=_
  rw[key_nm ht]
  simp[eTl]
 |some c=>by
  show kys (kS [91]::((spL (lE n a)++((kW [102,111,114]).and::(kW t).and::(kW [105,110]).and::(spL (lE n b)++((kW [105,102]).and::lE n c))))++[kS [93]]))=_
  rw[kys_br,kys_app,kys_sp]
  show(4,[91],0)::((kys (lE n a)++(5,[102,111,114],0)::(kW t).k::(5,[105,110],0)::kys (spL (lE n b)++((kW [105,102]).and::lE n c)))++[(4,[93],0)])=_
  rw[key_nm ht,kys_app,kys_sp]
  show(4,[91],0)::((kys (lE n a)++(5,[102,111,114],0)::(1,t,0)::(5,[105,110],0)::(kys (lE n b)++(5,[105,102],0)::kys (lE n c)))++[(4,[93],0)])=_
  simp[eTl]
theorem wf_lE {n:Nat}{e:Ex}(h:WfE n e):kys (lE n e)≠[]:=fst_ne (fst_lE n e h)
section
variable {N n:Nat}
def Sma (N n:Nat):Prop:=(∀ e,WfE n e→(kys (lE n e)).length<1000000→PK (exF N) (Qd N) n e)∧∀ e,WfE n e→(kys (lE n e)).length<1000000→e.kind≤11→Spn (exF N) (Qd N) e (kys (lE n e))
theorem Sma.lP (h:Sma N n){e:Ex}(hw:WfE n e)(hl:(kys (lE n e)).length<1000000):Spn (exF N) (Qd N) e (kys (lP (lE n) e)):=spn_lP qd_fwd (h.1 e hw hl) (h.2 e hw hl)
theorem args_kids {l:List Ex}{names:List (List UInt8)}(hn:names.length≤l.length)(e:Ex)(he:e∈l):∃ a∈argsL names l,a.2=e:=by
 unfold argsL
 rw[←List.take_append_drop (l.length-names.length) l]at he
 rcases List.mem_append.1 he with he|he
 ·exact⟨(none,e),List.mem_append.2 (.inl (List.mem_map.2 ⟨e,he,rfl⟩)),rfl⟩
 ·obtain⟨i,hi,hg⟩:=List.mem_iff_getElem.1 he
  have hd:(l.drop (l.length-names.length)).length=names.length:=by rw[List.length_drop];omega
  refine⟨(some (names[i]'(by omega)),e),List.mem_append.2 (.inr (List.mem_iff_getElem.2 ⟨i,by rw[List.length_zipWith,hd];omega,?_⟩)),rfl⟩
  rw[List.getElem_zipWith,hg]
theorem lH_len (a:Option (List UInt8)×Ex):(kys (lE n a.2)).length≤(kys (lH (lE n) a)).length:=by
 obtain⟨x,e⟩:=a
 cases x with
 |none=>exact Nat.le_refl _
 |some m=>
  show(kys (lE n e)).length≤(kys (lE n e)).length+1+1
  omega
theorem spn_kind (h:Sma N n):∀ e:Ex,WfE (n+1) e→(kys (lE (n+1) e)).length<1000000→e.kind≤11→Spn (exF N) (Qd N) e (kys (lE (n+1) e)):=by
 intro e hw hl h11
 obtain⟨k,num,text,kids,names⟩:=e
 match k,hw,h11 with
 |1,hw,_=>
  have e0:(⟨1,num,text,kids,names⟩:Ex)=⟨1,0,[],[],[]⟩:=hw
  exact spn_atm fun p rest _ hk=>pe_leaf (ky:=(5,[78,111,110,101],0)) hk (.inr (.inr (.inr (.inr (.inr ⟨rfl,e0⟩)))))
 |2,hw,_=>
  have e0:(⟨2,num,text,kids,names⟩:Ex)=⟨2,0,[],[],[]⟩:=hw
  exact spn_atm fun p rest _ hk=>pe_leaf (ky:=(5,[84,114,117,101],0)) hk (.inr (.inr (.inr (.inl ⟨rfl,e0⟩))))
 |3,hw,_=>
  have e0:(⟨3,num,text,kids,names⟩:Ex)=⟨3,0,[],[],[]⟩:=hw
  exact spn_atm fun p rest _ hk=>pe_leaf (ky:=(5,[70,97,108,115,101],0)) hk (.inr (.inr (.inr (.inr (.inl ⟨rfl,e0⟩)))))
 |4,hw,_=>
  have e0:(⟨4,num,text,kids,names⟩:Ex)=⟨4,num,[],[],[]⟩:=hw.1
  exact spn_atm fun p rest _ hk=>pe_leaf (ky:=(2,Lib.decDigits num,num)) hk (.inr (.inl ⟨rfl,e0⟩))
 |5,hw,_=>
  have e0:(⟨5,num,text,kids,names⟩:Ex)=⟨5,0,text,[],[]⟩:=hw.1
  exact spn_atm fun p rest _ hk=>pe_leaf (ky:=(3,text,0)) hk (.inr (.inr (.inl ⟨rfl,e0⟩)))
 |6,hw,_=>
  have e0:(⟨6,num,text,kids,names⟩:Ex)=⟨6,0,text,[],[]⟩:=hw.1
  have ek:kys (lE (n+1) ⟨6,num,text,kids,names⟩)=[(1,text,0)]:=by show[(kW text).k]=_;rw[key_nm hw.2.2]
  rw[ek]
  exact spn_atm fun p rest _ hk=>pe_leaf (ky:=(1,text,0)) hk (.inl ⟨rfl,e0⟩)
 |7,hw,_=>
  obtain⟨e0,hk⟩:=hw
  injection e0 with _ e1 e2 _ e3
  subst e1 e2 e3
  rw[kys_list]at hl ⊢
  rw[List.length_cons,List.length_append]at hl
  have hm:=jk_many (first:=true) (L:=kids.map fun e=>kys (lE n e)) fun x hx=>by
   obtain⟨e,he,rfl⟩:=List.mem_map.1 hx
   exact wf_lE (hk e he)
  rw[List.length_map]at hm
  refine spn_list qd_fwd (steps_li (Q:=Qd N) kids [] (fun e he=>h.1 e (hk e he) ?_) (by show 0+_<_;omega))
  have:=jk_mem (first:=true) (List.mem_map.2 ⟨e,he,rfl⟩:kys (lE n e)∈kids.map fun e=>kys (lE n e))
  omega
 |8,hw,_=>
  obtain⟨e0,hk,hev⟩:=hw
  injection e0 with _ e1 e2 _ e3
  subst e1 e2 e3
  rw[kys_dict]at hl ⊢
  rw[List.length_cons,List.length_append]at hl
  have hm:=jk_many (first:=true) (L:=(pairs kids).map (prK n)) fun x hx=>by
   obtain⟨e,he,rfl⟩:=List.mem_map.1 hx
   unfold prK
   simp
  rw[List.length_map]at hm
  have hm2:∀ x∈pairs kids,(prK n x).length<1000000:=fun x hx=>by
   have:=jk_mem (first:=true) (List.mem_map.2 ⟨x,hx,rfl⟩:prK n x∈(pairs kids).map (prK n))
   omega
  have hfl:=flat_pairs kids hev
  have hst:=steps_di (E:=exF N) (Q:=Qd N) (n:=n) qd_fwd (pairs kids) [] (fun x hx=>by
   have hx2:=hm2 x hx
   unfold prK at hx2
   rw[List.length_append,List.length_cons]at hx2
   obtain⟨m1,m2⟩:=mem_pairs kids x hx
   exact⟨h.1 _ (hk _ m1) (by omega),h.1 _ (hk _ m2) (by omega)⟩) (by
   have h2:2*(pairs kids).length≤(jk true ((pairs kids).map (prK n))).length+0:=by
    have:∀ (first:Bool) (L:List (Ex×Ex)),(∀ x∈L,WfE n x.1∧WfE n x.2)→2*L.length≤(jk first (L.map (prK n))).length:=by
     intro first L
     induction L generalizing first with
     |nil=>intro _;exact Nat.zero_le _
     |cons y ys ih=>
      intro hy
      have i:=ih false fun x hx=>hy x (List.mem_cons_of_mem _ hx)
      obtain⟨w1,w2⟩:=hy y List.mem_cons_self
      have p1:=List.length_pos_iff.2 (wf_lE w1)
      show _≤((bif first then[]else[(4,[44],0)])++(prK n y++jk false (ys.map (prK n))):List Ky).length
      unfold prK at i ⊢
      simp only[List.length_append,List.length_cons]
      omega
    exact this true _ fun x hx=>by
     obtain⟨m1,m2⟩:=mem_pairs kids x hx
     exact⟨hk _ m1,hk _ m2⟩
   show 0+_<_
   omega)
  rw[List.nil_append,hfl]at hst
  exact spn_dict qd_fwd hst
 |9,hw,_=>
  obtain⟨e0,hk,hlen,hnm,hwd⟩:=hw
  injection e0 with _ e1 _ _ e3
  subst e1 e3
  have go:∀ (a b:Ex) (c:Option Ex),kids=a::b::c.toList→Spn (exF N) (Qd N) ⟨9,0,text,kids,[]⟩ (kys (lE (n+1) ⟨9,0,text,kids,[]⟩)):=by
   intro a b c e
   subst e
   rw[kys_each hwd]at hl ⊢
   simp only[List.length_cons,List.length_append]at hl
   refine spn_each qd_fwd (h.1 a (hk a (by simp)) (by omega)) (h.1 b (hk b (by simp)) (by omega)) (fun x hx=>?_)
   subst hx
   have hx1:(eTl n (some x)).length=(kys (lE n x)).length+1:=rfl
   exact h.1 x (hk x (by simp)) (by omega)
  match kids,hlen,go with
  |[a,b],_,go=>exact go a b none rfl
  |[a,b,c],_,go=>exact go a b (some c) rfl
  |[],hl,_=>exact absurd hl (by show ¬(0=2∨0=3);decide)
  |[_],hl,_=>exact absurd hl (by show ¬(1=2∨1=3);decide)
  |_::_::_::_::l,hl,_=>exact absurd hl (by show ¬(l.length+4=2∨l.length+4=3);omega)
 |10,hw,_=>
  obtain⟨e0,hk,hlen,hnm,hnd⟩:=hw
  injection e0 with _ e1 e2 _ _
  subst e1 e2
  match kids,hk,hlen,hl with
  |[],_,hlen,_=>exact absurd hlen (by show ¬(names.length+1≤0);omega)
  |c::l,hk,hlen,hl=>
   have hlen':names.length+1≤l.length+1:=hlen
   rw[kys_call]at hl ⊢
   rw[List.length_append,List.length_cons,List.length_append]at hl
   have hc:=lP_len n c
   have hm:=jk_many (first:=true) (L:=(argsL names l).map fun a=>kys (lH (lE n) a)) fun x hx=>by
    obtain⟨a,ha,rfl⟩:=List.mem_map.1 hx
    have hin:a.2∈l:=by
     unfold argsL at ha
     rcases List.mem_append.1 ha with ha|ha
     ·obtain⟨e,he,rfl⟩:=List.mem_map.1 ha
      exact List.mem_of_mem_take he
     ·obtain⟨t,e,_,he,rfl⟩:=mem_zw _ _ _ _ ha
      exact List.mem_of_mem_drop he
    have:=lH_len (n:=n) a
    have p1:=List.length_pos_iff.2 (wf_lE (hk _ (List.mem_cons_of_mem _ hin)))
    exact List.length_pos_iff.1 (by omega)
   have hal:(argsL names l).length=l.length:=by
    unfold argsL
    rw[List.length_append,List.length_map,List.length_take,List.length_zipWith,List.length_drop]
    omega
   rw[List.length_map,hal]at hm
   refine spn_call qd_fwd (h.lP (hk c List.mem_cons_self) (by omega)) (steps_call (Q:=Qd N) (fun e he=>?_) qd_fwd (fun t ht=>(hnm t ht).2) hnd (by omega) (by omega))
   obtain⟨a,ha,rfl⟩:=args_kids (names:=names) (by omega) e he
   have:=jk_mem (first:=true) (List.mem_map.2 ⟨a,ha,rfl⟩:kys (lH (lE n) a)∈(argsL names l).map fun a=>kys (lH (lE n) a))
   have:=lH_len (n:=n) a
   exact h.1 _ (hk _ (List.mem_cons_of_mem _ he)) (by omega)
 |11,hw,_=>
  obtain⟨e0,hk,hlen⟩:=hw
  injection e0 with _ e1 e2 _ e3
  subst e1 e2 e3
  match kids,hk,hlen,hl with
  |[a,b],hk,_,hl=>
   rw[kys_idx]at hl ⊢
   rw[List.length_append,List.length_cons,List.length_append]at hl
   have:=lP_len n a
   have ha:=hk a (by simp)
   have hb:=h.1 b (hk b (by simp)) (by omega)
   exact spn_idx qd_fwd (h.lP ha (by omega)) fun q rest hq hks=>hb.2 q _ _ hq hks (by decide)
theorem pe_kind (N':Nat)(h:Sma N' n):∀ e:Ex,WfE (n+1) e→(kys (lE (n+1) e)).length<1000000→PK (exF (N'+1)) (Qd (N'+1)) (n+1) e:=by
 intro e hw hl
 refine⟨hw,fun p0 k rest hq hp0 hk=>?_⟩
 refine pe_ex hp0 (fst_lE _ e hw) hq.1 fun hd=>?_
 obtain⟨p,hpp⟩:∃ p,p=p0.inn:=⟨_,rfl⟩
 have hp:p.ks=kys (lE (n+1) e)++k::rest:=by rw[hpp];exact hp0
 have hq:Qd N' p:=by rw[hpp];exact⟨by show p0.deep+1≤30;omega,by have:=hq.2;show 31≤N'+(p0.deep+1);omega⟩
 rw[←hpp]
 clear hpp hp0
 have hz:Stp (p.fwd (kys (lE (n+1) e)).length):=stp_key (ks_fwd hp) hk
 by_cases h11:e.kind≤11
 ·obtain⟨s1,s2,_⟩:=fat_sees hp (fat_lE _ e hw h11)
  exact pe_alone (spn_end (spn_kind h e hw hl h11) hq hp hz) s1 s2 hz
 obtain⟨kd,num,text,kids,names⟩:=e
 have hkd:kd=12∨kd=13∨kd=14:=by
  by_cases h15:15≤kd
  ·obtain⟨k,rfl⟩:∃ k,kd=k+15:=⟨kd-15,by omega⟩
   exact hw.elim
  ·have:¬kd≤11:=h11
   omega
 rcases hkd with rfl|rfl|rfl
 ·obtain⟨e0,hkd,hlen⟩:=hw
  injection e0 with _ e1 e2 _ e3
  subst e1 e2 e3
  match kids,hkd,hlen,hl,hp,hz with
  |[a],hkd,_,hl,hp,hz=>
   have ek:kys (lE (n+1) ⟨12,0,[],[a],[]⟩)=(5,[110,111,116],0)::kys (lP (lE n) a):=rfl
   rw[ek]at hl hp hz ⊢
   rw[List.length_cons,Nat.add_comm]at hz ⊢
   rw[List.length_cons]at hl
   have ha:=hkd a (by simp)
   have hl2:=lP_len n a
   have hp1:p.ks=(5,[110,111,116],0)::(kys (lP (lE n) a)++k::rest):=hp
   have hp2:=adv_ks hp1
   have hf:=fat_sees (p:=p.adv) hp2 (fat_lP (fat_lE n a ha))
   have hz2:Stp (p.adv.inn.fwd (kys (lP (lE n) a)).length):=fun l hl=>by
    have:=hz l hl
    rw[←fwd_fwd]at this
    exact this
   refine pe_not2 (sees_key hp1 _) hq.1 (ks_pos hp1) hf.2.2 (fun hd=>?_) hf.1 hf.2.1 hz
   exact spn_end (h.lP ha (by omega)) (p:=p.adv.inn) ⟨by show p.deep+1≤30;omega,by have:=hq.2;show 31≤N'+(p.deep+1);omega⟩ (rest:=k::rest) hp2 hz2
 ·obtain⟨e0,hkd,hlen⟩:=hw
  injection e0 with _ e1 e2 _ e3
  subst e1 e2 e3
  match kids,hkd,hlen,hl,hp,hz with
  |[a],hkd,_,hl,hp,hz=>
   have ek:kys (lE (n+1) ⟨13,0,[],[a],[]⟩)=(4,[45],0)::kys (lP (lE n) a):=rfl
   rw[ek]at hl hp hz ⊢
   rw[List.length_cons,Nat.add_comm]at hz ⊢
   rw[List.length_cons]at hl
   have ha:=hkd a (by simp)
   have hl2:=lP_len n a
   have hp1:p.ks=(4,[45],0)::(kys (lP (lE n) a)++k::rest):=hp
   have hp2:=adv_ks hp1
   have hf:=fat_sees (p:=p.adv) hp2 (fat_lP (fat_lE n a ha))
   have hz2:Stp (p.adv.inn.fwd (kys (lP (lE n) a)).length):=fun l hl=>by
    have:=hz l hl
    rw[←fwd_fwd]at this
    exact this
   refine pe_min2 (sees_key hp1 _) (sees_key hp1 _) hq.1 (ks_pos hp1) hf.2.2 (fun hd=>?_) hf.1 hz
   exact spn_end (h.lP ha (by omega)) (p:=p.adv.inn) ⟨by show p.deep+1≤30;omega,by have:=hq.2;show 31≤N'+(p.deep+1);omega⟩ (rest:=k::rest) hp2 hz2
 ·obtain⟨e0,hkd,hlen,hop⟩:=hw
  injection e0 with _ e1 _ _ e3
  subst e1 e3
  match kids,hkd,hlen,hl,hp,hz with
  |[a,b],hkd,_,hl,hp,hz=>
   rw[kys_two]at hl hp hz ⊢
   rw[List.append_assoc]at hp
   rw[List.length_append,List.length_cons]at hl
   have ha:=hkd a (by simp)
   have hb:=hkd b (by simp)
   have la:=lP_len n a
   have lb:=lP_len n b
   have fa:=fat_sees hp (fat_lP (fat_lE n a ha))
   have k1:=ks_fwd hp
   have k2:(p.fwd (kys (lP (lE n) a)).length).adv.ks=kys (lP (lE n) b)++k::rest:=adv_ks k1
   have fb:=fat_sees k2 (fat_lP (fat_lE n b hb))
   have no:seesK (kO text).k [[40]]=false∧seesK (kO text).k [[91]]=false:=by
    have hop2:=hop
    simp only[opsB,List.mem_cons,List.not_mem_nil,or_false]at hop2
    rcases hop2 with rfl|rfl|rfl|rfl|rfl|rfl|rfl|rfl|rfl|rfl|rfl|rfl<;>exact⟨rfl,rfl⟩
   have pa:PE (pst (exF N') p) a (p.fwd (kys (lP (lE n) a)).length):=h.lP ha (by omega) p _ hq hp _ _ fun f hf=>by
    cases f with
    |zero=>exact absurd hf (by omega)
    |succ f=>exact pe_psL ((sees_key k1 _).trans no.1) ((sees_key k1 _).trans no.2)
   have hfw:p.fwd (kys (lP (lE n) a)++(kO text).k::kys (lP (lE n) b)).length=(p.fwd (kys (lP (lE n) a)).length).adv.fwd (kys (lP (lE n) b)).length:=by
    rw[adv_fwd,fwd_fwd,fwd_fwd]
    congr 1
    rw[List.length_append,List.length_cons]
    omega
   rw[hfw]at hz ⊢
   have pb:=spn_end (h.lP hb (by omega)) (p:=(p.fwd (kys (lP (lE n) a)).length).adv) hq k2 hz
   have k3:=ks_fwd k2
   refine pe_op hop k1 pa fa.1 fa.2.1 pb fb.1 fb.2.1 ?_ hz
   have l1:=congrArg List.length k1
   have l3:=congrArg List.length k3
   rw[ks_len]at l1 l3
   unfold less
   rw[l1,l3]
   refine decide_eq_true ?_
   simp only[List.length_cons,List.length_append]
   omega
end
theorem sma_all:∀ (n N:Nat),Sma N n
 |0,_=>⟨fun _ h=>h.elim,fun _ h=>h.elim⟩
 |n+1,0=>⟨fun e hw _=>⟨hw,fun p _ _ hq=>absurd hq.2 (by have:=hq.1;omega)⟩,spn_kind (sma_all n 0)⟩
 |n+1,N+1=>⟨pe_kind N (sma_all n N),spn_kind (sma_all n (N+1))⟩
theorem pe_lE {n:Nat}{e:Ex}(hw:WfE n e){N:Nat}{p:Ps}{k:Ky}{rest:List Ky}(hd:p.deep≤30)(hN:31≤N+p.deep)(hp:p.ks=kys (lE n e)++k::rest)(hk:seesK k allG=false)(ht:p.toks.length<1000000):PE (exF N p) e (p.fwd (kys (lE n e)).length):=by
 have hl:=congrArg List.length hp
 rw[ks_len,List.length_append,List.length_cons]at hl
 exact((sma_all n N).1 e hw (by omega)).2 p k rest ⟨hd,hN⟩ hp hk
abbrev LNk:Ky:=(6,[],0)
abbrev INk:Ky:=(7,[],0)
abbrev OUk:Ky:=(8,[],0)
def stK (n:Nat):Nat→Sm→List Ky
 |0,_=>[]
 |m+1,s=>bif decide (s.kind≤5)then kys (lSm n s)++[LNk]else
   kys (lHd n s)++LNk::INk::(s.body.flatMap (stK n m)++OUk::(bif s.els.isEmpty then[]else kys lEl++LNk::INk::(s.els.flatMap (stK n m)++[OUk])))
def WfX (n:Nat):Nat→Bool→Bool→Sm→Prop
 |0,_,_,_=>False
 |m+1,b,d,s=>match s.kind with
  |1=>s=⟨1,[],[],⟨0,0,[],[],[]⟩,[],[]⟩
  |2=>s=⟨2,[],[],s.ex,[],[]⟩∧WfE n s.ex∧d=true
  |3=>s=⟨3,s.text,[],s.ex,[],[]⟩∧NmS s.text∧isWd s.text=false∧WfE n s.ex
  |4=>s=⟨4,s.text,s.names,⟨0,0,[],[],[]⟩,[],[]⟩∧b=false∧s.names≠[]∧(∀ c∈s.text,okB c=true)∧∀ x∈s.names,isNmL x=true∧∀ c∈x,okB c=true
  |5=>s=⟨5,[],[],s.ex,[],[]⟩∧WfE n s.ex
  |6=>s=⟨6,s.text,s.names,⟨0,0,[],[],[]⟩,s.body,[]⟩∧b=false∧NmS s.text∧isWd s.text=false∧(∀ t∈s.names,NmS t∧isWd t=false)∧s.names.Nodup∧s.body≠[]∧∀ x∈s.body,WfX n m true true x
  |7=>s=⟨7,[],[],s.ex,s.body,s.els⟩∧WfE n s.ex∧s.body≠[]∧(∀ x∈s.body,WfX n m true d x)∧∀ x∈s.els,WfX n m true d x
  |8=>s=⟨8,s.text,[],s.ex,s.body,[]⟩∧NmS s.text∧isWd s.text=false∧WfE n s.ex∧s.body≠[]∧∀ x∈s.body,WfX n m true d x
  |_=>False
theorem wfx_s {n:Nat}:∀ (m:Nat) (b d:Bool) (s:Sm),WfX n m b d s→WfS n m s
 |0,_,_,_,h=>h.elim
 |m+1,b,d,⟨k,text,names,ex,body,els⟩,h=>by
  match k,h with
  |1,h=>cases h;exact⟨trivial,fun _=>⟨rfl,rfl⟩,fun h=>absurd (show 6≤1 from h) (by decide)⟩
  |2,h=>
   obtain⟨e,h1,_⟩:=h
   cases e
   exact⟨h1,fun _=>⟨rfl,rfl⟩,fun h=>absurd (show 6≤2 from h) (by decide)⟩
  |3,h=>
   obtain⟨e,h1⟩:=h
   cases e
   exact⟨h1,fun _=>⟨rfl,rfl⟩,fun h=>absurd (show 6≤3 from h) (by decide)⟩
  |4,h=>
   obtain⟨e,_,_,h1,h2⟩:=h
   cases e
   refine⟨fun t ht=>?_,fun _=>⟨rfl,rfl⟩,fun h=>absurd (show 6≤4 from h) (by decide)⟩
   rcases List.mem_cons.1 ht with rfl|ht
   ·exact h1
   ·exact(h2 t ht).2
  |5,h=>
   obtain⟨e,h1⟩:=h
   cases e
   exact⟨h1,fun _=>⟨rfl,rfl⟩,fun h=>absurd (show 6≤5 from h) (by decide)⟩
  |6,h=>
   obtain⟨e,_,h1,h2,h3,_,h4,h5⟩:=h
   cases e
   exact⟨⟨h1,h2,h3⟩,fun h=>absurd (show 6≤5 from h) (by decide),fun _=>⟨h4,fun x hx=>wfx_s m _ _ x (h5 x hx),fun _ h=>absurd h List.not_mem_nil,fun _=>rfl⟩⟩
  |7,h=>
   obtain⟨e,h1,h2,h3,h4⟩:=h
   cases e
   exact⟨h1,fun h=>absurd (show 7≤5 from h) (by decide),fun _=>⟨h2,fun x hx=>wfx_s m _ _ x (h3 x hx),fun x hx=>wfx_s m _ _ x (h4 x hx),fun h=>absurd rfl h⟩⟩
  |8,h=>
   obtain⟨e,h1,h2,h3,h4,h5⟩:=h
   cases e
   exact⟨⟨h1,h2,h3⟩,fun h=>absurd (show 8≤5 from h) (by decide),fun _=>⟨h4,fun x hx=>wfx_s m _ _ x (h5 x hx),fun _ h=>absurd h List.not_mem_nil,fun _=>rfl⟩⟩
def hdLe (d:Nat)(ls:List (Nat×List Lx)):Prop:=∀ x r,ls=x::r→x.1≤d
theorem hd_ls {n:Nat}:∀ (m d:Nat) (s:Sm),WfS n m s→∃ x r,lnS n m d s=(d,x)::r
 |0,_,_,h=>h.elim
 |m+1,d,s,h=>by
  by_cases hk:s.kind≤5
  ·exact⟨_,_,by unfold lnS;rw[decide_eq_true hk];rfl⟩
  ·exact⟨_,_,by unfold lnS;rw[decide_eq_false hk];rfl⟩
theorem move_out {d j e:Nat}(h:e≤d):moveK (d+j) e=List.replicate j OUk++moveK d e:=by
 unfold moveK
 rw[if_neg (by omega),if_neg (by omega),show d+j-e=j+(d-e)from by omega,List.replicate_append_replicate]
theorem lns_out {d j:Nat}{ls:List (Nat×List Lx)}(h:hdLe d ls):lnsK (d+j) ls=List.replicate j OUk++lnsK d ls:=by
 cases ls with
 |nil=>exact move_out (Nat.zero_le _)
 |cons x r=>
  show(moveK (d+j) x.1++_)++_=_++((moveK d x.1++_)++_)
  rw[move_out (h x r rfl)]
  simp only[List.append_assoc]
theorem move_same (d:Nat):moveK d d=[]:=by
 unfold moveK
 rw[if_neg (by omega),Nat.sub_self]
 rfl
theorem lns_in {d:Nat}{x:List Lx}{r:List (Nat×List Lx)}:lnsK d ((d+1,x)::r)=INk::lnsK (d+1) ((d+1,x)::r):=by
 show(moveK d (d+1)++_)++_=_::((moveK (d+1) (d+1)++_)++_)
 rw[move_same,show moveK d (d+1)=[INk]from by unfold moveK;rw[if_pos (by omega)]]
 rfl
theorem lns_line {d:Nat}{x:List Lx}{r:List (Nat×List Lx)}:lnsK d ((d,x)::r)=kys x++LNk::lnsK d r:=by
 show(moveK d d++(kys x++[LNk]))++_=_
 rw[move_same]
 simp
theorem flat_k {n m d:Nat}(ih:∀ s rest,WfS n m s→hdLe d rest→lnsK d (lnS n m d s++rest)=stK n m s++lnsK d rest):∀ (l:List Sm) (rest:List (Nat×List Lx)),(∀ s∈l,WfS n m s)→hdLe d rest→lnsK d (l.flatMap (lnS n m d)++rest)=l.flatMap (stK n m)++lnsK d rest
 |[],_,_,_=>rfl
 |s::l,rest,h,hr=>by
  rw[List.flatMap_cons,List.flatMap_cons,List.append_assoc,List.append_assoc,ih s _ (h s List.mem_cons_self) ?_,flat_k ih l rest (fun x hx=>h x (List.mem_cons_of_mem _ hx)) hr]
  cases l with
  |nil=>exact hr
  |cons s2 l=>
   obtain⟨x,r,e⟩:=hd_ls m d s2 (h s2 (by simp))
   intro y r' e'
   rw[List.flatMap_cons,e]at e'
   cases e'
   exact Nat.le_refl _
theorem blk_k {n m d:Nat}(ih:∀ d s rest,WfS n m s→hdLe d rest→lnsK d (lnS n m d s++rest)=stK n m s++lnsK d rest){l:List Sm}{rest:List (Nat×List Lx)}(hne:l≠[])(h:∀ s∈l,WfS n m s)(hr:hdLe d rest):lnsK d (l.flatMap (lnS n m (d+1))++rest)=INk::(l.flatMap (stK n m)++OUk::lnsK d rest):=by
 have e1:lnsK d (l.flatMap (lnS n m (d+1))++rest)=INk::lnsK (d+1) (l.flatMap (lnS n m (d+1))++rest):=by
  cases l with
  |nil=>exact absurd rfl hne
  |cons s2 l=>
   obtain⟨x,r,e⟩:=hd_ls m (d+1) s2 (h s2 (by simp))
   rw[List.flatMap_cons,e]
   exact lns_in
 rw[e1,flat_k (fun s rest=>ih (d+1) s rest) l rest h (fun x r e=>Nat.le_succ_of_le (hr x r e)),lns_out (j:=1) hr]
 rfl
theorem st_keys {n:Nat}:∀ (m d:Nat) (s:Sm) (rest:List (Nat×List Lx)),WfS n m s→hdLe d rest→lnsK d (lnS n m d s++rest)=stK n m s++lnsK d rest
 |0,_,_,_,h,_=>h.elim
 |m+1,d,s,rest,h,hr=>by
  by_cases hk:s.kind≤5
  ·unfold lnS stK
   rw[decide_eq_true hk]
   show lnsK d ((d,lSm n s)::rest)=(kys (lSm n s)++[LNk])++_
   rw[lns_line]
   simp
  ·obtain⟨hb,hbw,hew,_⟩:=h.2.2 (by omega)
   have ih:=fun d s rest=>st_keys (n:=n) m d s rest
   have hE:hdLe d ((bif s.els.isEmpty then[]else(d,lEl)::s.els.flatMap (lnS n m (d+1)))++rest):=by
    cases he:s.els.isEmpty
    ·intro x r e
     cases e
     exact Nat.le_refl _
    ·exact hr
   unfold lnS stK
   rw[decide_eq_false hk]
   show lnsK d ((((d,lHd n s)::s.body.flatMap (lnS n m (d+1)))++(bif s.els.isEmpty then[]else(d,lEl)::s.els.flatMap (lnS n m (d+1))))++rest)=(kys (lHd n s)++LNk::INk::_)++_
   rw[List.append_assoc,List.cons_append,lns_line,blk_k ih hb hbw hE]
   cases he:s.els.isEmpty
   ·have hne:s.els≠[]:=fun e=>by rw[e]at he;cases he
    show _++LNk::INk::(_++OUk::lnsK d ((d,lEl)::(s.els.flatMap (lnS n m (d+1))++rest)))=_
    rw[lns_line,blk_k ih hne hew hr]
    simp
   ·simp
theorem all_keys {n m:Nat}{l:List Sm}(h:∀ s∈l,WfS n m s):lnsK 0 (l.flatMap (lnS n m 0))=l.flatMap (stK n m):=by
 have:=flat_k (d:=0) (fun s rest=>st_keys (n:=n) m 0 s rest) l [] h (fun x r e=>by cases e)
 rw[List.append_nil,show lnsK 0 []=[]from rfl,List.append_nil]at this
 exact this
def PN {α:Type}(m:Px α)(a:α)(q:Ps):Prop:=m=none∨PE m a q
theorem PE.pn {α:Type}{m:Px α}{a:α}{q:Ps}(h:PE m a q):PN m a q:= .inr h
theorem pn_bnd {α β:Type}{m:Px α}{f:α→Ps→Px β}{a:α}{q r:Ps}{b:β}(h:PN m a q)(hf:PN (f a q) b r):PN (bnd m f) b r:=by
 rcases h with h|h
 ·rw[h]
  exact .inl rfl
 rcases h with h|⟨z,h⟩
 ·rw[h]
  exact hf
 ·rw[h]
  exact .inr (.inr ⟨z,rfl⟩)
theorem pn_iff {α:Type}{b:Bool}{m:Px α}{a:α}{q:Ps}(h:PN m a q):PN (iff b m) a q:=by
 cases b
 ·exact .inl rfl
 ·exact h
theorem pn_ok {α:Type}(a:α)(q:Ps):PN (ok a q) a q:= .inr (.inl rfl)
theorem pn_tkS {p:Ps}{k:Ky}{r:List Ky}(h:p.ks=k::r){x:List UInt8}(hx:seesK k [x]=true):PN (tkS x p) () p.adv:=(pe_tkS h hx).pn
theorem pn_tkK {p:Ps}{k:Nat}{t:List UInt8}{z:Nat}{r:List Ky}(h:p.ks=(k,t,z)::r):∃ tk:Tk,tk.text=t∧PN (tkK k p) tk p.adv:=by
 obtain⟨a,b,_⟩:=nx_key h
 refine⟨p.nx,b,.inr (.inl ?_)⟩
 unfold tkK
 rw[a,beq_self_eq_true]
 rfl
end Go.Proofs.YtcaeeackccgclaaGreatDoor
