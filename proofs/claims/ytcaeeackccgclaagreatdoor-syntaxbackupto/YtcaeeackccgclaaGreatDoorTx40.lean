/- 40. -/
import Derived.Test.YtcaeeackccgclaaGreatDoorTx39
set_option maxHeartbeats 40000000
set_option maxRecDepth 100000
namespace Go.Proofs.YtcaeeackccgclaaGreatDoor
open Go.RowKit Go.Shelf
theorem seesK_sub {k:Ky}{l m:List (List UInt8)}(h:seesK k l=false)(hm:∀ x∈m,x∈l):seesK k m=false:=by
 unfold seesK at h ⊢
 rcases Bool.and_eq_false_iff.1 h with h|h
 ·rw[h];rfl
 ·rw[Bool.and_eq_false_iff]
  right
  cases hc:m.contains k.2.1
  ·rfl
  ·rw[List.contains_iff_mem.2 (hm _ (List.contains_iff_mem.1 hc))]at h
   cases h
theorem steps_app {σ:Type}{c:List UInt8}{each:σ→Ps→Px σ}{Q:Ps→Prop}:∀ {xs ys:List (List Ky)} {s t u:σ},Steps c each Q xs s t→Steps c each Q ys t u→Steps c each Q (xs++ys) s u
 |[],_,_,_,_,h,g=>by cases h;exact g
 |_::_,_,_,_,_,⟨v,a,b,h⟩,g=>⟨v,a,b,steps_app h g⟩
theorem end_all {c:List UInt8}(hc:c=[41]∨c=[93]∨c=[125]){rest:List Ky}(h:EndI c rest):∃ k r,rest=k::r∧seesK k allG=false∧seesK k [[61]]=false∧seesK k [[102,111,114]]=false:=by
 obtain⟨k,r,e,h⟩:=h
 refine⟨k,r,e,?_⟩
 rcases h with rfl|rfl
 ·exact⟨rfl,rfl,rfl⟩
 ·rcases hc with rfl|rfl|rfl<;>exact⟨rfl,rfl,rfl⟩
def PK (E:Ps→Px Ex)(Q:Ps→Prop)(n:Nat)(e:Ex):Prop:=WfE n e∧∀ (p:Ps) (k:Ky) (rest:List Ky),Q p→p.ks=kys (lE n e)++k::rest→seesK k allG=false→PE (E p) e (p.fwd (kys (lE n e)).length)
theorem PK.fst {E:Ps→Px Ex}{Q:Ps→Prop}{n:Nat}{e:Ex}(h:PK E Q n e){c:List UInt8}(hc:c=[41]∨c=[93]∨c=[125]):∃ k r,kys (lE n e)=k::r∧seesK k [c]=false:=by
 obtain⟨k,r,e1,h1,_⟩:=fst_lE n e h.1
 refine⟨k,r,e1,seesK_sub h1 fun x hx=>?_⟩
 rw[List.mem_singleton.1 hx]
 rcases hc with rfl|rfl|rfl<;>simp
theorem pe_kd {E:Ps→Px Ex}{s e:Ex}{p q:Ps}(h:PE (E p) e q):PE (kdE E s p) (s.kid e) q:=pe_bnd h (pe_ok _ _)
section
variable {E:Ps→Px Ex} {Q:Ps→Prop} {n:Nat}
theorem steps_pos:∀ (l K:List Ex),(∀ e∈l,PK E Q n e)→K.length+l.length<1000000→Steps [41] (caE E) Q (l.map fun e=>kys (lE n e)) ⟨10,0,[],K,[]⟩ ⟨10,0,[],K++l,[]⟩
 |[],K,_,_=>by show _=_;rw[List.append_nil]
 |e::l,K,h,hl=>by
  have he:=h e List.mem_cons_self
  have hl':K.length+(l.length+1)<1000000:=hl
  refine⟨⟨10,0,[],K++[e],[]⟩,he.fst (.inl rfl),fun q rest hq hk hE=>?_,?_⟩
  ·obtain⟨k,r,rfl,g1,g2,_⟩:=end_all (.inl rfl) hE
   unfold caE
   refine pe_iff (by rw[Bool.and_eq_true,decide_eq_true_eq,decide_eq_true_eq];exact⟨by show K.length<_;omega,by show 0<_;decide⟩) ?_
   rw[sec_set hk (sec_lE n e he.1) (fst_ne (fst_lE n e he.1)) g2]
   show PE (kdE E _ q) _ _
   exact pe_kd (he.2 q k r hq hk g1)
  ·have:=steps_pos l (K++[e]) (fun x hx=>h x (List.mem_cons_of_mem _ hx)) (by rw[List.length_append];show K.length+1+_<_;omega)
   rw[List.append_assoc]at this
   exact this
theorem set_two {p:Ps}{m:List UInt8}{r:List Ky}(h:p.ks=(1,m,0)::(4,[61],0)::r):sSet p=true:=by
 obtain⟨toks,fin,blk,inD,deep⟩:=p
 have hk':toks.map tkey=(1,m,0)::(4,[61],0)::r:=h
 match toks,hk' with
 |[],hk'=>cases hk'
 |[t],hk'=>exact absurd (congrArg List.length hk') (by simp)
 |t::u::ts,hk'=>
  have e1:tkey t=(1,m,0):=(List.cons.inj hk').1
  have e2:tkey u=(4,[61],0):=(List.cons.inj (List.cons.inj hk').2).1
  have a:t.kind=1:=congrArg (·.1) e1
  have b:u.kind=4:=congrArg (·.1) e2
  have c:u.text=[61]:=congrArg (·.2.1) e2
  show(t.kind==1&&isS u [[61]])=true
  unfold isS
  rw[a,b,c]
  rfl
theorem pe_tkN {p:Ps}{m:List UInt8}{l:List (List UInt8)}{r:List Ky}(h:p.ks=(1,m,0)::r)(hm:m∉l):PE (tkN l p) m (p.fwd 1):=by
 obtain⟨a,b,_⟩:=nx_key h
 obtain⟨k,hk,hp⟩:=pe_name h
 unfold tkN
 rw[a,b,show l.contains m=false from by cases hc:l.contains m with|false=>rfl|true=>exact absurd (List.contains_iff_mem.1 hc) hm]
 refine pe_bnd hp ?_
 rw[hk]
 exact pe_ok _ _
theorem key_nm {m:List UInt8}(h:isWd m=false):(kW m).k=(1,m,0):=by
 show((bif isWd m then 5 else 1,m,0):Ky)=_
 rw[h]
 rfl
theorem steps_nam:∀ (l:List Ex) (ms:List (List UInt8)) (K:List Ex) (M:List (List UInt8)),ms.length=l.length→(∀ e∈l,PK E Q n e)→(∀ q k,Q q→Q (q.fwd k))→(∀ t∈ms,isWd t=false)→(M++ms).Nodup→K.length+l.length<1000000→M.length+ms.length<1000000→
  Steps [41] (caE E) Q ((ms.zipWith (fun m e=>(some m,e)) l).map fun a=>kys (lH (lE n) a)) ⟨10,0,[],K,M⟩ ⟨10,0,[],K++l,M++ms⟩
 |[],[],K,M,_,_,_,_,_,_,_=>by show _=_;rw[List.append_nil,List.append_nil]
 |[],_::_,_,_,h,_,_,_,_,_,_=>by cases h
 |_::_,[],_,_,h,_,_,_,_,_,_=>by cases h
 |e::l,m::ms,K,M,hL,h,hQ,hw,hd,hl,hm=>by
  have he:=h e List.mem_cons_self
  have hl':K.length+(l.length+1)<1000000:=hl
  have hm':M.length+(ms.length+1)<1000000:=hm
  have hx:kys (lH (lE n) (some m,e))=(1,m,0)::(4,[61],0)::kys (lE n e):=by
   show(kW m).k::(4,[61],0)::kys (lE n e)=_
   rw[key_nm (hw m List.mem_cons_self)]
  have hmn:m∉M:=by
   rw[List.nodup_append]at hd
   intro hc
   exact hd.2.2 m hc m List.mem_cons_self rfl
  refine⟨⟨10,0,[],K++[e],M++[m]⟩,⟨_,_,hx,rfl⟩,fun q rest hq hk hE=>?_,?_⟩
  ·obtain⟨k,r,rfl,g1,_⟩:=end_all (.inl rfl) hE
   have hk':q.ks=kys (lH (lE n) (some m,e))++k::r:=hk
   rw[hx]at hk'
   have hk1:(q.fwd 1).ks=(4,[61],0)::(kys (lE n e)++k::r):=ks_fwd (a:=[(1,m,0)]) hk'
   have hk2:((q.fwd 1).fwd 1).ks=kys (lE n e)++k::r:=ks_fwd (a:=[(4,[61],0)]) hk1
   have hf:q.fwd (kys (lH (lE n) (some m,e))).length=((q.fwd 1).fwd 1).fwd (kys (lE n e)).length:=by
    rw[hx,fwd_fwd,fwd_fwd]
    congr 1
    show(kys (lE n e)).length+1+1=_
    omega
   show PE (caE E _ q) _ (q.fwd (kys (lH (lE n) (some m,e))).length)
   rw[hf]
   unfold caE
   refine pe_iff (by rw[Bool.and_eq_true,decide_eq_true_eq,decide_eq_true_eq];exact⟨by show K.length<_;omega,by show M.length<_;omega⟩) ?_
   rw[set_two hk']
   refine pe_bnd (pe_tkN hk' hmn) (pe_bnd (pe_tkS hk1 (by decide)) ?_)
   exact pe_kd (he.2 _ k r (hQ _ _ (hQ _ _ hq)) hk2 g1)
  ·have:=steps_nam l ms (K++[e]) (M++[m]) (by have:ms.length+1=l.length+1:=hL;omega) (fun x hx=>h x (List.mem_cons_of_mem _ hx)) hQ (fun t ht=>hw t (List.mem_cons_of_mem _ ht)) (by rw[List.append_assoc];exact hd) (by rw[List.length_append];show K.length+1+_<_;omega) (by rw[List.length_append];show M.length+1+_<_;omega)
   rw[List.append_assoc,List.append_assoc]at this
   exact this
theorem steps_call {c:Ex}{l:List Ex}{names:List (List UInt8)}(h:∀ e∈l,PK E Q n e)(hQ:∀ q k,Q q→Q (q.fwd k))(hw:∀ t∈names,isWd t=false)(hd:names.Nodup)(hn:names.length≤l.length)(hl:l.length+1<1000000):
  Steps [41] (caE E) Q ((argsL names l).map fun a=>kys (lH (lE n) a)) ⟨10,0,[],[c],[]⟩ ⟨10,0,[],c::l,names⟩:=by
 unfold argsL
 rw[List.map_append,List.map_map]
 have a:=steps_pos (E:=E) (Q:=Q) (n:=n) (l.take (l.length-names.length)) [c] (fun e he=>h e (List.mem_of_mem_take he)) (by rw[List.length_take];show 1+_<_;omega)
 have b:=steps_nam (E:=E) (Q:=Q) (n:=n) (l.drop (l.length-names.length)) names (c::l.take (l.length-names.length)) [] (by rw[List.length_drop];omega) (fun e he=>h e (List.mem_of_mem_drop he)) hQ hw hd (by rw[List.length_cons,List.length_take,List.length_drop];omega) (by show 0+_<_;omega)
 have:=steps_app a b
 rw[List.cons_append,List.take_append_drop]at this
 exact this
theorem steps_li:∀ (l K:List Ex),(∀ e∈l,PK E Q n e)→K.length+l.length<1000000→Steps [93] (liE E) Q (l.map fun e=>kys (lE n e)) ⟨7,0,[],K,[]⟩ ⟨7,0,[],K++l,[]⟩
 |[],K,_,_=>by show _=_;rw[List.append_nil]
 |e::l,K,h,hl=>by
  have he:=h e List.mem_cons_self
  have hl':K.length+(l.length+1)<1000000:=hl
  refine⟨⟨7,0,[],K++[e],[]⟩,he.fst (.inr (.inl rfl)),fun q rest hq hk hE=>?_,?_⟩
  ·obtain⟨k,r,rfl,g1,_,g3⟩:=end_all (.inr (.inl rfl)) hE
   have hs:(q.fwd (kys (lE n e)).length).sees [[102,111,114]]=false:=(sees_key (ks_fwd hk) _).trans g3
   unfold liE
   refine pe_iff (decide_eq_true (by show K.length<_;omega)) (pe_bnd (pe_kd (he.2 q k r hq hk g1)) ?_)
   rw[hs,Bool.and_false]
   exact pe_ok _ _
  ·have:=steps_li l (K++[e]) (fun x hx=>h x (List.mem_cons_of_mem _ hx)) (by rw[List.length_append];show K.length+1+_<_;omega)
   rw[List.append_assoc]at this
   exact this
def prK (n:Nat)(x:Ex×Ex):List Ky:=kys (lE n x.1)++(4,[58],0)::kys (lE n x.2)
theorem steps_di (hQ:∀ q k,Q q→Q (q.fwd k)):∀ (l:List (Ex×Ex)) (K:List Ex),(∀ x∈l,PK E Q n x.1∧PK E Q n x.2)→K.length+2*l.length<1000000→Steps [125] (diE E) Q (l.map (prK n)) ⟨8,0,[],K,[]⟩ ⟨8,0,[],K++l.flatMap (fun x=>[x.1,x.2]),[]⟩
 |[],K,_,_=>by show _=_;rw[List.flatMap_nil,List.append_nil]
 |x::l,K,h,hl=>by
  obtain⟨ha,hb⟩:=h x List.mem_cons_self
  have hl':K.length+2*(l.length+1)<1000000:=hl
  refine⟨⟨8,0,[],K++[x.1,x.2],[]⟩,?_,fun q rest hq hk hE=>?_,?_⟩
  ·obtain⟨k,r,e,g⟩:=ha.fst (c:=[125]) (.inr (.inr rfl))
   exact⟨k,r++(4,[58],0)::kys (lE n x.2),by unfold prK;rw[e];rfl,g⟩
  ·obtain⟨k,r,rfl,g1,_⟩:=end_all (.inr (.inr rfl)) hE
   have hk0:q.ks=kys (lE n x.1)++(4,[58],0)::(kys (lE n x.2)++k::r):=by rw[hk];unfold prK;simp
   have hk1:=ks_fwd hk0
   have hk2:((q.fwd (kys (lE n x.1)).length).fwd 1).ks=kys (lE n x.2)++k::r:=ks_fwd (a:=[(4,[58],0)]) hk1
   have hf:q.fwd (prK n x).length=((q.fwd (kys (lE n x.1)).length).fwd 1).fwd (kys (lE n x.2)).length:=by
    rw[fwd_fwd,fwd_fwd]
    congr 1
    unfold prK
    rw[List.length_append,List.length_cons]
    omega
   rw[hf]
   unfold diE
   refine pe_iff (decide_eq_true (by show K.length<_;omega)) (pe_bnd (pe_kd (ha.2 q _ _ hq hk0 (by decide))) (pe_bnd (pe_tkS hk1 (by decide)) ?_))
   have:=pe_kd (s:=(⟨8,0,[],K++[x.1],[]⟩:Ex)) (hb.2 _ k r (hQ _ _ (hQ _ _ hq)) hk2 g1)
   unfold Ex.kid at this
   simp only[List.append_assoc]at this
   exact this
  ·have:=steps_di hQ l (K++[x.1,x.2]) (fun y hy=>h y (List.mem_cons_of_mem _ hy)) (by rw[List.length_append];show K.length+2+_<_;omega)
   rw[List.append_assoc]at this
   exact this
theorem pe_lst1 {σ:Type}{c:List UInt8}{each:σ→Ps→Px σ}{s t:σ}{p q:Ps}(h0:p.sees [c]=false)(he:PE (each s p) t q)(hl:less q p=true)(hc:q.sees [c]=true)(hp:0<p.toks.length):PE (lst c each s p) t q.adv:=by
 obtain⟨f,hf⟩:∃ f,p.toks.length=f+1:=⟨p.toks.length-1,by omega⟩
 unfold lst
 rw[hf]
 unfold lsL
 rw[h0]
 show PE (bnd (ok () p) fun _ q=>bnd (each s q) fun s q=>iff (less q p) (lsL c each (f+1) false s q)) t q.adv
 refine pe_bnd (pe_ok _ _) (pe_bnd he (pe_iff hl ?_))
 unfold lsL
 rw[hc]
 exact pe_ok _ _
end
def atK (k:Ky):Bool:=k.1==1||k.1==2||k.1==3||seesK k [[84,114,117,101],[70,97,108,115,101],[78,111,110,101],[40],[91],[123]]
theorem at_no {k:Ky}(h:atK k=true):seesK k [[110,111,116]]=false∧seesK k [[45]]=false:=by
 obtain⟨a,t,z⟩:=k
 unfold atK at h
 simp only[Bool.or_eq_true,beq_iff_eq]at h
 rcases h with((h|h)|h)|h
 ·cases h;exact⟨rfl,rfl⟩
 ·cases h;exact⟨rfl,rfl⟩
 ·cases h;exact⟨rfl,rfl⟩
 ·have h2:=(Bool.and_eq_true_iff.1 h).2
  have h2:=List.contains_iff_mem.1 h2
  simp only[List.mem_cons,List.not_mem_nil,or_false]at h2
  have hb:∀ x:List UInt8,(t=x)→([[110,111,116]]:List (List UInt8)).contains x=false→([[45]]:List (List UInt8)).contains x=false→seesK (a,t,z) [[110,111,116]]=false∧seesK (a,t,z) [[45]]=false:=by
   intro x e g1 g2
   unfold seesK
   subst e
   exact⟨by show(_&&([[110,111,116]]:List (List UInt8)).contains t)=false;rw[g1,Bool.and_false],by show(_&&([[45]]:List (List UInt8)).contains t)=false;rw[g2,Bool.and_false]⟩
  rcases h2 with h2|h2|h2|h2|h2|h2
  ·exact hb [84,114,117,101] h2 rfl rfl
  ·exact hb [70,97,108,115,101] h2 rfl rfl
  ·exact hb [78,111,110,101] h2 rfl rfl
  ·exact hb [40] h2 rfl rfl
  ·exact hb [91] h2 rfl rfl
  ·exact hb [123] h2 rfl rfl
def Fat (ks:List Ky):Prop:=∃ k r,ks=k::r∧atK k=true
theorem fat_app {a b:List Ky}(h:Fat a):Fat (a++b):=by
 obtain⟨k,r,e,g⟩:=h
 exact⟨k,r++b,by rw[e];rfl,g⟩
theorem fat_lP {n:Nat}{e:Ex}(h:e.kind≤11→Fat (kys (lE n e))):Fat (kys (lP (lE n) e)):=by
 unfold lP
 by_cases hk:12≤e.kind
 ·rw[decide_eq_true hk]
  exact⟨_,_,rfl,rfl⟩
 ·rw[decide_eq_false hk]
  exact h (by omega)
theorem fat_lE:∀ (n:Nat) (e:Ex),WfE n e→e.kind≤11→Fat (kys (lE n e))
 |0,_,h,_=>h.elim
 |n+1,⟨k,num,text,kids,names⟩,h,h11=>by
  match k,h,h11 with
  |1,_,_=>exact⟨_,_,rfl,rfl⟩
  |2,_,_=>exact⟨_,_,rfl,rfl⟩
  |3,_,_=>exact⟨_,_,rfl,rfl⟩
  |4,_,_=>exact⟨_,_,rfl,rfl⟩
  |5,_,_=>exact⟨_,_,rfl,rfl⟩
  |6,h,_=>
   have hw:isWd text=false:=h.2.2
   refine⟨(1,text,0),[],?_,rfl⟩
   show[(kW text).k]=_
   rw[key_nm hw]
  |7,_,_=>exact⟨_,_,rfl,rfl⟩
  |8,_,_=>exact⟨_,_,rfl,rfl⟩
  |9,h,_=>
   obtain⟨_,hk,hl,_⟩:=h
   match kids,hk,hl with
   |[a,b],_,_=>exact⟨_,_,rfl,rfl⟩
   |[a,b,c],_,_=>exact⟨_,_,rfl,rfl⟩
   |[],_,hl=>exact absurd hl (by show ¬(0=2∨0=3);decide)
   |[_],_,hl=>exact absurd hl (by show ¬(1=2∨1=3);decide)
   |_::_::_::_::l,_,hl=>exact absurd hl (by show ¬(l.length+4=2∨l.length+4=3);omega)
  |10,h,_=>
   obtain⟨_,hk,hl,_⟩:=h
   match kids,hk,hl with
   |c::l,hk,_=>
    show Fat (kys (lP (lE n) c++_))
    rw[kys_app]
    exact fat_app (fat_lP (fat_lE n c (hk c List.mem_cons_self)))
   |[],_,hl=>exact absurd hl (by show ¬(names.length+1≤0);omega)
  |11,h,_=>
   obtain⟨_,hk,hl⟩:=h
   match kids,hk,hl with
   |[a,b],hk,_=>
    show Fat (kys (lP (lE n) a++_))
    rw[kys_app]
    exact fat_app (fat_lP (fat_lE n a (hk a List.mem_cons_self)))
  |k+12,_,h11=>exact absurd (show k+12≤11 from h11) (by omega)
theorem fat_sees {p:Ps}{ks rest:List Ky}(hk:p.ks=ks++rest)(h:Fat ks):p.sees [[45]]=false∧p.sees [[110,111,116]]=false∧sAtom p=true:=by
 obtain⟨k,r,e,g⟩:=h
 have hp:p.ks=k::(r++rest):=by rw[hk,e];rfl
 refine⟨(sees_key hp _).trans (at_no g).2,(sees_key hp _).trans (at_no g).1,?_⟩
 unfold sAtom
 rw[(nx_key hp).1,sees_key hp]
 exact g
theorem rfD_30 {l:List (List UInt8)}{p:Ps}(h:sAtom p=true)(hd:p.deep=30):rfD l p=gu p 2:=by
 unfold rfD guIf
 rw[h,hd]
 rfl
section
variable {E:Ps→Px Ex} {a:Ex} {p:Ps} {k:Nat}
theorem pe_not2 (hs:p.sees [[110,111,116]]=true)(hd:p.deep≤30)(ht:0<p.toks.length)(hA:sAtom p.adv=true)(ha:p.deep<30→PE (pst E p.adv.inn) a (p.adv.inn.fwd k))(n:p.adv.sees [[45]]=false)(m:p.adv.sees [[110,111,116]]=false)(z:Stp (p.fwd (1+k))):
  PE (orE E p) ⟨12,0,[],[a],[]⟩ (p.fwd (1+k)):=by
 by_cases h30:p.deep=30
 ·refine .inr ⟨p.adv.nx.pos,?_⟩
  unfold orE jn neg ngL
  rw[hs,rfD_30 hA h30]
  rfl
 ·exact pe_not hs (by omega) ht (ha (by omega)) n m z
theorem pe_min2 (hs:p.sees [[45]]=true)(hno:p.sees [[110,111,116]]=false)(hd:p.deep≤30)(ht:0<p.toks.length)(hA:sAtom p.adv=true)(ha:p.deep<30→PE (pst E p.adv.inn) a (p.adv.inn.fwd k))(n:p.adv.sees [[45]]=false)(z:Stp (p.fwd (1+k))):
  PE (orE E p) ⟨13,0,[],[a],[]⟩ (p.fwd (1+k)):=by
 by_cases h30:p.deep=30
 ·refine .inr ⟨p.adv.nx.pos,?_⟩
  have h0:una E p=some (.error (2,p.adv.nx.pos)):=by
   unfold una unL
   rw[hs,rfD_30 hA h30]
   rfl
  have h1:sum E p=some (.error (2,p.adv.nx.pos)):=by
   show bnd (bnd (una E p) _) _=_
   rw[h0]
   rfl
  have h2:neg E p=some (.error (2,p.adv.nx.pos)):=by
   unfold neg ngL
   rw[hno]
   show bnd (sum E p) _=_
   rw[h1]
   rfl
  show bnd (bnd (neg E p) _) _=_
  rw[h2]
  rfl
 ·exact pe_min hs hno (by omega) ht (ha (by omega)) n z
end
theorem stp_key {p:Ps}{k:Ky}{r:List Ky}(h:p.ks=k::r)(hk:seesK k allG=false):Stp p:=stp_of ((sees_key h _).trans hk)
def Qd (N:Nat)(p:Ps):Prop:=p.deep≤30∧31≤N+p.deep
theorem qd_fwd {N:Nat}(p:Ps)(k:Nat)(h:Qd N p):Qd N (p.fwd k):=h
theorem ks_pos {p:Ps}{k:Ky}{r:List Ky}(h:p.ks=k::r):0<p.toks.length:=by
 rw[←ks_len,h]
 exact Nat.succ_pos _
theorem adv_ks {p:Ps}{k:Ky}{r:List Ky}(h:p.ks=k::r):p.adv.ks=r:=ks_fwd (a:=[k]) h
section
variable {E:Ps→Px Ex} {Q:Ps→Prop} {n:Nat}
theorem spn_lP (hQ:∀ p k,Q p→Q (p.fwd k)){a:Ex}(hA:PK E Q n a)(hB:a.kind≤11→Spn E Q a (kys (lE n a))):Spn E Q a (kys (lP (lE n) a)):=by
 unfold lP
 by_cases hk:12≤a.kind
 ·rw[decide_eq_true hk]
  refine spn_atm fun p rest hq hp=>?_
  have hp1:p.ks=(4,[40],0)::(kys (lE n a)++(4,[41],0)::rest):=by
   rw[hp]
   show(4,[40],0)::(kys (lE n a++[kS [41]])++rest)=_
   rw[kys_app,List.append_assoc]
   rfl
  have hp2:=adv_ks hp1
  have he:=hA.2 p.adv _ _ (hQ p 1 hq) hp2 (by decide)
  have hp3:(p.fwd (1+(kys (lE n a)).length)).ks=(4,[41],0)::rest:=by
   rw[←fwd_fwd]
   exact ks_fwd hp2
  have:=pe_par hp1 he hp3
  have e:(kys (bif true then kS [40]::(lE n a++[kS [41]])else lE n a)).length=1+(kys (lE n a)).length+1:=by
   show(kys (lE n a++[kS [41]])).length+1=_
   rw[kys_app,List.length_append]
   show(kys (lE n a)).length+1+1=_
   omega
  rw[e]
  exact this
 ·rw[decide_eq_false hk]
  exact hB (by omega)
theorem atm_sg {p:Ps}{t:List UInt8}{r:List Ky}(h:p.ks=(4,t,0)::r):atm E p=sgA E p:=by
 unfold atm
 rw[(nx_key h).1]
 rfl
theorem spn_list {e:Ex}{xs:List (List Ky)}(hQ:∀ p k,Q p→Q (p.fwd k))(hs:Steps [93] (liE E) Q xs ⟨7,0,[],[],[]⟩ e):Spn E Q e ((4,[91],0)::(jk true xs++[(4,[93],0)])):=by
 refine spn_atm fun p rest hq hp=>?_
 have hp1:p.ks=(4,[91],0)::(jk true xs++(4,[93],0)::rest):=by rw[hp];simp
 have:=pe_lst hQ (by decide) (hQ p 1 hq) hs (adv_ks hp1)
 have S:=fun l=>sees_key hp1 l
 rw[atm_sg hp1]
 unfold sgA
 rw[show p.sees [[84,114,117,101]]=false from S _,show p.sees [[70,97,108,115,101]]=false from S _,show p.sees [[78,111,110,101]]=false from S _,show p.sees [[91]]=true from S _]
 have e:((4,[91],0)::(jk true xs++[(4,[93],0)]):List Ky).length=1+((jk true xs).length+1):=by
  rw[List.length_cons,List.length_append]
  show(jk true xs).length+1+1=_
  omega
 rw[e,←fwd_fwd]
 exact this
theorem spn_dict {e:Ex}{xs:List (List Ky)}(hQ:∀ p k,Q p→Q (p.fwd k))(hs:Steps [125] (diE E) Q xs ⟨8,0,[],[],[]⟩ e):Spn E Q e ((4,[123],0)::(jk true xs++[(4,[125],0)])):=by
 refine spn_atm fun p rest hq hp=>?_
 have hp1:p.ks=(4,[123],0)::(jk true xs++(4,[125],0)::rest):=by rw[hp];simp
 have:=pe_lst hQ (by decide) (hQ p 1 hq) hs (adv_ks hp1)
 have S:=fun l=>sees_key hp1 l
 rw[atm_sg hp1]
 unfold sgA
 rw[show p.sees [[84,114,117,101]]=false from S _,show p.sees [[70,97,108,115,101]]=false from S _,show p.sees [[78,111,110,101]]=false from S _,show p.sees [[91]]=false from S _,show p.sees [[123]]=true from S _]
 have e:((4,[123],0)::(jk true xs++[(4,[125],0)]):List Ky).length=1+((jk true xs).length+1):=by
  rw[List.length_cons,List.length_append]
  show(jk true xs).length+1+1=_
  omega
 rw[e,←fwd_fwd]
 exact this
theorem pe_eaR {s:Ex}{p:Ps}{r:List Ky}(h:p.ks=(4,[93],0)::r):PE (eaR s p) s p:=by
 unfold eaR
 rw[show p.sees [[93]]=true from sees_key h _]
 exact pe_ok _ _
def eTl (n:Nat):Option Ex→List Ky
 |none=>[]
 |some x=>(5,[105,102],0)::kys (lE n x)
theorem pe_tkA {p:Ps}{k:Ky}{r:List Ky}(h:p.ks=k::r){x:List UInt8}(hx:seesK k [x]=true):PE (tkS x p) () p.adv:=pe_tkS h hx
theorem spn_each (hQ:∀ p k,Q p→Q (p.fwd k)){a b:Ex}{t:List UInt8}{c:Option Ex}(ha:PK E Q n a)(hb:PK E Q n b)(hc:∀ x,c=some x→PK E Q n x):
  Spn E Q ⟨9,0,t,a::b::c.toList,[]⟩ ((4,[91],0)::(kys (lE n a)++(5,[102,111,114],0)::(1,t,0)::(5,[105,110],0)::(kys (lE n b)++(eTl n c++[(4,[93],0)])))):=by
 refine spn_atm fun p rest hq hp=>?_
 obtain⟨tl,htl⟩:∃ tl:List Ky,tl=eTl n c:=⟨_,rfl⟩
 rw[←htl]at hp ⊢
 have hp1:p.ks=(4,[91],0)::(kys (lE n a)++(5,[102,111,114],0)::(1,t,0)::(5,[105,110],0)::(kys (lE n b)++(tl++(4,[93],0)::rest))):=by rw[hp];simp
 have S:=fun l=>sees_key hp1 l
 rw[atm_sg hp1]
 unfold sgA
 rw[show p.sees [[84,114,117,101]]=false from S _,show p.sees [[70,97,108,115,101]]=false from S _,show p.sees [[78,111,110,101]]=false from S _,show p.sees [[91]]=true from S _]
 have k1:=adv_ks hp1
 have k2:=ks_fwd k1
 have k3:=adv_ks k2
 have k4:=adv_ks k3
 have k5:=adv_ks k4
 have k6:=ks_fwd k5
 have q1:Q p.adv:=hQ p 1 hq
 have q2:Q (p.adv.fwd (kys (lE n a)).length).adv:=hQ _ 1 (hQ _ _ q1)
 have q5:Q (p.adv.fwd (kys (lE n a)).length).adv.adv.adv:=hQ _ 1 (hQ _ 1 q2)
 have hg:∃ k r,tl++(4,[93],0)::rest=k::r∧seesK k allG=false:=by
  rw[htl]
  cases c with
  |none=>exact⟨_,_,rfl,rfl⟩
  |some x=>exact⟨_,_,rfl,rfl⟩
 obtain⟨gk,gr,g1,g2⟩:=hg
 obtain⟨tk,tk1,tk2⟩:=pe_name k3
 have hE:PE (liE E ⟨7,0,[],[],[]⟩ p.adv) ⟨9,0,t,a::b::c.toList,[]⟩ (((p.adv.fwd (kys (lE n a)).length).adv.adv.adv.fwd (kys (lE n b)).length).fwd tl.length):=by
  unfold liE
  refine pe_iff (by decide) (pe_bnd (pe_kd (ha.2 p.adv _ _ q1 k1 (by decide))) ?_)
  rw[show(p.adv.fwd (kys (lE n a)).length).sees [[102,111,114]]=true from sees_key k2 _]
  show PE (eaE E _ (p.adv.fwd (kys (lE n a)).length).adv) _ _
  unfold eaE
  refine pe_bnd tk2 (pe_bnd (pe_tkA k4 (by decide)) ?_)
  rw[tk1]
  refine pe_bnd (pe_kd (hb.2 _ gk gr q5 (by rw[←g1];exact k5) g2)) ?_
  unfold eaF
  cases c with
  |none=>
   subst htl
   rw[show((p.adv.fwd (kys (lE n a)).length).adv.adv.adv.fwd (kys (lE n b)).length).sees [[105,102]]=false from sees_key k6 _]
   exact pe_eaR k6
  |some x=>
   have hx:=hc x rfl
   subst htl
   rw[show((p.adv.fwd (kys (lE n a)).length).adv.adv.adv.fwd (kys (lE n b)).length).sees [[105,102]]=true from sees_key k6 _]
   have k7:((p.adv.fwd (kys (lE n a)).length).adv.adv.adv.fwd (kys (lE n b)).length).adv.ks=kys (lE n x)++(4,[93],0)::rest:=adv_ks k6
   have k8:=ks_fwd k7
   refine pe_bnd (pe_kd (hx.2 _ _ _ (hQ _ 1 (hQ _ _ q5)) k7 (by decide))) ?_
   have e:((p.adv.fwd (kys (lE n a)).length).adv.adv.adv.fwd (kys (lE n b)).length).adv.fwd (kys (lE n x)).length=((p.adv.fwd (kys (lE n a)).length).adv.adv.adv.fwd (kys (lE n b)).length).fwd (eTl n (some x)).length:=by
    rw[adv_fwd,fwd_fwd]
    congr 1
    show _=(kys (lE n x)).length+1
    omega
   rw[←e]
   exact pe_eaR k8
 have k9:(((p.adv.fwd (kys (lE n a)).length).adv.adv.adv.fwd (kys (lE n b)).length).fwd tl.length).ks=(4,[93],0)::rest:=ks_fwd k6
 have hf:p.fwd ((4,[91],0)::(kys (lE n a)++(5,[102,111,114],0)::(1,t,0)::(5,[105,110],0)::(kys (lE n b)++(tl++[(4,[93],0)]))):List Ky).length=(((p.adv.fwd (kys (lE n a)).length).adv.adv.adv.fwd (kys (lE n b)).length).fwd tl.length).adv:=by
  simp only[adv_fwd,fwd_fwd]
  congr 1
  simp only[List.length_cons,List.length_append,List.length_nil]
  omega
 rw[hf]
 have h0:p.adv.sees [[93]]=false:=by
  obtain⟨k,r,e1,e2⟩:=ha.fst (c:=[93]) (.inr (.inl rfl))
  rw[e1]at k1
  exact(sees_key k1 _).trans e2
 have l1:=congrArg List.length k1
 have l9:=congrArg List.length k9
 rw[ks_len]at l1 l9
 refine pe_lst1 h0 hE ?_ (sees_key k9 _) ?_
 ·unfold less
  rw[l1,l9]
  refine decide_eq_true ?_
  simp only[List.length_cons,List.length_append]
  omega
 ·rw[l1]
  simp only[List.length_cons,List.length_append]
  omega
end
end Go.Proofs.YtcaeeackccgclaaGreatDoor
