/- 16. -/
import Derived.Test.YtcaeeackccgclaaGreatDoorTx15
set_option maxHeartbeats 40000000
set_option maxRecDepth 100000
namespace Go.Proofs.YtcaeeackccgclaaGreatDoor
open Go.RowKit Go.Shelf
structure Wx (xs:List Lx):Prop where
 wh:Wh xs
 ne:lxB xs≠[]
 hd:((lxB xs).getD 0 0).toNat≠61
theorem wx_cons {x:Lx}{xs:List Lx}(h:Wh (x::xs))(hx:x.b≠[])(h61:(x.b.getD 0 0).toNat≠61):Wx (x::xs):=
 ⟨h,by show x.b++_≠[];simp[hx],by show((x.b++(x.bl++lxB xs)).getD 0 0).toNat≠61;rw[hd_app hx];exact h61⟩
theorem wx_app {xs ys:List Lx}(h:Wx xs)(g:Wh (xs++ys)):Wx (xs++ys):=
 ⟨g,by rw[lxB_app];simp[h.ne],by rw[lxB_app,hd_app h.ne];exact h.hd⟩
theorem wx_sp {xs ys:List Lx}(h:Wx xs)(g:Wh (spL xs++ys)):Wx (spL xs++ys):=
 ⟨g,by rw[lxB_app,spL_b _ h.wh.last];simp,by rw[lxB_app,spL_b _ h.wh.last,List.append_assoc,hd_app h.ne];exact h.hd⟩
theorem wx_lP {f:Ex→List Lx}{e:Ex}(h:Wx (f e)):Wx (lP f e):=by
 have hw:=wh_lP (f:=f) (e:=e) h.wh
 unfold lP at hw ⊢
 cases hd:decide (12≤e.kind)with
 |true=>rw[hd]at hw;exact wx_cons hw (by simp[kS]) (by show(40:UInt8).toNat≠61;decide)
 |false=>exact h
theorem wx_nm {t:List UInt8}(ht:NmS t){xs:List Lx}{x:Lx}(hx:x.b=t)(h:Wh (x::xs)):Wx (x::xs):=
 wx_cons h (by rw[hx];exact ht.1) (by rw[hx];have:=lt_num ht.2.1;omega)
theorem mem_pairs:∀ (l:List Ex) (p:Ex×Ex),p∈pairs l→p.1∈l∧p.2∈l
 |[],p,h=>by cases h
 |[_],p,h=>by cases h
 |a::b::r,p,h=>by
  rcases List.mem_cons.1 h with e|h
  ·subst e;simp
  ·obtain⟨h1,h2⟩:=mem_pairs r p h
   exact⟨List.mem_cons_of_mem _ (List.mem_cons_of_mem _ h1),List.mem_cons_of_mem _ (List.mem_cons_of_mem _ h2)⟩
theorem mem_zw {γ:Type}(g:List UInt8→Ex→γ):∀ (m:List (List UInt8)) (l:List Ex) (a:γ),a∈m.zipWith g l→∃ t e,t∈m∧e∈l∧a=g t e
 |[],_,a,h=>by simp at h
 |_::_,[],a,h=>by simp at h
 |t::m,e::l,a,h=>by
  rw[List.zipWith_cons_cons]at h
  rcases List.mem_cons.1 h with h1|h1
  ·exact⟨t,e,List.mem_cons_self,List.mem_cons_self,h1⟩
  ·obtain⟨t2,e2,h2,h3,h4⟩:=mem_zw g m l a h1
   exact⟨t2,e2,List.mem_cons_of_mem _ h2,List.mem_cons_of_mem _ h3,h4⟩
theorem mem_args {names:List (List UInt8)}{l:List Ex}{a:Option (List UInt8)×Ex}(h:a∈argsL names l):a.2∈l∧∀ t,a.1=some t→t∈names:=by
 unfold argsL at h
 rcases List.mem_append.1 h with h|h
 ·obtain⟨e,he,rfl⟩:=List.mem_map.1 h
  exact⟨List.mem_of_mem_take he,fun t h=>by cases h⟩
 ·obtain⟨t,e,h1,h2,rfl⟩:=mem_zw _ _ _ _ h
  exact⟨List.mem_of_mem_drop h2,fun u hu=>by cases hu;exact h1⟩
theorem wh_lH {f:Ex→List Lx}{a:Option (List UInt8)×Ex}(h:Wx (f a.2))(ht:∀ t,a.1=some t→NmS t):Wh (lH f a):=by
 unfold lH
 match hm:a.1 with
 |none=>exact h.wh
 |some m=>
  have hn:=ht m hm
  have hw:=wh_name hn
  show Wh (kW m::kS [61]::f a.2)
  have h2:∀ r,LxOk (kS [61]) ((kS [61]).bl++(lxB (f a.2)++r)):=fun r=>by
   refine lx_one rfl ?_ false
   show two2 (61::(lxB (f a.2)++r))=false
   cases hz:lxB (f a.2)with
   |nil=>exact absurd hz h.ne
   |cons c s=>
    have h61:c.toNat≠61:=by have:=h.hd;rw[hz]at this;exact this
    show([[61,61],[33,61],[60,61],[47,47]]:List (List Nat)).contains [61,c.toNat]=false
    simp[h61]
  refine⟨fun o=>?_,fun o=>⟨fun e=>absurd (hw.cls o).1 (fun g=>by have:=g e;exact absurd ((hw.cls 0).1 e) (Nat.lt_irrefl 0)),fun e=>absurd (show isCls 61=true from e) (by decide),h.wh.cls _⟩,fun r hr=>⟨?_,h2 r,h.wh.ok r hr⟩,lastNo_app [kW m,kS [61]] _ h.wh.last⟩
  ·show opA (f a.2) (opF 61 (opF (m.getD 0 0) o))=o
   rw[h.wh.op,opF_id (c:=61) (by decide)]
   exact hw.op o
  ·exact lx_name hn.1 hn.2.1 hn.2.2 (.inr (by show isNm 61=false;decide)) false
theorem wx_lE:∀ (n:Nat) (e:Ex),WfE n e→Wx (lE n e)
 |0,_,h=>h.elim
 |n+1,⟨k,num,text,kids,names⟩,h=>by
  have ih:=wx_lE n
  have hk2:∀ {l:List Ex},(∀ k∈l,WfE n k)→∀ k∈l,Wx (lE n k):=fun hl k hk=>ih k (hl k hk)
  match k,h with
  |1,_=>exact wx_nm nm_lit.2.2.2.2.1 rfl (wh_name nm_lit.2.2.2.2.1)
  |2,_=>exact wx_nm nm_lit.2.2.2.2.2.1 rfl (wh_name nm_lit.2.2.2.2.2.1)
  |3,_=>exact wx_nm nm_lit.2.2.2.2.2.2 rfl (wh_name nm_lit.2.2.2.2.2.2)
  |4,h=>
   obtain⟨k1,k2,_,_⟩:=dec_facts (num+1) num (Nat.lt_succ_self num)
   refine wx_cons (wh_int h.2) k1 ?_
   show((Lib.decDigits num).getD 0 0).toNat≠61
   cases hz:Lib.decDigits num with
   |nil=>exact absurd hz k1
   |cons c t=>have:=dg_num (k2 c (by rw[hz];exact List.mem_cons_self));show c.toNat≠61;omega
  |5,h=>exact wx_cons (wh_text h.2) (by simp[kT,qtL]) (by show(34:UInt8).toNat≠61;decide)
  |6,h=>exact wx_nm h.2.1 rfl (wh_name h.2.1)
  |7,h=>
   refine wx_cons (wh_sq (wi_join _ fun x hx=>?_)) (by simp[kS]) (by show(91:UInt8).toNat≠61;decide)
   obtain⟨y,hy,rfl⟩:=List.mem_map.1 hx
   exact(ih y (h.2 y hy)).wh
  |8,h=>
   refine wx_cons (wh_cu (wi_join _ fun x hx=>?_)) (by simp[kS]) (by show(123:UInt8).toNat≠61;decide)
   obtain⟨p,hp,rfl⟩:=List.mem_map.1 hx
   obtain⟨h1,h2⟩:=mem_pairs _ p hp
   have g2:=(ih _ (h.2.1 _ h2)).wh
   refine wh_app (ih _ (h.2.1 _ h1)).wh.wi ⟨fun o=>?_,fun o=>⟨fun e=>absurd (show isCls 58=true from e) (by decide),g2.cls _⟩,fun r hr=>⟨sg_ok sg_lit.2.2.2.2.2.2.1 _ true,g2.ok r hr⟩,lastNo_app [(kS [58]).and] _ g2.last⟩ (by show isNm 58=false;decide) (by show(58:UInt8)::_≠[];simp)
   show opA (lE n p.2) (opF 58 o)=o
   rw[g2.op,opF_id (by decide)]
  |9,h=>
   obtain⟨_,hk,hlen,hn,_⟩:=h
   match kids,hk,hlen with
   |[a,b],hk,_=>
    have ga:=(ih a (hk a (by simp))).wh
    have gb:=(ih b (hk b (by simp))).wh
    exact wx_cons (wh_sq (wh_sp ga (wh_word nm_lit.1 (wh_word hn (wh_word nm_lit.2.1 gb)))).wi) (by simp[kS]) (by show(91:UInt8).toNat≠61;decide)
   |[a,b,c],hk,_=>
    have ga:=(ih a (hk a (by simp))).wh
    have gb:=(ih b (hk b (by simp))).wh
    have gc:=(ih c (hk c (by simp))).wh
    exact wx_cons (wh_sq (wh_sp ga (wh_word nm_lit.1 (wh_word hn (wh_word nm_lit.2.1 (wh_sp gb (wh_word nm_lit.2.2.1 gc)))))).wi) (by simp[kS]) (by show(91:UInt8).toNat≠61;decide)
   |[],_,hlen=>exact absurd hlen (by simp)
   |[_],_,hlen=>exact absurd hlen (by simp)
   |_::_::_::_::_,_,hlen=>exact absurd hlen (by simp)
  |10,h=>
   obtain⟨_,hk,hlen,hn,_⟩:=h
   match kids,hk,hlen with
   |c::l,hk,_=>
    have gc:=wx_lP (f:=lE n) (ih c (hk c List.mem_cons_self))
    refine wx_app gc (wh_app gc.wh.wi (wh_ro (wi_join _ fun x hx=>?_)) (by show isNm 40=false;decide) (by show(40:UInt8)::_≠[];simp))
    obtain⟨a,ha,rfl⟩:=List.mem_map.1 hx
    obtain⟨h1,h2⟩:=mem_args ha
    exact wh_lH (ih _ (hk _ (List.mem_cons_of_mem _ h1))) fun t ht=>(hn t (h2 t ht)).1
   |[],_,hlen=>exact absurd hlen (by simp)
  |11,h=>
   obtain⟨_,hk,hlen⟩:=h
   match kids,hk,hlen with
   |[a,b],hk,_=>
    have ga:=wx_lP (f:=lE n) (ih a (hk a (by simp)))
    exact wx_app ga (wh_app ga.wh.wi (wh_sq (ih b (hk b (by simp))).wh.wi) (by show isNm 91=false;decide) (by show(91:UInt8)::_≠[];simp))
   |[],_,hlen=>exact absurd hlen (by simp)
   |[_],_,hlen=>exact absurd hlen (by simp)
   |_::_::_::_,_,hlen=>exact absurd hlen (by simp)
  |12,h=>
   obtain⟨_,hk,hlen⟩:=h
   match kids,hk,hlen with
   |[a],hk,_=>exact wx_nm nm_lit.2.2.2.1 rfl (wh_word nm_lit.2.2.2.1 (wh_lP (ih a (hk a (by simp))).wh))
   |[],_,hlen=>exact absurd hlen (by simp)
   |_::_::_,_,hlen=>exact absurd hlen (by simp)
  |13,h=>
   obtain⟨_,hk,hlen⟩:=h
   match kids,hk,hlen with
   |[a],hk,_=>
    have ga:=wh_lP (f:=lE n) (ih a (hk a (by simp))).wh
    refine wx_cons ⟨fun o=>?_,fun o=>⟨fun e=>absurd (show isCls 45=true from e) (by decide),ga.cls _⟩,fun r hr=>⟨sg_ok sg_lit.2.2.2.2.2.2.2 _ false,ga.ok r hr⟩,lastNo_app [kS [45]] _ ga.last⟩ (by simp[kS]) (by show(45:UInt8).toNat≠61;decide)
    show opA (lP (lE n) a) (opF 45 o)=o
    rw[ga.op,opF_id (by decide)]
   |[],_,hlen=>exact absurd hlen (by simp)
   |_::_::_,_,hlen=>exact absurd hlen (by simp)
  |14,h=>
   obtain⟨_,hk,hlen,ho⟩:=h
   match kids,hk,hlen with
   |[a,b],hk,_=>
    have ga:=wx_lP (f:=lE n) (ih a (hk a (by simp)))
    have gb:=wh_lP (f:=lE n) (ih b (hk b (by simp))).wh
    exact wx_sp ga (wh_sp ga.wh (wh_op ho gb))
   |[],_,hlen=>exact absurd hlen (by simp)
   |[_],_,hlen=>exact absurd hlen (by simp)
   |_::_::_::_,_,hlen=>exact absurd hlen (by simp)
  |0,h=>exact h.elim
  |k+15,h=>exact h.elim
theorem nm_st:NmS [112,97,115,115]∧NmS [114,101,116,117,114,110]∧NmS [108,111,97,100]∧NmS [100,101,102]∧NmS [101,108,115,101]:=by
 refine⟨⟨by decide,rfl,by decide⟩,⟨by decide,rfl,by decide⟩,⟨by decide,rfl,by decide⟩,⟨by decide,rfl,by decide⟩,⟨by decide,rfl,by decide⟩⟩
def lSm (n:Nat)(s:Sm):List Lx:=match s.kind with
 |1=>[kW [112,97,115,115]]
 |2=>(kW [114,101,116,117,114,110]).and::lE n s.ex
 |3=>(kW s.text).and::(kS [61]).and::lE n s.ex
 |4=>[kW [108,111,97,100]]++kS [40]::(joinC ((s.text::s.names).map fun t=>[kT t])++[kS [41]])
 |5=>lE n s.ex
 |_=>[]
def lHd (n:Nat)(s:Sm):List Lx:=(match s.kind with
 |6=>(kW [100,101,102]).and::([kW s.text]++kS [40]::(joinC (s.names.map fun t=>[kW t])++[kS [41]]))
 |7=>(kW [105,102]).and::lE n s.ex
 |8=>(kW [102,111,114]).and::(kW s.text).and::(kW [105,110]).and::lE n s.ex
 |_=>[])++[kS [58]]
def lEl:List Lx:=[kW [101,108,115,101]]++[kS [58]]
def WfL (n:Nat)(s:Sm):Prop:=match s.kind with
 |1=>True
 |2=>WfE n s.ex
 |3=>NmS s.text∧isWd s.text=false∧WfE n s.ex
 |4=>∀ t∈s.text::s.names,∀ c∈t,okB c=true
 |5=>WfE n s.ex
 |6=>NmS s.text∧isWd s.text=false∧∀ t∈s.names,NmS t∧isWd t=false
 |7=>WfE n s.ex
 |8=>NmS s.text∧isWd s.text=false∧WfE n s.ex
 |_=>False
theorem wh_col:Wh [kS [58]]:=
 ⟨fun o=>by show opF 58 o=o;exact opF_id (by decide),fun o=>⟨fun e=>absurd (show isCls 58=true from e) (by decide),trivial⟩,fun r _=>⟨sg_ok sg_lit.2.2.2.2.2.2.1 _ false,trivial⟩,rfl⟩
theorem wh_eq {xs:List Lx}(h:Wh xs):Wh ((kS [61]).and::xs):=by
 have g:Wh [kS [61]]→True:=fun _=>trivial
 refine⟨fun o=>?_,fun o=>⟨fun e=>absurd (show isCls 61=true from e) (by decide),?_⟩,fun r hr=>⟨?_,h.ok r hr⟩,lastNo_app [(kS [61]).and] _ h.last⟩
 ·show opA xs (opF 61 o)=o
  rw[h.op,opF_id (c:=61) (by decide)]
 ·show clsOk xs (opF 61 o)
  exact h.cls _
 ·exact lx_one (by decide) (by show two2 (61::32::(lxB xs++r))=false;show([[61,61],[33,61],[60,61],[47,47]]:List (List Nat)).contains [61,32]=false;decide) true
theorem wh_row {t:List UInt8}(ht:NmS t){xs:List Lx}(h:Wi xs):Wh ([kW t]++kS [40]::(xs++[kS [41]])):=
 wh_app (xs:=[kW t]) (wh_name ht).wi (wh_ro h) (by show isNm 40=false;decide) (by show(40:UInt8)::_≠[];simp)
theorem wh_lSm {n:Nat}{s:Sm}(hk:s.kind≤5)(h:WfL n s):Wh (lSm n s):=by
 obtain⟨k,text,names,ex,body,els⟩:=s
 match k,h with
 |1,_=>exact wh_name nm_st.1
 |2,h=>exact wh_word nm_st.2.1 (wx_lE n ex h).wh
 |3,h=>exact wh_word h.1 (wh_eq (wx_lE n ex h.2.2).wh)
 |4,h=>
  refine wh_row nm_st.2.2.1 (wi_join _ fun x hx=>?_)
  obtain⟨t,ht,rfl⟩:=List.mem_map.1 hx
  exact wh_text (h t ht)
 |5,h=>exact(wx_lE n ex h).wh
 |k+6,_=>exact absurd (show k+6≤5 from hk) (by omega)
theorem col_app {xs:List Lx}(h:Wh xs):Wh (xs++[kS [58]]):=
 wh_app h.wi wh_col (by show isNm 58=false;decide) (by show(58:UInt8)::_≠[];simp)
theorem wh_lHd {n:Nat}{s:Sm}(hk:6≤s.kind)(h:WfL n s):Wh (lHd n s):=by
 obtain⟨k,text,names,ex,body,els⟩:=s
 refine col_app ?_
 match k,h with
 |6,h=>
  refine wh_word nm_st.2.2.2.1 (wh_row h.1 (wi_join _ fun x hx=>?_))
  obtain⟨t,ht,rfl⟩:=List.mem_map.1 hx
  exact wh_name (h.2.2 t ht).1
 |7,h=>exact wh_word nm_lit.2.2.1 (wx_lE n ex h).wh
 |8,h=>exact wh_word nm_lit.1 (wh_word h.1 (wh_word nm_lit.2.1 (wx_lE n ex h.2.2).wh))
 |0,h=>exact absurd (show 6≤0 from hk) (by omega)
 |1,h=>exact absurd (show 6≤1 from hk) (by omega)
 |2,h=>exact absurd (show 6≤2 from hk) (by omega)
 |3,h=>exact absurd (show 6≤3 from hk) (by omega)
 |4,h=>exact absurd (show 6≤4 from hk) (by omega)
 |5,h=>exact absurd (show 6≤5 from hk) (by omega)
theorem wh_lEl:Wh lEl:=col_app (wh_name nm_st.2.2.2.2)
def stk:Nat→List Nat
 |0=>[0]
 |d+1=>4*(d+1)::stk d
theorem stk_top (d:Nat):(stk d).getD 0 0=4*d:=by cases d<;>rfl
theorem stk_len (d:Nat):(stk d).length=d+1:=by
 induction d with
 |zero=>rfl
 |succ d ih=>show(stk d).length+1=_;rw[ih]
theorem stk_mem:∀ (k d:Nat),4*d∈stk (d+k)
 |0,d=>by cases d with
  |zero=>exact List.mem_cons_self
  |succ d=>exact List.mem_cons_self
 |k+1,d=>List.mem_cons_of_mem _ (stk_mem k d)
theorem out_stk:∀ (k f d:Nat) (p:Sp),p.ins=stk (d+k)→k≤f→(outF (4*d) f p).ins=stk d∧(outF (4*d) f p).pos=p.pos∧(outF (4*d) f p).opn=p.opn∧(outF (4*d) f p).toks.map tkey=p.toks.map tkey++List.replicate k (8,[],0)
 |0,f,d,p,h,_=>by
  have e:outF (4*d) f p=p:=by
   cases f with
   |zero=>rfl
   |succ f=>
    show(if 4*d<p.top then _ else p)=p
    rw[if_neg (by unfold Sp.top;rw[h];show ¬4*d<(stk d).getD 0 0;rw[stk_top];omega)]
  rw[e]
  exact⟨h,rfl,rfl,by simp⟩
 |k+1,0,d,p,h,hf=>absurd hf (by omega)
 |k+1,f+1,d,p,h,hf=>by
  have e:outF (4*d) (f+1) p=outF (4*d) f (({p with ins:=p.ins.drop 1}:Sp).add 8):=by
   show(if 4*d<p.top then _ else p)=_
   rw[if_pos (by unfold Sp.top;rw[h];show 4*d<4*(d+k+1);omega)]
  rw[e]
  obtain⟨a,b,c,g⟩:=out_stk k f d (({p with ins:=p.ins.drop 1}:Sp).add 8) (by show p.ins.drop 1=_;rw[h];rfl) (by omega)
  refine⟨a,b,c,?_⟩
  rw[g]
  show(p.toks++[_]).map tkey++_=_
  rw[List.map_append,List.append_assoc]
  rfl
def moveK (d e:Nat):List (Nat×List UInt8×Nat):=if d<e then[(7,[],0)]else List.replicate (d-e) (8,[],0)
theorem come_stk {p:Sp}{d e:Nat}(h:p.ins=stk d)(he:e≤d+1):(p.come (4*e)).ins=stk e∧(p.come (4*e)).pos=p.pos∧(p.come (4*e)).opn=p.opn∧(p.come (4*e)).toks.map tkey=p.toks.map tkey++moveK d e:=by
 have ht:p.top=4*d:=by unfold Sp.top;rw[h,stk_top]
 by_cases hd:d<e
 ·obtain rfl:e=d+1:=by omega
  have e1:p.come (4*(d+1))=outF (4*(d+1)) (stk (d+1)).length (({p with ins:=4*(d+1)::p.ins}:Sp).add 7):=by
   unfold Sp.come
   rw[if_pos (by rw[ht];omega)]
   show outF _ ((4*(d+1))::p.ins).length _=_
   rw[h]
   rfl
  obtain⟨a,b,c,g⟩:=out_stk 0 (stk (d+1)).length (d+1) (({p with ins:=4*(d+1)::p.ins}:Sp).add 7) (by show _::p.ins=_;rw[h];rfl) (Nat.zero_le _)
  rw[e1]
  refine⟨a,b,c,?_⟩
  rw[g]
  unfold moveK
  rw[if_pos hd]
  show(p.toks++[_]).map tkey++[]=_
  rw[List.map_append,List.append_nil]
  rfl
 ·obtain⟨k,rfl⟩:∃ k,d=e+k:=⟨d-e,by omega⟩
  have e1:p.come (4*e)=outF (4*e) p.ins.length p:=by
   unfold Sp.come
   rw[if_neg (by rw[ht];omega)]
  rw[e1]
  obtain⟨a,b,c,g⟩:=out_stk k p.ins.length e p h (by rw[h,stk_len];omega)
  refine⟨a,b,c,?_⟩
  rw[g]
  unfold moveK
  rw[if_neg hd,Nat.add_sub_cancel_left]
theorem toks_come {L:List UInt8}{f i:Nat}{p:Sp}(h1:(p.come i).pos=p.pos)(h2:(p.come i).opn=p.opn)(h3:(p.come i).top=i)(h4:¬(i<p.top∧i∉p.ins))(h5:¬(p.top<i∧30<p.ins.length))(hn:endL L p=false):toksF L f i p=toksF L f i (p.come i):=by
 cases f with
 |zero=>show Except.error (0,p.pos)=Except.error (0,(p.come i).pos);rw[h1]
 |succ f=>
  have he:endL L (p.come i)=endL L p:=by unfold endL;rw[h1]
  have hr:refu L (p.come i) i=refu L p i:=by
   unfold refu
   rw[h1,h2,h3]
   dsimp only
   simp only[h4,h5,Nat.lt_irrefl,false_and,or_false,if_false]
  have hc:(p.come i).come i=p.come i:=by
   have:=Lw.come_same (p.come i)
   rw[h3]at this
   exact this
  unfold toksF
  rw[he,hr,hc,h1,hn]
  rfl
theorem skp_reps (o f:Nat){s:List UInt8}(hs:(s.getD 0 0).toNat≠32∧(s.getD 0 0).toNat≠35∧(s.getD 0 0).toNat≠10)(hne:s≠[]):∀ n:Nat,n+s.length≤f→skp o f (List.replicate n 32++s)=n
 |0,_=>by
  obtain⟨c,r,rfl⟩:=List.exists_cons_of_ne_nil hne
  have h32:c.toNat≠32:=hs.1
  have h10:c.toNat≠10:=hs.2.2
  exact skp_no' o f c r (by unfold isBl;simp[h32,h10]) hs.2.1
 |n+1,h=>by
  show skp o f (32::(List.replicate n 32++s))=n+1
  rw[skp_sp' o f _ (by rw[List.length_append,List.length_replicate];omega),skp_reps o f hs hne n (by omega)]
theorem ln_run {L:List UInt8}{p:Sp}{d e:Nat}{x:Lx}{xs:List Lx}{r:List UInt8}(hp:p.pos≤L.length)(ho:p.opn=0)(hi:p.ins=stk d)(he:e≤d+1)(hL:L.drop p.pos=List.replicate (4*e) 32++(lxB (x::xs)++10::r))(hW:Wh (x::xs)):
  (∃ q,lineF L p= .ok q∧q.ins=stk e∧q.opn=0∧L.drop q.pos=10::r∧q.pos<L.length∧q.toks.map tkey=p.toks.map tkey++(moveK d e++((x::xs).map (·.k)++[(6,[],0)])))∨∃ z,lineF L p= .error (2,z):=by
 have hok:=hW.ok (10::r) (.inr (by show isNm 10=false;decide))
 have hx1:=hok.1
 have hb1:0<x.b.length:=List.length_pos_iff.2 hx1.ne
 have hshape:lxB (x::xs)++10::r=x.b++(x.bl++(lxB xs++10::r)):=by show(x.b++(x.bl++lxB xs))++10::r=_;simp
 have hhd:(lxB (x::xs)++10::r).getD 0 0=x.b.getD 0 0:=by rw[hshape];exact hd_app hx1.ne _
 have hlen:L.length-p.pos=4*e+(lxB (x::xs)++10::r).length:=by
  have:=congrArg List.length hL
  rw[List.length_drop,List.length_append,List.length_replicate]at this
  exact this
 have hl1:x.b.length≤(lxB (x::xs)++10::r).length:=by rw[hshape,List.length_append];omega
 have hsk:skp p.opn L.length (L.drop p.pos)=4*e:=by
  rw[hL]
  exact skp_reps _ _ (by rw[hhd];exact⟨hx1.hd.1,hx1.hd.2.2,hx1.hd.2.1⟩) (by rw[hshape];simp[hx1.ne]) _ (by omega)
 have hpp:p.skip L=⟨p.pos+4*e,p.toks,p.ins,p.opn⟩:=by
  show(⟨p.pos+skp p.opn L.length (L.drop p.pos),p.toks,p.ins,p.opn⟩:Sp)=_
  rw[hsk]
 obtain⟨p1,hp1⟩:∃ p1:Sp,p1=⟨p.pos+4*e,p.toks,p.ins,p.opn⟩:=⟨_,rfl⟩
 have hd1:L.drop p1.pos=lxB (x::xs)++10::r:=by
  rw[hp1]
  show L.drop (p.pos+4*e)=_
  rw[←List.drop_drop,hL,List.drop_left' (by simp)]
 have hi1:p1.ins=stk d:=by rw[hp1];exact hi
 have ho1:p1.opn=0:=by rw[hp1];exact ho
 have hpos1:p1.pos=p.pos+4*e:=by rw[hp1]
 obtain⟨c1,c2,c3,c4⟩:=come_stk (p:=p1) hi1 he
 have ht1:p1.top=4*d:=by unfold Sp.top;rw[hi1,stk_top]
 have ht2:(p1.come (4*e)).top=4*e:=by unfold Sp.top;rw[c1,stk_top]
 have hen:endL L p1=false:=by
  unfold endL
  rw[hd1,hhd,Bool.or_eq_false_iff]
  exact⟨by rw[decide_eq_false_iff_not];omega,by rw[decide_eq_false_iff_not];exact hx1.hd.2.1⟩
 have h4:¬(4*e<p1.top∧4*e∉p1.ins):=fun h=>by
  rw[ht1]at h
  obtain⟨k,rfl⟩:∃ k,d=e+k:=⟨d-e,by omega⟩
  exact h.2 (by rw[hi1];exact stk_mem k e)
 by_cases h5:p1.top<4*e∧30<p1.ins.length
 ·right
  have hre:refu L p1 (4*e)=2:=by
   unfold refu
   rw[hd1]
   dsimp only
   have hbeg:=hx1.beg
   rw[←hshape]at hbeg
   rw[hhd,hbeg]
   rw[if_neg (fun g=>by
    rcases g with g|g
    ·cases g
    ·exact absurd ((hW.cls 0).1 g.1) (Nat.lt_irrefl 0)),if_neg h4,if_neg (fun g=>by have:=hx1.no g.1;rw[←hshape]at this;rw[this]at g;cases g.2),if_pos (.inr h5)]
  refine⟨p1.pos,?_⟩
  unfold lineF
  rw[hsk,hpp,←hp1,toks_ref (by omega) hen (by rw[hre];decide),hre]
 ·have hgo:=toks_come (f:=L.length+1) c2 c3 ht2 h4 h5 hen
  have hopA:opA (x::xs) (p1.come (4*e)).opn=0:=by rw[hW.op,c3,ho1]
  have hrun:=lx_run (L:=L) (x::xs) (p1.come (4*e)) (L.length+1) (10::r) (by rw[c2];exact hd1) (by rw[c2];omega) hok (hW.cls _) (.inr ⟨by show ¬(10:UInt8).toNat=32;decide,by show ¬(10:UInt8).toNat=35;decide,fun _=>hopA⟩) (by rw[c2];omega)
  rw[ht2]at hrun
  rcases hrun with⟨q,f',j1,j2,j3,j4,j5,j6,j7⟩|⟨z,j1⟩
  ·left
   have hqe:endL L q=true:=by unfold endL;rw[j3];simp
   have hql:q.pos<L.length:=by
    have:=congrArg List.length j3
    rw[List.length_drop]at this
    simp at this
    omega
   have hfin:toksF L (L.length+1) (4*e) p1= .ok q:=hgo.trans (j1.trans (toks_end j2 hqe))
   have hmore:p.toks.length<q.toks.length:=by
    have a:=congrArg List.length j5
    have b:=congrArg List.length c4
    rw[List.length_map,List.length_append,List.length_map,List.length_map]at a
    rw[List.length_map,List.length_append,List.length_map]at b
    have:p1.toks=p.toks:=by rw[hp1]
    rw[this]at b
    have:(x::xs).length=xs.length+1:=rfl
    omega
   have hq0:q.opn=0:=j7.trans hopA
   refine⟨q.add 6,?_,j6.trans c1,hq0,j3,hql,?_⟩
   ·unfold lineF
    rw[hsk,hpp,←hp1,hfin]
    dsimp only
    rw[if_neg (by rw[hq0];exact Nat.lt_irrefl _),if_pos hmore]
   ·show(q.toks++[_]).map tkey=_
    rw[List.map_append,j5,c4,hp1]
    show((p.toks.map tkey++moveK d e)++(x::xs).map (·.k))++[(6,[],0)]=_
    simp
  ·right
   refine⟨z,?_⟩
   unfold lineF
   rw[hsk,hpp,←hp1,hgo,j1]
def lnsB:List (Nat×List Lx)→List UInt8
 |[]=>[]
 |x::xs=>List.replicate (4*x.1) 32++(lxB x.2++10::lnsB xs)
def lnsK (d:Nat):List (Nat×List Lx)→List (Nat×List UInt8×Nat)
 |[]=>moveK d 0
 |x::xs=>(moveK d x.1++(x.2.map (·.k)++[(6,[],0)]))++lnsK x.1 xs
def lnsOk (d:Nat):List (Nat×List Lx)→Prop
 |[]=>True
 |x::xs=>x.1≤d+1∧Wh x.2∧x.2≠[]∧lnsOk x.1 xs
theorem lns_run {L:List UInt8}:∀ (ls:List (Nat×List Lx)) (p:Sp) (d f:Nat),p.pos≤L.length→p.opn=0→p.ins=stk d→lnsOk d ls→L.drop p.pos=lnsB ls→L.length-p.pos<f→
  (∃ q,linesF L f p= .ok q∧q.toks.map tkey=p.toks.map tkey++lnsK d ls)∨∃ z,linesF L f p= .error (2,z)
 |[],p,d,f,hp,ho,hi,_,hL,hf=>by
  have he:p.pos=L.length:=by
   have:=congrArg List.length hL
   rw[List.length_drop]at this
   simp[lnsB]at this
   omega
  exact .inl ⟨_,lines_end (by omega) he,(come_stk (e:=0) hi (Nat.zero_le _)).2.2.2⟩
 |(e,[])::ls,p,d,f,hp,ho,hi,hok,hL,hf=>absurd rfl hok.2.2.1
 |(e,x::xs)::ls,p,d,0,hp,ho,hi,hok,hL,hf=>absurd hf (by omega)
 |(e,x::xs)::ls,p,d,f+1,hp,ho,hi,hok,hL,hf=>by
  have hne:p.pos≠L.length:=fun h=>by
   rw[h,List.drop_length]at hL
   have:=congrArg List.length hL
   rw[show lnsB ((e,x::xs)::ls)=List.replicate (4*e) 32++(lxB (x::xs)++10::lnsB ls)from rfl]at this
   simp at this
  rcases ln_run (r:=lnsB ls) hp ho hi hok.1 hL hok.2.1 with⟨q,j1,j2,j3,j4,j5,j6⟩|⟨z,j1⟩
  ·have hq:linesF L (f+1) p=linesF L f {q with pos:=q.pos+1}:=by
    show(if p.pos=L.length then _ else _)=_
    rw[if_neg hne,j1]
    show(if q.pos=L.length then _ else _)=_
    rw[if_neg (by omega)]
   have hpq:p.pos≤q.pos:=by
    have a:=congrArg List.length hL
    have b:=congrArg List.length j4
    rw[List.length_drop,show lnsB ((e,x::xs)::ls)=List.replicate (4*e) 32++(lxB (x::xs)++10::lnsB ls)from rfl,List.length_append,List.length_append]at a
    rw[List.length_drop]at b
    omega
   rcases lns_run (L:=L) ls {q with pos:=q.pos+1} e f (by show q.pos+1≤_;omega) j3 j2 hok.2.2.2 (by
     show L.drop (q.pos+1)=_
     rw[←List.drop_drop,j4]
     rfl) (by show L.length-(q.pos+1)<f;omega)with⟨q',k1,k2⟩|⟨z,k1⟩
   ·refine .inl ⟨q',hq.trans k1,k2.trans ?_⟩
    show q.toks.map tkey++lnsK e ls=_
    rw[j6,List.append_assoc]
    rfl
   ·exact .inr ⟨z,hq.trans k1⟩
  ·right
   refine⟨z,?_⟩
   show(if p.pos=L.length then _ else _)=_
   rw[if_neg hne,j1]
theorem lns_split {ls:List (Nat×List Lx)}(h:lnsOk 0 ls):(∃ v,splitL (lnsB ls)= .ok v∧v.map tkey=lnsK 0 ls)∨∃ z,splitL (lnsB ls)= .error (2,z):=by
 unfold splitL
 rcases lns_run (L:=lnsB ls) ls ⟨0,[],[0],0⟩ 0 ((lnsB ls).length+1) (Nat.zero_le _) rfl rfl h rfl (by show(lnsB ls).length-0<_;omega)with⟨q,a,b⟩|⟨z,a⟩
 ·rw[a]
  exact .inl ⟨q.toks,rfl,by rw[b];rfl⟩
 ·rw[a]
  exact .inr ⟨z,rfl⟩
def lnS (n:Nat):Nat→Nat→Sm→List (Nat×List Lx)
 |0,_,_=>[]
 |m+1,d,s=>bif decide (s.kind≤5)then[(d,lSm n s)]else
   ((d,lHd n s)::s.body.flatMap (lnS n m (d+1)))++(bif s.els.isEmpty then[]else(d,lEl)::s.els.flatMap (lnS n m (d+1)))
def WfS (n:Nat):Nat→Sm→Prop
 |0,_=>False
 |m+1,s=>WfL n s∧(s.kind≤5→s.body=[]∧s.els=[])∧(6≤s.kind→s.body≠[]∧(∀ b∈s.body,WfS n m b)∧(∀ b∈s.els,WfS n m b)∧(s.kind≠7→s.els=[]))
def Ld (d:Nat)(ls:List (Nat×List Lx)):Prop:=(∀ x∈ls,d≤x.1)∧∀ d',d≤d'+1→lnsOk d' ls
theorem ld_nil (d:Nat):Ld d []:=⟨fun _ h=>(List.not_mem_nil h).elim,fun _ _=>trivial⟩
theorem ok_more {d:Nat}{B:List (Nat×List Lx)}(hB:∀ d',d≤d'+1→lnsOk d' B):∀ (A:List (Nat×List Lx)) (d':Nat),(∀ x∈A,d≤x.1)→d≤d'+1→lnsOk d' A→lnsOk d' (A++B)
 |[],d',_,h,_=>hB d' h
 |x::A,_,ha,_,hok=>⟨hok.1,hok.2.1,hok.2.2.1,ok_more hB A x.1 (fun y hy=>ha y (List.mem_cons_of_mem _ hy)) (Nat.le_succ_of_le (ha x List.mem_cons_self)) hok.2.2.2⟩
theorem ld_app {d:Nat}{A B:List (Nat×List Lx)}(ha:Ld d A)(hb:Ld d B):Ld d (A++B):=
 ⟨fun x hx=>(List.mem_append.1 hx).elim (ha.1 x) (hb.1 x),fun d' h=>ok_more hb.2 A d' ha.1 h (ha.2 d' h)⟩
theorem ld_cons {d:Nat}{xs:List Lx}{ls:List (Nat×List Lx)}(h:Wh xs)(hn:xs≠[])(hl:Ld (d+1) ls):Ld d ((d,xs)::ls):=by
 refine⟨fun x hx=>?_,fun d' h'=>⟨h',h,hn,hl.2 d (Nat.le_refl _)⟩⟩
 rcases List.mem_cons.1 hx with e|hx
 ·rw[e];exact Nat.le_refl _
 ·exact Nat.le_of_succ_le (hl.1 x hx)
theorem ld_flat {d:Nat}{f:Sm→List (Nat×List Lx)}:∀ l:List Sm,(∀ b∈l,Ld d (f b))→Ld d (l.flatMap f)
 |[],_=>ld_nil d
 |b::l,h=>by
  rw[List.flatMap_cons]
  exact ld_app (h b List.mem_cons_self) (ld_flat l fun x hx=>h x (List.mem_cons_of_mem _ hx))
theorem lSm_ne {n:Nat}{s:Sm}(hk:s.kind≤5)(h:WfL n s):lSm n s≠[]:=by
 obtain⟨k,text,names,ex,body,els⟩:=s
 match k,h with
 |1,_=>exact List.cons_ne_nil _ _
 |2,_=>exact List.cons_ne_nil _ _
 |3,_=>exact List.cons_ne_nil _ _
 |4,_=>exact List.cons_ne_nil _ _
 |5,h=>
  intro e
  have:=(wx_lE n ex h).ne
  rw[show lE n ex=[]from e]at this
  exact this rfl
 |k+6,_=>exact absurd (show k+6≤5 from hk) (by omega)
theorem lHd_ne {n:Nat}{s:Sm}:lHd n s≠[]:=by unfold lHd;simp
theorem ld_lnS {n:Nat}:∀ (m d:Nat) (s:Sm),WfS n m s→Ld d (lnS n m d s)
 |0,_,_,h=>h.elim
 |m+1,d,s,h=>by
  by_cases hk:s.kind≤5
  ·have e:lnS n (m+1) d s=[(d,lSm n s)]:=by unfold lnS;rw[decide_eq_true hk];rfl
   rw[e]
   exact ld_cons (wh_lSm hk h.1) (lSm_ne hk h.1) (ld_nil _)
  ·have e:lnS n (m+1) d s=((d,lHd n s)::s.body.flatMap (lnS n m (d+1)))++(bif s.els.isEmpty then[]else(d,lEl)::s.els.flatMap (lnS n m (d+1))):=by
    conv=>lhs;unfold lnS
    rw[decide_eq_false hk];rfl
   obtain⟨_,hb,he,_⟩:=h.2.2 (by omega)
   rw[e]
   refine ld_app (ld_cons (wh_lHd (by omega) h.1) lHd_ne (ld_flat _ fun b hx=>ld_lnS m (d+1) b (hb b hx))) ?_
   cases s.els.isEmpty
   ·exact ld_cons wh_lEl (List.cons_ne_nil _ _) (ld_flat _ fun b hx=>ld_lnS m (d+1) b (he b hx))
   ·exact ld_nil d
theorem st_split {n m:Nat}{l:List Sm}(h:∀ s∈l,WfS n m s):(∃ v,splitL (lnsB (l.flatMap (lnS n m 0)))= .ok v∧v.map tkey=lnsK 0 (l.flatMap (lnS n m 0)))∨∃ z,splitL (lnsB (l.flatMap (lnS n m 0)))= .error (2,z):=
 lns_split ((ld_flat (d:=0) l fun s hs=>ld_lnS m 0 s (h s hs)).2 0 (Nat.zero_le _))
end Go.Proofs.YtcaeeackccgclaaGreatDoor
