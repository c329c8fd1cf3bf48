/- 38. -/
import Derived.Lib.LaidTab
import Derived.Test.YtcaeeackccgclaaGreatDoorTx37
set_option maxHeartbeats 40000000
set_option maxRecDepth 100000
namespace Go.Proofs.YtcaeeackccgclaaGreatDoor
open Go.RowKit Go.Shelf Go.Sort
theorem itoaS (k:Nat)(hk:k≤9007199254740991)(w:World)(h:TabW w):
  Calls Tryz.prog 55 #[.int .i64 (k:Int)] w fun e w'=>e= .returned (.string ⟨(Lib.decDigits k).toArray⟩)∧Below w.heap.size w w':=by
 refine(Any.strconv_Itoa laysI (k:Int) (by omega) (by omega) w h).mono ?_
 rintro e w' ⟨rfl,j,os,rfl⟩
 refine⟨?_,⟨rfl,rfl,rfl,?_,?_⟩⟩
 ·have e:Lib.itoa (k:Int)=Lib.decDigits k:=by
   unfold Lib.itoa
   rw[if_neg (by omega)]
   rfl
  rw[e]
  all_goals rfl
 ·simp[grow]
 ·intro g hg
  rw[heap_grow_old _ _ (by simpa using hg)]
  rfl
theorem qt_ge:∀ l:List UInt8,l.length≤(l.flatMap qt1).length
 |[]=>Nat.le_refl _
 |c::l=>by
  have h:=qt_ge l
  have h2:1≤(qt1 c).length:=by
   unfold qt1
   split
   ·decide
   split
   ·decide
   split
   ·show 1≤2;decide
   ·exact Nat.le_refl _
  rw[List.flatMap_cons,List.length_append,List.length_cons]
  omega
section
variable {n B b:Nat} {z:Int} {l:List UInt8} {S:Nat→Prop} {x:Ex} {a1 a2:Option Addr} {c1 c2:Nat} {w:World}
theorem exprL_w (t:List UInt8)(h:Wz B b z l S x a1 c1 a2 c2 w)(hlen:l.length+t.length≤1000000000)(hq:((((x.kind:Nat):Int)==(1:Int))=true∧t=[78,111,110,101])∨(((((x.kind:Nat):Int)==(1:Int))=false∧(((x.kind:Nat):Int)==(2:Int))=true)∧t=[84,114,117,101])∨(((((x.kind:Nat):Int)==(1:Int))=false∧(((x.kind:Nat):Int)==(2:Int))=false∧(((x.kind:Nat):Int)==(3:Int))=true)∧t=[70,97,108,115,101])):
  Calls Tryz.prog 39 #[pt b,.agg (fa x a1 c1 a2 c2)] w (WpO B b z (l++t) w):=by
 obtain⟨hk0,hh,hX⟩:=h.box
 obtain⟨u0,u1,u2,u3,u4⟩:=five_of hh
 have HS:=ws_any hX.wr hX.size t hlen
 have HK:Hid (Kp B b w (w.alloc (.cells (fa x a1 c1 a2 c2) 38))):=hk0
 clear h hX hk0 hh hlen
 unfold fa at *
 rcases hq with⟨q1,rfl⟩|⟨⟨q1,q2⟩,rfl⟩|⟨⟨q1,q2,q3⟩,rfl⟩
 all_goals
  go_enter Tryz.func39,Tryz.ntmps39
  go_wp2_with (go_at_call 23;refine HS.mono ?_;rintro e w2 ⟨rfl,h2,hk2,hB2⟩)
  go_end0
  exact⟨rfl,h2,HK.out.trans hk2,hB2⟩
theorem exprN_w (h:Wz B b z l S x a1 c1 a2 c2 w)(hkd:x.kind=6)(hlen:l.length+x.text.length≤1000000000):
  Calls Tryz.prog 39 #[pt b,.agg (fa x a1 c1 a2 c2)] w (WpO B b z (l++x.text) w):=by
 obtain⟨hk0,hh,hX⟩:=h.box
 obtain⟨u0,u1,u2,u3,u4⟩:=five_of hh
 have HS:Hid (Calls Tryz.prog _ _ _ _):=ws_any hX.drew.wr hX.drew.size x.text hlen
 have q1:(((x.kind:Nat):Int)==(1:Int))=false:=kd_no hkd 1 (by decide)
 have q2:(((x.kind:Nat):Int)==(2:Int))=false:=kd_no hkd 2 (by decide)
 have q3:(((x.kind:Nat):Int)==(3:Int))=false:=kd_no hkd 3 (by decide)
 have q4:(((x.kind:Nat):Int)==(4:Int))=false:=kd_no hkd 4 (by decide)
 have q5:(((x.kind:Nat):Int)==(5:Int))=false:=kd_no hkd 5 (by decide)
 have q6:(((x.kind:Nat):Int)==(6:Int))=true:=kd_yes hkd
 have HK:Hid (Kp B b w (w.alloc (.cells (fa x a1 c1 a2 c2) 38))):=hk0
 clear h hX hk0 hh hlen hkd
 unfold fa at *
 go_enter Tryz.func39,Tryz.ntmps39
 go_wp2_with fail
 go_region_with (first
  |(go_at_call 23;refine HS.out.mono ?_;rintro e w2 ⟨rfl,h2,hk2,hB2⟩)
  |fail)
 all_goals
  go_wp2
  go_end0
  exact⟨rfl,h2,HK.out.trans hk2.un,hB2⟩
theorem exprI_w (h:Wz B b z l S x a1 c1 a2 c2 w)(hkd:x.kind=4)(hn:x.num≤9007199254740991)(hlen:l.length+(Lib.decDigits x.num).length≤1000000000):
  Calls Tryz.prog 39 #[pt b,.agg (fa x a1 c1 a2 c2)] w (WpO B b z (l++Lib.decDigits x.num) w):=by
 obtain⟨hk0,hh,hX⟩:=h.box
 obtain⟨u0,u1,u2,u3,u4⟩:=five_of hh
 have HI:Hid (Calls Tryz.prog 55 #[.int .i64 (x.num:Int)] (w.alloc (.cells (fa x a1 c1 a2 c2) 38)).drew fun e w'=>e= .returned (.string ⟨(Lib.decDigits x.num).toArray⟩)∧WrIs B b z (Lib.byteCells l) w'∧Kp B b w w'∧B≤w'.heap.size):=(itoaS x.num hn _ hX.drew.tab).mono fun e w' ⟨q1,q2⟩=>by
  have q4:(w.alloc (.cells (fa x a1 c1 a2 c2) 38)).heap.size≤w'.heap.size:=q2.size
  exact⟨q1,hX.wr.up q2.block,hk0.trans ⟨⟨q2.os,q2.tape,q2.output,q4,fun g hg=>q2.block g (Nat.lt_of_lt_of_le hg hX.size)⟩,fun k o hk _ _=>(q2.block k (Array.getElem?_eq_some_iff.1 hk).1).trans hk⟩,Nat.le_trans hX.size q4⟩
 have q1:(((x.kind:Nat):Int)==(1:Int))=false:=kd_no hkd 1 (by decide)
 have q2:(((x.kind:Nat):Int)==(2:Int))=false:=kd_no hkd 2 (by decide)
 have q3:(((x.kind:Nat):Int)==(3:Int))=false:=kd_no hkd 3 (by decide)
 have q4:(((x.kind:Nat):Int)==(4:Int))=true:=kd_yes hkd
 clear hk0 h hX hkd hh
 unfold fa at *
 go_enter Tryz.func39,Tryz.ntmps39
 go_wp2_with fail
 go_region_with (first
  |(go_at_call 55;refine HI.out.mono ?_;rintro e w1 ⟨rfl,h1,hk1,hB1⟩;have HW:=ws_any h1 hB1 (Lib.decDigits x.num) hlen;clear h1 hB1)
  |(go_at_call 23;refine HW.mono ?_;rintro e w2 ⟨rfl,h2,hk2,hB2⟩)
  |fail)
 all_goals
  go_wp2
  go_end0
  exact⟨rfl,h2,hk1.trans hk2,hB2⟩
theorem exprT_w (h:Wz B b z l S x a1 c1 a2 c2 w)(hkd:x.kind=5)(hlen:l.length+(qtL x.text).length≤1000000000):
  Calls Tryz.prog 39 #[pt b,.agg (fa x a1 c1 a2 c2)] w (WpO B b z (l++qtL x.text) w):=by
 obtain⟨hk0,hh,hX⟩:=h.box
 obtain⟨u0,u1,u2,u3,u4⟩:=five_of hh
 have hqg:=qt_ge x.text
 have hql:(qtL x.text).length=(x.text.flatMap qt1).length+2:=by simp[qtL]
 have HT:=wtext_any B b z l (mkB x.text) _ hX.wr (by rw[mk_size];omega) hX.size
 have HK:Hid (Kp B b w (w.alloc (.cells (fa x a1 c1 a2 c2) 38))∧B≤(w.alloc (.cells (fa x a1 c1 a2 c2) 38)).heap.size):=⟨hk0,hX.size⟩
 have q1:(((x.kind:Nat):Int)==(1:Int))=false:=kd_no hkd 1 (by decide)
 have q2:(((x.kind:Nat):Int)==(2:Int))=false:=kd_no hkd 2 (by decide)
 have q3:(((x.kind:Nat):Int)==(3:Int))=false:=kd_no hkd 3 (by decide)
 have q4:(((x.kind:Nat):Int)==(4:Int))=false:=kd_no hkd 4 (by decide)
 have q5:(((x.kind:Nat):Int)==(5:Int))=true:=kd_yes hkd
 clear h hX hk0 hh hlen hqg hql hkd
 unfold fa at *
 go_enter Tryz.func39,Tryz.ntmps39
 go_wp2_with fail
 refine HT.mono ?_
 rintro e w2 ⟨rfl,h2⟩
 go_wp2
 go_end0
 exact⟨rfl,h2.out.1,HK.out.1.trans h2.out.2,Nat.le_trans HK.out.2 h2.out.2.size⟩
theorem exprM_w {o:List UInt8}(h:Wz B b z l S x a1 c1 a2 c2 w)(hkd:7≤x.kind)(hM:∀ V,Wz B b z l S x a1 c1 a2 c2 V→Calls Tryz.prog 57 #[pt b,.agg (fa x a1 c1 a2 c2)] V (WpO B b z o V)):
  Calls Tryz.prog 39 #[pt b,.agg (fa x a1 c1 a2 c2)] w (WpO B b z o w):=by
 obtain⟨hk0,hh,hX⟩:=h.box
 obtain⟨u0,u1,u2,u3,u4⟩:=five_of hh
 have HE:=hM _ hX
 have q1:(((x.kind:Nat):Int)==(1:Int))=false:=by rw[beq_eq_false_iff_ne];omega
 have q2:(((x.kind:Nat):Int)==(2:Int))=false:=by rw[beq_eq_false_iff_ne];omega
 have q3:(((x.kind:Nat):Int)==(3:Int))=false:=by rw[beq_eq_false_iff_ne];omega
 have q4:(((x.kind:Nat):Int)==(4:Int))=false:=by rw[beq_eq_false_iff_ne];omega
 have q5:(((x.kind:Nat):Int)==(5:Int))=false:=by rw[beq_eq_false_iff_ne];omega
 have q6:(((x.kind:Nat):Int)==(6:Int))=false:=by rw[beq_eq_false_iff_ne];omega
 have HK:Hid (Kp B b w (w.alloc (.cells (fa x a1 c1 a2 c2) 38))):=hk0
 clear hk0 h hX hkd hh hM
 unfold fa at *
 go_enter Tryz.func39,Tryz.ntmps39
 go_wp2_with fail
 refine HE.mono ?_
 rintro e w2 ⟨rfl,h2,hk2,hB2⟩
 go_wp2
 go_end0
 exact⟨rfl,h2,HK.out.trans hk2,hB2⟩
end
theorem kO_b (t:List UInt8):(kO t).and.b=t:=by
 unfold kO
 cases isLt (t.getD 0 0)<;>rfl
theorem jT_ge {α:Type}(k:Nat)(f:α→List UInt8):∀ (l:List α) (first:Bool),(∀ e∈l,k≤(f e).length)→k*l.length≤(jT first (l.map f)).length
 |[],_,_=>Nat.le_refl _
 |a::l,first,h=>by
  have b:=jT_ge k f l false fun e he=>h e (List.mem_cons_of_mem _ he)
  have d:=h a List.mem_cons_self
  show k*(l.length+1)≤((bif first then f a else 44::32::f a)++jT false (l.map f)).length
  rw[List.length_append,Nat.mul_succ]
  cases first
  ·show _≤(f a).length+1+1+_
   omega
  ·show _≤(f a).length+_
   omega
theorem jT_len {α:Type}(f:α→List UInt8)(l:List α)(h:∀ e∈l,f e≠[]):l.length≤(jT true (l.map f)).length:=by
 have:=jT_ge 1 f l true fun e he=>List.length_pos_iff.2 (h e he)
 omega
theorem wf_ne {n:Nat}{e:Ex}(h:WfE n e):lxB (lE n e)≠[]:=(wx_lE n e h).ne
theorem lH_ne {n:Nat}{a:Option (List UInt8)×Ex}(h:WfE n a.2):lxB (lH (lE n) a)≠[]:=by
 obtain⟨m,e⟩:=a
 cases m with
 |none=>exact wf_ne h
 |some t=>
  show t++(61::lxB (lE n e))≠[]
  simp
theorem expr_w:∀ n,ExW n
 |0=>fun _ _ _ _ _ _ _ _ _ _ _ _ h=>h.elim
 |n+1=>fun B b z l S x a1 c1 a2 c2 w h hx hlen=>by
  have ih:=expr_w n
  obtain⟨kd,num,text,kids,names⟩:=x
  match kd,h,hx,hlen with
  |0,_,hx,_=>exact hx.elim
  |1,h,hx,hlen=>exact exprL_w [78,111,110,101] h hlen (.inl ⟨rfl,rfl⟩)
  |2,h,hx,hlen=>exact exprL_w [84,114,117,101] h hlen (.inr (.inl ⟨⟨rfl,rfl⟩,rfl⟩))
  |3,h,hx,hlen=>exact exprL_w [70,97,108,115,101] h hlen (.inr (.inr ⟨⟨rfl,rfl,rfl⟩,rfl⟩))
  |4,h,hx,hlen=>
   have e:lxB (lE (n+1) ⟨4,num,text,kids,names⟩)=Lib.decDigits num:=List.append_nil _
   rw[e]at hlen ⊢
   exact exprI_w h rfl hx.2 hlen
  |5,h,hx,hlen=>
   have e:lxB (lE (n+1) ⟨5,num,text,kids,names⟩)=qtL text:=List.append_nil _
   rw[e]at hlen ⊢
   exact exprT_w h rfl hlen
  |6,h,hx,hlen=>
   have e:lxB (lE (n+1) ⟨6,num,text,kids,names⟩)=text:=List.append_nil _
   rw[e]at hlen ⊢
   exact exprN_w h rfl hlen
  |7,h,hx,hlen=>
   have e:lxB (lE (n+1) ⟨7,num,text,kids,names⟩)=[91]++jT true (kids.map fun e=>lxB (lE n e))++[93]:=by
    show 91::lxB (joinC (kids.map (lE n))++[kS [93]])=_
    rw[lxB_app,jT_join,List.map_map]
    rfl
   rw[e]at hlen ⊢
   rw[List.length_append,List.length_append,List.length_singleton,List.length_singleton]at hlen
   rw[←List.append_assoc,←List.append_assoc]
   have hkl:=jT_len (fun e=>lxB (lE n e)) kids fun e he=>wf_ne (hx.2 e he)
   have hf1:kids.length≤1000000000:=by omega
   have hf2:l.length+(jT true (kids.map fun e=>lxB (lE n e))).length+2≤1000000000:=by omega
   exact exprM_w h (by show 7≤7;decide) fun V hV=>made7_w ih hV rfl hx.2 hf1 hf2
  |8,h,hx,hlen=>
   have e:lxB (lE (n+1) ⟨8,num,text,kids,names⟩)=[123]++jT true ((pairs kids).map fun p=>lxB (lE n p.1)++[58,32]++lxB (lE n p.2))++[125]:=by
    show 123::lxB (joinC ((pairs kids).map fun p=>lE n p.1++((kS [58]).and::lE n p.2))++[kS [125]])=_
    rw[lxB_app,jT_join,List.map_map]
    have e2:(pairs kids).map (lxB∘fun p=>lE n p.1++((kS [58]).and::lE n p.2))=(pairs kids).map fun p=>lxB (lE n p.1)++[58,32]++lxB (lE n p.2):=List.map_congr_left fun p _=>by
     show lxB (lE n p.1++((kS [58]).and::lE n p.2))=_
     rw[lxB_app,List.append_assoc]
     rfl
    rw[e2]
    rfl
   rw[e]at hlen ⊢
   rw[List.length_append,List.length_append,List.length_singleton,List.length_singleton]at hlen
   rw[←List.append_assoc,←List.append_assoc]
   have hkl:=jT_ge 2 (fun p:Ex×Ex=>lxB (lE n p.1)++[58,32]++lxB (lE n p.2)) (pairs kids) true fun p _=>by
    show 2≤(lxB (lE n p.1)++[58,32]++lxB (lE n p.2)).length
    rw[List.length_append,List.length_append]
    show 2≤_+2+_
    omega
   have hpl:=pairs_len kids hx.2.2
   have hf1:kids.length≤1000000000:=by omega
   have hf2:l.length+(jT true ((pairs kids).map fun p=>lxB (lE n p.1)++[58,32]++lxB (lE n p.2))).length+2≤1000000000:=by omega
   exact exprM_w h (by show 7≤8;decide) fun V hV=>made8_w ih hV rfl hx.2.1 hx.2.2 hf1 hf2
  |9,h,hx,hlen=>
   obtain⟨_,hk,hl,hn⟩:=hx
   obtain⟨y,y1,c,rfl⟩:∃ y y1,∃ c:Option Ex,kids=y::y1::c.toList:=by
    match kids,hl with
    |[a,b],_=>exact⟨a,b,none,rfl⟩
    |[a,b,c],_=>exact⟨a,b,some c,rfl⟩
    |[],hl=>exact absurd hl (by simp)
    |[_],hl=>exact absurd hl (by simp)
    |_::_::_::_::_,hl=>exact absurd hl (by simp)
   have ls:∀ e∈y::y1::c.toList,lastNo (lE n e):=fun e he=>(wx_lE n e (hk e he)).wh.last
   have e:lxB (lE (n+1) ⟨9,num,text,y::y1::c.toList,names⟩)=[91]++lxB (lE n y)++foT text++lxB (lE n y1)++ifT n c++[93]:=by
    cases c with
    |none=>
     show 91::lxB ((spL (lE n y)++((kW [102,111,114]).and::(kW text).and::(kW [105,110]).and::lE n y1))++[kS [93]])=_
     rw[lxB_app,lxB_app,spL_b _ (ls y (by simp))]
     show 91::((lxB (lE n y)++[32])++([102,111,114]++([32]++(text++([32]++([105,110]++([32]++lxB (lE n y1)))))))++[93])=_
     simp[foT,ifT]
    |some y2=>
     show 91::lxB ((spL (lE n y)++((kW [102,111,114]).and::(kW text).and::(kW [105,110]).and::(spL (lE n y1)++((kW [105,102]).and::lE n y2))))++[kS [93]])=_
     rw[lxB_app,lxB_app,spL_b _ (ls y (by simp))]
     show 91::((lxB (lE n y)++[32])++([102,111,114]++([32]++(text++([32]++([105,110]++([32]++lxB (spL (lE n y1)++((kW [105,102]).and::lE n y2))))))))++[93])=_
     rw[lxB_app,spL_b _ (ls y1 (by simp))]
     show 91::((lxB (lE n y)++[32])++([102,111,114]++([32]++(text++([32]++([105,110]++([32]++((lxB (lE n y1)++[32])++([105,102]++([32]++lxB (lE n y2))))))))))++[93])=_
     simp[foT,ifT]
   have hll:(foT text).length=text.length+9:=by simp only[foT,List.length_append,List.length_cons,List.length_nil];omega
   rw[e]at hlen ⊢
   simp only[List.length_append,List.length_singleton,hll]at hlen
   simp only[←List.append_assoc]
   have hf2:l.length+(lxB (lE n y)).length+11+text.length+(lxB (lE n y1)).length+(ifT n c).length≤1000000000:=by omega
   exact exprM_w h (by show 7≤9;decide) fun V hV=>made9_w ih hV rfl rfl hk hf2
  |10,h,hx,hlen=>
   obtain⟨_,hk,hl,hn⟩:=hx
   match kids,hk,hl,h,hlen with
   |[],_,hl,_,_=>exact absurd hl (by simp)
   |y::rest,hk,hl,h,hlen=>
    have hl:names.length+1≤rest.length+1:=hl
    have e:lxB (lE (n+1) ⟨10,num,text,y::rest,names⟩)=lxB (lP (lE n) y)++[40]++jT true ((argsL names rest).map fun a=>lxB (lH (lE n) a))++[41]:=by
     show lxB (lP (lE n) y++kS [40]::(joinC ((argsL names rest).map (lH (lE n)))++[kS [41]]))=_
     rw[lxB_app]
     show lxB (lP (lE n) y)++40::lxB (joinC ((argsL names rest).map (lH (lE n)))++[kS [41]])=_
     rw[lxB_app,jT_join,List.map_map]
     show lxB (lP (lE n) y)++40::(jT true ((argsL names rest).map fun a=>lxB (lH (lE n) a))++[41])=_
     simp
    rw[e]at hlen ⊢
    simp only[List.length_append,List.length_singleton]at hlen
    simp only[←List.append_assoc]
    have hw:∀ e∈rest,WfE n e:=fun e he=>hk e (List.mem_cons_of_mem _ he)
    have hkl:=jT_len (fun a=>lxB (lH (lE n) a)) (argsL names rest) fun a ha e=>lH_ne (hw _ (mem_args ha).1) e
    rw[args_len (by omega)]at hkl
    have hf1:names.length≤rest.length:=by omega
    have hf2:rest.length≤1000000000:=by omega
    have hf3:l.length+(lxB (lP (lE n) y)).length+2+(jT true ((argsL names rest).map fun a=>lxB (lH (lE n) a))).length≤1000000000:=by omega
    exact exprM_w h (by show 7≤10;decide) fun V hV=>made10_w ih hV rfl rfl (hk y List.mem_cons_self) hw hf1 hf2 hf3
  |11,h,hx,hlen=>
   obtain⟨_,hk,hl⟩:=hx
   obtain⟨y,y2,rfl⟩:∃ y y2,kids=[y,y2]:=by
    match kids,hl with
    |[a,b],_=>exact⟨a,b,rfl⟩
    |[],hl=>exact absurd hl (by simp)
    |[_],hl=>exact absurd hl (by simp)
    |_::_::_::_,hl=>exact absurd hl (by simp)
   have e:lxB (lE (n+1) ⟨11,num,text,[y,y2],names⟩)=lxB (lP (lE n) y)++[91]++lxB (lE n y2)++[93]:=by
    show lxB (lP (lE n) y++kS [91]::(lE n y2++[kS [93]]))=_
    rw[lxB_app]
    show lxB (lP (lE n) y)++91::lxB (lE n y2++[kS [93]])=_
    rw[lxB_app]
    show lxB (lP (lE n) y)++91::(lxB (lE n y2)++[93])=_
    simp
   rw[e]at hlen ⊢
   simp only[List.length_append,List.length_singleton]at hlen
   simp only[←List.append_assoc]
   exact exprM_w h (by show 7≤11;decide) fun V hV=>made11_w ih hV rfl rfl (hk y (by simp)) (hk y2 (by simp)) (by omega)
  |12,h,hx,hlen=>
   obtain⟨_,hk,hl⟩:=hx
   obtain⟨y,rfl⟩:∃ y,kids=[y]:=by
    match kids,hl with
    |[a],_=>exact⟨a,rfl⟩
    |[],hl=>exact absurd hl (by simp)
    |_::_::_,hl=>exact absurd hl (by simp)
   have e:lxB (lE (n+1) ⟨12,num,text,[y],names⟩)=[110,111,116,32]++lxB (lP (lE n) y):=rfl
   rw[e]at hlen ⊢
   rw[List.length_append]at hlen
   rw[←List.append_assoc]
   exact exprM_w h (by show 7≤12;decide) fun V hV=>made12_w ih hV rfl rfl (hk y (by simp)) (by have:[110,111,116,32].length=4:=rfl;omega)
  |13,h,hx,hlen=>
   obtain⟨_,hk,hl⟩:=hx
   obtain⟨y,rfl⟩:∃ y,kids=[y]:=by
    match kids,hl with
    |[a],_=>exact⟨a,rfl⟩
    |[],hl=>exact absurd hl (by simp)
    |_::_::_,hl=>exact absurd hl (by simp)
   have e:lxB (lE (n+1) ⟨13,num,text,[y],names⟩)=[45]++lxB (lP (lE n) y):=rfl
   rw[e]at hlen ⊢
   rw[List.length_append]at hlen
   rw[←List.append_assoc]
   exact exprM_w h (by show 7≤13;decide) fun V hV=>made13_w ih hV rfl rfl (hk y (by simp)) (by have:[45].length=1:=rfl;omega)
  |14,h,hx,hlen=>
   obtain⟨_,hk,hl,ho⟩:=hx
   obtain⟨y,y2,rfl⟩:∃ y y2,kids=[y,y2]:=by
    match kids,hl with
    |[a,b],_=>exact⟨a,b,rfl⟩
    |[],hl=>exact absurd hl (by simp)
    |[_],hl=>exact absurd hl (by simp)
    |_::_::_::_,hl=>exact absurd hl (by simp)
   have hy:=wh_lP (f:=lE n) (wx_lE n y (hk y (by simp))).wh
   have e:lxB (lE (n+1) ⟨14,num,text,[y,y2],names⟩)=lxB (lP (lE n) y)++(32::text++[32])++lxB (lP (lE n) y2):=by
    show lxB (spL (lP (lE n) y)++((kO text).and::lP (lE n) y2))=_
    rw[lxB_app,spL_b _ hy.last]
    show(lxB (lP (lE n) y)++[32])++((kO text).and.b++([32]++lxB (lP (lE n) y2)))=_
    rw[kO_b]
    simp
   rw[e]at hlen ⊢
   simp only[List.length_append,List.length_cons,List.length_nil]at hlen
   rw[←List.append_assoc,←List.append_assoc]
   have hf2:l.length+(lxB (lP (lE n) y)).length+2+text.length+(lxB (lP (lE n) y2)).length≤1000000000:=by omega
   exact exprM_w h (by show 7≤14;decide) fun V hV=>made14_w ih hV rfl rfl (hk y (by simp)) (hk y2 (by simp)) hf2
  |k+15,_,hx,_=>exact hx.elim
end Go.Proofs.YtcaeeackccgclaaGreatDoor
namespace Go.Proofs.YtcaeeackccgclaaGreatDoor
open Go.RowKit Go.Shelf
attribute [local go_sem] mk_func2
structure Sh where
 a0:Option Addr
 c0:Nat
 a1:Option Addr
 c1:Nat
 a2:Option Addr
 c2:Nat
 a3:Option Addr
 c3:Nat
 a4:Option Addr
 c4:Nat
def tv (x:Sm)(q:Sh):List Value:=[.int .i64 x.kind,.string (mkB x.text),.slice q.a0 x.names.length q.c0,.int .i64 x.ex.kind,.int .i64 x.ex.num,.string (mkB x.ex.text),.slice q.a1 x.ex.kids.length q.c1,.slice q.a2 x.ex.names.length q.c2,.slice q.a3 x.body.length q.c3,.slice q.a4 x.els.length q.c4]
def ta (x:Sm)(q:Sh):Array Value:=#[.int .i64 x.kind,.string (mkB x.text),.slice q.a0 x.names.length q.c0,.int .i64 x.ex.kind,.int .i64 x.ex.num,.string (mkB x.ex.text),.slice q.a1 x.ex.kids.length q.c1,.slice q.a2 x.ex.names.length q.c2,.slice q.a3 x.body.length q.c3,.slice q.a4 x.els.length q.c4]
def Ten (w:World)(g o:Nat)(x:Sm)(q:Sh):Prop:=w.cell? ⟨g,o,none⟩=some (.int .i64 x.kind)∧w.cell? ⟨g,o+1,none⟩=some (.string (mkB x.text))∧w.cell? ⟨g,o+2,none⟩=some (.slice q.a0 x.names.length q.c0)∧w.cell? ⟨g,o+3,none⟩=some (.int .i64 x.ex.kind)∧w.cell? ⟨g,o+4,none⟩=some (.int .i64 x.ex.num)∧w.cell? ⟨g,o+5,none⟩=some (.string (mkB x.ex.text))∧w.cell? ⟨g,o+6,none⟩=some (.slice q.a1 x.ex.kids.length q.c1)∧w.cell? ⟨g,o+7,none⟩=some (.slice q.a2 x.ex.names.length q.c2)∧w.cell? ⟨g,o+8,none⟩=some (.slice q.a3 x.body.length q.c3)∧w.cell? ⟨g,o+9,none⟩=some (.slice q.a4 x.els.length q.c4)
theorem Ten.at0 {w:World}{g:Nat}{x:Sm}{q:Sh}(h:Ten w g 0 x q):w.cell? ⟨g,0,none⟩=some (.int .i64 x.kind)∧w.cell? ⟨g,1,none⟩=some (.string (mkB x.text))∧w.cell? ⟨g,2,none⟩=some (.slice q.a0 x.names.length q.c0)∧w.cell? ⟨g,3,none⟩=some (.int .i64 x.ex.kind)∧w.cell? ⟨g,4,none⟩=some (.int .i64 x.ex.num)∧w.cell? ⟨g,5,none⟩=some (.string (mkB x.ex.text))∧w.cell? ⟨g,6,none⟩=some (.slice q.a1 x.ex.kids.length q.c1)∧w.cell? ⟨g,7,none⟩=some (.slice q.a2 x.ex.names.length q.c2)∧w.cell? ⟨g,8,none⟩=some (.slice q.a3 x.body.length q.c3)∧w.cell? ⟨g,9,none⟩=some (.slice q.a4 x.els.length q.c4):=h
theorem ten_of {w:World}{g:Nat}{x:Sm}{q:Sh}{t:TypeId}(h:w.heap[g]? =some (.cells (ta x q) t (0,0))):Ten w g 0 x q:=by
 refine⟨?_,?_,?_,?_,?_,?_,?_,?_,?_,?_⟩<;>(rw[Lib.cell_of_heap h];rfl)
theorem SmV.kpw {B b:Nat}{w w':World}(hk:Kp B b w w'){S:Nat→Prop}(hS:∀ g,S g→g≠b):∀ {n:Nat} {x:Sm} {c:List Value},SmV w S n x c→SmV w' S n x c
 |_+1,_,_,⟨nv,ce,bv,ev,bs,es,e,h1,h2,h3,h4,k2,k3,k4,h5,h6⟩=>⟨nv,ce,bv,ev,bs,es,e,h1.kpw hk hS,hk.row h2 (fun g hg=>hS g (k2 g hg)) (by decide),hk.row h3 (fun g hg=>hS g (k3 g hg)) (by decide),hk.row h4 (fun g hg=>hS g (k4 g hg)) (by decide),k2,k3,k4,h5.mono fun _ _ f=>SmV.kpw hk hS f,h6.mono fun _ _ f=>SmV.kpw hk hS f⟩
theorem SmA.kpw {B b:Nat}{w w':World}(hk:Kp B b w w'){S:Nat→Prop}(hS:∀ g,S g→g≠b){x:Sm}{c:List Value}(h:SmA w S x c):SmA w' S x c:=⟨h.choose,h.choose_spec.kpw hk hS⟩
structure RwT (S:Nat→Prop)(w:World)(l:List Sm)(v:Value)(vs:List (List Value)):Prop where
 row:w.ownsRow 0 40 10 v l.length vs.flatten
 own:∀ g,v.ownBlock=some g→S g
 fa:Fa (SmA w S) l vs
theorem RwT.kpw {B b:Nat}{w w':World}(hk:Kp B b w w'){S:Nat→Prop}(hS:∀ g,S g→g≠b){l:List Sm}{v:Value}{vs:List (List Value)}(h:RwT S w l v vs):RwT S w' l v vs:=⟨hk.row h.row (fun g hg=>hS g (h.own g hg)) (by decide),h.own,h.fa.mono fun _ _ f=>f.kpw hk hS⟩
theorem SmA.parts {w:World}{S:Nat→Prop}{x:Sm}{q:Sh}(h:SmA w S x (tv x q)):ExA w S x.ex (fv x.ex q.a1 q.c1 q.a2 q.c2)∧(w.ownsRow 0 9 1 (.slice q.a0 x.names.length q.c0) x.names.length (x.names.map sv)∧∀ g,(Value.slice q.a0 x.names.length q.c0).ownBlock=some g→S g)∧(∃ vs,RwT S w x.body (.slice q.a3 x.body.length q.c3) vs)∧∃ vs,RwT S w x.els (.slice q.a4 x.els.length q.c4) vs:=by
 obtain⟨n,hn⟩:=h
 match n,hn with
 |n+1,⟨nv,ce,bv,ev,bs,es,e,h1,h2,h3,h4,k2,k3,k4,h5,h6⟩=>
  obtain⟨b1,d1,b2,d2,rfl⟩:=h1.form
  unfold tv at e
  injection e with _ e
  injection e with _ e
  injection e with e0 e
  subst e0
  have e:[Value.int .i64 x.ex.kind,.int .i64 x.ex.num,.string (mkB x.ex.text),.slice q.a1 x.ex.kids.length q.c1,.slice q.a2 x.ex.names.length q.c2,.slice q.a3 x.body.length q.c3,.slice q.a4 x.els.length q.c4]=[.int .i64 x.ex.kind,.int .i64 x.ex.num,.string (mkB x.ex.text),.slice b1 x.ex.kids.length d1,.slice b2 x.ex.names.length d2,bv,ev]:=e
  injection e with _ e
  injection e with _ e
  injection e with _ e
  injection e with e1 e
  injection e with e2 e
  injection e with e3 e
  injection e with e4 _
  subst e3 e4
  rw[←e1,←e2]at h1
  exact⟨h1,⟨h2,k2⟩,⟨bs,h3,k3,h5.mono fun _ _ f=>⟨n,f⟩⟩,es,h4,k4,h6.mono fun _ _ f=>⟨n,f⟩⟩
structure Ws (B b:Nat)(z:Int)(l:List UInt8)(S:Nat→Prop)(x:Sm)(q:Sh)(w:World):Prop where
 wr:WrIs B b z (Lib.byteCells l) w
 size:B≤w.heap.size
 pow:1<B
 tab:TabW w
 sm:SmA w S x (tv x q)
 own:∀ g,S g→g≠b
section
variable {B b:Nat} {z z':Int} {l l':List UInt8} {S:Nat→Prop} {x:Sm} {q:Sh} {w w':World}
theorem Ws.kp (h:Ws B b z l S x q w)(hk:Kp B b w w')(hw:WrIs B b z' (Lib.byteCells l') w'):Ws B b z' l' S x q w':=⟨hw,Nat.le_trans h.size hk.1.size,h.pow,h.tab.kp hk h.pow,h.sm.kpw hk h.own,h.own⟩
theorem Ws.drew (h:Ws B b z l S x q w):Ws B b z l S x q w.drew:=⟨h.wr,h.size,h.pow,h.tab.of_block rfl,h.sm.keep (fun _ _ _=>rfl) (fun _ hg _=>hg),h.own⟩
theorem Ws.ex (h:Ws B b z l S x q w):Wz B b z l S x.ex q.a1 q.c1 q.a2 q.c2 w:=⟨h.wr,h.size,h.pow,h.tab,h.sm.parts.1,h.own⟩
theorem Ws.al (h:Ws B b z l S x q w)(o:Obj):Ws B b z l S x q (w.alloc o):=h.kp (Kp.al b h.size o) (h.wr.al o)
theorem Ws.box (h:Ws B b z l S x q w):Kp B b w (w.alloc (.cells (ta x q) 40))∧Ws B b z l S x q (w.alloc (.cells (ta x q) 40))∧∀ V,Kp B b (w.alloc (.cells (ta x q) 40)) V→Ten V w.heap.size 0 x q:=by
 have hb:=h.wr.lt
 exact⟨Kp.al b h.size _,h.al _,fun V hV=>ten_of (hV.other (heap_alloc_new w _) (by omega) (by decide))⟩
end
theorem sd_no {x:Sm}{k:Nat}(h:x.kind=k)(j:Nat)(hj:j≠k):(((x.kind:Nat):Int)==(j:Int))=false:=by
 rw[beq_eq_false_iff_ne]
 omega
theorem sd_yes {x:Sm}{k:Nat}(h:x.kind=k):(((x.kind:Nat):Int)==(k:Int))=true:=by
 rw[h]
 exact beq_self_eq_true _
theorem small1_w {B b:Nat}{z:Int}{l:List UInt8}{S:Nat→Prop}{x:Sm}{q:Sh}{w:World}(h:Ws B b z l S x q w)(hkd:x.kind=1)(hlen:l.length+4≤1000000000):
  Calls Tryz.prog 28 #[pt b,.agg (ta x q)] w (WpO B b z (l++[112,97,115,115]) w):=by
 obtain⟨hk0,hX,hbox⟩:=h.box
 obtain⟨u0,u1,u2,u3,u4,u5,u6,u7,u8,u9⟩:=(hbox _ (Kp.refl _ _ _)).at0
 have HS:=ws_any hX.wr hX.size [112,97,115,115] hlen
 have HK:Hid (Kp B b w (w.alloc (.cells (ta x q) 40))):=hk0
 have q1:(((x.kind:Nat):Int)==(1:Int))=true:=sd_yes hkd
 clear h hX hk0 hbox hkd
 unfold ta at *
 go_enter Tryz.func28,Tryz.ntmps28
 go_wp2_with (go_at_call 23;refine HS.mono ?_;rintro e w2 ⟨rfl,h2,hk2,hB2⟩)
 go_end0
 exact⟨rfl,h2,HK.out.trans hk2,hB2⟩
theorem small2_w {n B b:Nat}{z:Int}{l:List UInt8}{S:Nat→Prop}{x:Sm}{q:Sh}{w:World}(h:Ws B b z l S x q w)(hkd:x.kind=2)(hx:WfE n x.ex)(hlen:l.length+7+(lxB (lE n x.ex)).length≤1000000000):
  Calls Tryz.prog 28 #[pt b,.agg (ta x q)] w (WpO B b z (l++[114,101,116,117,114,110,32]++lxB (lE n x.ex)) w):=by
 obtain⟨hk0,hX,hbox⟩:=h.box
 obtain⟨u0,u1,u2,u3,u4,u5,u6,u7,u8,u9⟩:=(hbox _ (Kp.refl _ _ _)).at0
 have HE:=before_w (expr_w n) hX.ex hx [114,101,116,117,114,110,32] hlen
 have HK:Hid (Kp B b w (w.alloc (.cells (ta x q) 40))):=hk0
 have q1:(((x.kind:Nat):Int)==(1:Int))=false:=sd_no hkd 1 (by decide)
 have q2:(((x.kind:Nat):Int)==(2:Int))=true:=sd_yes hkd
 clear h hX hk0 hbox hkd
 unfold ta at *
 unfold fa at HE
 go_enter Tryz.func28,Tryz.ntmps28
 go_wp2_with fail
 refine HE.mono ?_
 rintro e w2 ⟨rfl,h2,hk2,hB2⟩
 go_wp2
 go_end0
 exact⟨rfl,h2,HK.out.trans hk2,hB2⟩
theorem small3_w {n B b:Nat}{z:Int}{l:List UInt8}{S:Nat→Prop}{x:Sm}{q:Sh}{w:World}(h:Ws B b z l S x q w)(hkd:x.kind=3)(hx:WfE n x.ex)(hlen:l.length+(x.text.length+3)+(lxB (lE n x.ex)).length≤1000000000):
  Calls Tryz.prog 28 #[pt b,.agg (ta x q)] w (WpO B b z (l++(x.text++[32,61,32])++lxB (lE n x.ex)) w):=by
 obtain⟨hk0,hX,hbox⟩:=h.box
 obtain⟨u0,u1,u2,u3,u4,u5,u6,u7,u8,u9⟩:=(hbox _ (Kp.refl _ _ _)).at0
 have HE:=before_w (expr_w n) hX.ex hx (x.text++[32,61,32]) (by rw[List.length_append];exact hlen)
 have hs:¬9223372036854775807<(mkB x.text).size+3:=by rw[mk_size];omega
 have hc:(mkB x.text++(⟨#[32,61,32]⟩:ByteArray))=⟨(x.text++[32,61,32]).toArray⟩:=cat_2 [32,61,32] _
 have HK:Hid (Kp B b w (w.alloc (.cells (ta x q) 40))):=hk0
 have q1:(((x.kind:Nat):Int)==(1:Int))=false:=sd_no hkd 1 (by decide)
 have q2:(((x.kind:Nat):Int)==(2:Int))=false:=sd_no hkd 2 (by decide)
 have q3:(((x.kind:Nat):Int)==(3:Int))=true:=sd_yes hkd
 clear h hX hk0 hbox hkd hlen
 unfold ta at *
 unfold fa at HE
 go_enter Tryz.func28,Tryz.ntmps28
 go_wp2_with fail
 refine HE.mono ?_
 rintro e w2 ⟨rfl,h2,hk2,hB2⟩
 go_wp2
 go_end0
 exact⟨rfl,h2,HK.out.trans hk2,hB2⟩
theorem small5_w {n B b:Nat}{z:Int}{l:List UInt8}{S:Nat→Prop}{x:Sm}{q:Sh}{w:World}(h:Ws B b z l S x q w)(hkd:x.kind=5)(hx:WfE n x.ex)(hlen:l.length+(lxB (lE n x.ex)).length≤1000000000):
  Calls Tryz.prog 28 #[pt b,.agg (ta x q)] w (WpO B b z (l++lxB (lE n x.ex)) w):=by
 obtain⟨hk0,hX,hbox⟩:=h.box
 obtain⟨u0,u1,u2,u3,u4,u5,u6,u7,u8,u9⟩:=(hbox _ (Kp.refl _ _ _)).at0
 have HE:=expr_w n B b z l S x.ex _ _ _ _ _ hX.ex hx hlen
 have HK:Hid (Kp B b w (w.alloc (.cells (ta x q) 40))):=hk0
 have q1:(((x.kind:Nat):Int)==(1:Int))=false:=sd_no hkd 1 (by decide)
 have q2:(((x.kind:Nat):Int)==(2:Int))=false:=sd_no hkd 2 (by decide)
 have q3:(((x.kind:Nat):Int)==(3:Int))=false:=sd_no hkd 3 (by decide)
 have q4:(((x.kind:Nat):Int)==(4:Int))=false:=sd_no hkd 4 (by decide)
 have q5:(((x.kind:Nat):Int)==(5:Int))=true:=sd_yes hkd
 clear h hX hk0 hbox hkd hlen
 unfold ta at *
 unfold fa at HE
 go_enter Tryz.func28,Tryz.ntmps28
 go_wp2_with fail
 refine HE.mono ?_
 rintro e w2 ⟨rfl,h2,hk2,hB2⟩
 go_wp2
 go_end0
 exact⟨rfl,h2,HK.out.trans hk2,hB2⟩
end Go.Proofs.YtcaeeackccgclaaGreatDoor
