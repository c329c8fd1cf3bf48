/- 37. -/
import Derived.Test.YtcaeeackccgclaaGreatDoorTx36
set_option maxHeartbeats 40000000
set_option maxRecDepth 100000
namespace Go.Proofs.YtcaeeackccgclaaGreatDoor
open Go.RowKit Go.Shelf
section
variable {V:World} {g:Nat} {y:Ex} {b1 b2:Option Addr} {d1 d2:Nat}
theorem Five.at0 (h:Five V g 0 y b1 d1 b2 d2):V.cell? ⟨g,0,none⟩=some (.int .i64 y.kind)∧V.cell? ⟨g,1,none⟩=some (.int .i64 y.num)∧V.cell? ⟨g,2,none⟩=some (.string (mkB y.text))∧V.cell? ⟨g,3,none⟩=some (.slice b1 y.kids.length d1)∧V.cell? ⟨g,4,none⟩=some (.slice b2 y.names.length d2):=h
theorem Five.at1 (h:Five V g 5 y b1 d1 b2 d2):V.cell? ⟨g,5,none⟩=some (.int .i64 y.kind)∧V.cell? ⟨g,6,none⟩=some (.int .i64 y.num)∧V.cell? ⟨g,7,none⟩=some (.string (mkB y.text))∧V.cell? ⟨g,8,none⟩=some (.slice b1 y.kids.length d1)∧V.cell? ⟨g,9,none⟩=some (.slice b2 y.names.length d2):=h
theorem Five.at2 (h:Five V g 10 y b1 d1 b2 d2):V.cell? ⟨g,10,none⟩=some (.int .i64 y.kind)∧V.cell? ⟨g,11,none⟩=some (.int .i64 y.num)∧V.cell? ⟨g,12,none⟩=some (.string (mkB y.text))∧V.cell? ⟨g,13,none⟩=some (.slice b1 y.kids.length d1)∧V.cell? ⟨g,14,none⟩=some (.slice b2 y.names.length d2):=h
end
theorem mk_func2 (fn:Fn)(first cap:Array Value)(w:World):(Instr.makeFunc fn first cap).run Tryz.prog w= .ok (.func fn first cap) w:=rfl
attribute [local go_sem] mk_func2
theorem kd_no {x:Ex}{k:Nat}(h:x.kind=k)(j:Nat)(hj:j≠k):(((x.kind:Nat):Int)==(j:Int))=false:=by
 rw[beq_eq_false_iff_ne]
 omega
theorem kd_yes {x:Ex}{k:Nat}(h:x.kind=k):(((x.kind:Nat):Int)==(k:Int))=true:=by
 rw[h]
 exact beq_self_eq_true _
theorem made7_w {n B b:Nat}{z:Int}{l:List UInt8}{S:Nat→Prop}{x:Ex}{a1 a2:Option Addr}{c1 c2:Nat}{w:World}(hE:ExW n)(h:Wz B b z l S x a1 c1 a2 c2 w)(hkd:x.kind=7)(hw:∀ e∈x.kids,WfE n e)(hn:x.kids.length≤1000000000)(hlen:l.length+(jT true (x.kids.map fun e=>lxB (lE n e))).length+2≤1000000000):
  Calls Tryz.prog 57 #[pt b,.agg (fa x a1 c1 a2 c2)] w (WpO B b z (l++[91]++jT true (x.kids.map fun e=>lxB (lE n e))++[93]) w):=by
 obtain⟨hk0,hX,hbox⟩:=h.two
 obtain⟨outs,ho⟩:∃ outs,outs=x.kids.map fun e=>lxB (lE n e):=⟨_,rfl⟩
 rw[←ho]at hlen ⊢
 have hol:outs.length=x.kids.length:=by rw[ho,List.length_map]
 have HL:Calls Tryz.prog 58 #[pt b,.string ⟨#[91]⟩,.int .i64 x.kids.length,.string ⟨#[93]⟩,.func (.func 83) #[] #[pt w.heap.size,pt (w.heap.size+1)]] (mdW b (fa x a1 c1 a2 c2) w) (WpO B b z (l++[91]++jT true outs++[93]) (mdW b (fa x a1 c1 a2 c2) w)):=by
  rw[←hol]
  refine listed_w (op:=[91]) (cl:=[93]) 83 #[pt w.heap.size,pt (w.heap.size+1)] (enters_of Tryz.func83 (by kernel_rfl) rfl) hX.wr hX.size (by omega) (by show l.length+1+_+1≤_;omega) fun k hk1 W l' hkW hW hBW hl2=>?_
  have hkx:k<x.kids.length:=by omega
  have eo:outs[k]=lxB (lE n x.kids[k]):=by simp[ho]
  rw[eo]at hl2 ⊢
  exact made1_w hE (hX.kp hkW hW) (hbox W hkW).1 (hbox W hkW).2.at0.2.2.2.1 k hkx (hw _ (List.getElem_mem hkx)) hl2
 obtain⟨p0,p1⟩:=hbox _ (Kp.refl _ _ _)
 obtain⟨u0,u1,u2,u3,u4⟩:=p1.at0
 have HK:Hid (Kp B b w (mdW b (fa x a1 c1 a2 c2) w)):=hk0
 have hq:(((x.kind:Nat):Int)==(7:Int))=true:=kd_yes hkd
 clear h hX hk0 hbox hw hE hkd p1 ho hol
 unfold mdW fa at *
 go_enter Tryz.func57,Tryz.ntmps57
 go_wp2_with fail
 refine HL.mono ?_
 rintro e w2 ⟨rfl,h2,hk2,hB2⟩
 go_wp2
 go_end0
 exact⟨rfl,h2,HK.out.trans hk2,hB2⟩
theorem pairs_at:∀ (l:List Ex) (k:Nat) (h:2*k+1<l.length),(pairs l)[k]? =some (l[2*k],l[2*k+1])
 |[],_,h=>absurd h (by simp)
 |[_],_,h=>absurd h (by simp)
 |_::_::_,0,_=>rfl
 |_::_::l,k+1,h=>by
  have:=pairs_at l k (by simp at h;omega)
  show(pairs l)[k]? =_
  rw[this]
  rfl
theorem pairs_len:∀ l:List Ex,l.length%2=0→2*(pairs l).length=l.length
 |[],_=>rfl
 |[_],h=>by cases h
 |_::_::l,h=>by
  have:=pairs_len l (by have:(l.length+1+1)%2=0:=h;omega)
  show 2*((pairs l).length+1)=l.length+1+1
  omega
theorem made8_w {n B b:Nat}{z:Int}{l:List UInt8}{S:Nat→Prop}{x:Ex}{a1 a2:Option Addr}{c1 c2:Nat}{w:World}(hE:ExW n)(h:Wz B b z l S x a1 c1 a2 c2 w)(hkd:x.kind=8)(hw:∀ e∈x.kids,WfE n e)(h2:x.kids.length%2=0)(hn:x.kids.length≤1000000000)(hlen:l.length+(jT true ((pairs x.kids).map fun p=>lxB (lE n p.1)++[58,32]++lxB (lE n p.2))).length+2≤1000000000):
  Calls Tryz.prog 57 #[pt b,.agg (fa x a1 c1 a2 c2)] w (WpO B b z (l++[123]++jT true ((pairs x.kids).map fun p=>lxB (lE n p.1)++[58,32]++lxB (lE n p.2))++[125]) w):=by
 obtain⟨hk0,hX,hbox⟩:=h.two
 obtain⟨outs,ho⟩:∃ outs,outs=(pairs x.kids).map fun p=>lxB (lE n p.1)++[58,32]++lxB (lE n p.2):=⟨_,rfl⟩
 rw[←ho]at hlen ⊢
 have hol:2*outs.length=x.kids.length:=by rw[ho,List.length_map,pairs_len _ h2]
 have HL:Calls Tryz.prog 58 #[pt b,.string ⟨#[123]⟩,.int .i64 outs.length,.string ⟨#[125]⟩,.func (.func 84) #[] #[pt w.heap.size,pt (w.heap.size+1)]] (mdW b (fa x a1 c1 a2 c2) w) (WpO B b z (l++[123]++jT true outs++[125]) (mdW b (fa x a1 c1 a2 c2) w)):=by
  refine listed_w (op:=[123]) (cl:=[125]) 84 #[pt w.heap.size,pt (w.heap.size+1)] (enters_of Tryz.func84 (by kernel_rfl) rfl) hX.wr hX.size (by omega) (by show l.length+1+_+1≤_;omega) fun k hk1 W l' hkW hW hBW hl2=>?_
  have hkx:2*k+1<x.kids.length:=by omega
  have eo:outs[k]=lxB (lE n x.kids[2*k])++[58,32]++lxB (lE n x.kids[2*k+1]):=by
   have:outs[k]? =some (lxB (lE n x.kids[2*k])++[58,32]++lxB (lE n x.kids[2*k+1])):=(congrArg (fun o=>o[k]?) ho).trans (by rw[List.getElem?_map,pairs_at _ k hkx];rfl)
   rw[List.getElem?_eq_getElem hk1]at this
   exact Option.some.inj this
  rw[eo,List.length_append,List.length_append]at hl2
  rw[eo,←List.append_assoc,←List.append_assoc]
  exact made2_w hE (hX.kp hkW hW) (fun V hV=>⟨(hbox V (hkW.trans hV)).1,(hbox V (hkW.trans hV)).2.at0.2.2.2.1⟩) k (2*k) (2*k+1) rfl rfl hkx (by omega) (hw _ (List.getElem_mem _)) (hw _ (List.getElem_mem _)) hn (by have:[58,32].length=2:=rfl;omega)
 obtain⟨p0,p1⟩:=hbox _ (Kp.refl _ _ _)
 obtain⟨u0,u1,u2,u3,u4⟩:=p1.at0
 have HK:Hid (Kp B b w (mdW b (fa x a1 c1 a2 c2) w)):=hk0
 have q7:(((x.kind:Nat):Int)==(7:Int))=false:=kd_no hkd 7 (by decide)
 have q8:(((x.kind:Nat):Int)==(8:Int))=true:=kd_yes hkd
 obtain⟨o,hoo⟩:∃ o,o=outs.length:=⟨_,rfl⟩
 rw[←hoo]at HL hol
 have hd:(x.kids.length:Int).tdiv 2=(o:Int):=by rw[Int.tdiv_eq_ediv_of_nonneg (by omega)];omega
 have hwr:IntKind.i64.wrap (o:Int)=(o:Int):=by rw[IntKind.wrap_i64];omega
 clear h hX hk0 hbox hw hE hkd p1 ho hoo
 unfold mdW fa at *
 go_enter Tryz.func57,Tryz.ntmps57
 go_wp2_with fail
 refine HL.mono ?_
 rintro e w2 ⟨rfl,h2,hk2,hB2⟩
 go_wp2
 go_end0
 exact⟨rfl,h2,HK.out.trans hk2,hB2⟩
theorem made12_w {n B b:Nat}{z:Int}{l:List UInt8}{S:Nat→Prop}{x y:Ex}{a1 a2:Option Addr}{c1 c2:Nat}{w:World}(hE:ExW n)(h:Wz B b z l S x a1 c1 a2 c2 w)(hkd:x.kind=12)(hks:x.kids=[y])(hy:WfE n y)(hlen:l.length+4+(lxB (lP (lE n) y)).length≤1000000000):
  Calls Tryz.prog 57 #[pt b,.agg (fa x a1 c1 a2 c2)] w (WpO B b z (l++[110,111,116,32]++lxB (lP (lE n) y)) w):=by
 obtain⟨hk0,hX,hbox⟩:=h.two
 have hl1:x.kids.length=1:=by rw[hks];rfl
 obtain⟨g,rfl,_,b1,d1,b2,d2,hkid⟩:=hX.kid 0 (by omega)
 have ey:x.kids[0]'(by omega)=y:=by simp[hks]
 rw[ey]at hkid
 obtain⟨p0,p1⟩:=hbox _ (Kp.refl _ _ _)
 obtain⟨u0,u1,u2,u3,u4⟩:=p1.at0
 have HS:=ws_any hX.wr hX.size [110,111,116,32] (by show l.length+4≤_;omega)
 have HP:Hid (∀ V,Kp B b (mdW b (fa x (some ⟨g,0,none⟩) c1 a2 c2) w) V→WrIs B b z (Lib.byteCells (l++[110,111,116,32])) V→(V.cell? ⟨w.heap.size,0,none⟩=some (pt b)∧V.cell? ⟨w.heap.size+1,3,none⟩=some (.slice (some ⟨g,0,none⟩) x.kids.length c1))∧Five V g 0 y b1 d1 b2 d2∧Calls Tryz.prog 86 #[pt b,.agg (fa y b1 d1 b2 d2)] V.drew (WpO B b z (l++[110,111,116,32]++lxB (lP (lE n) y)) V.drew)):=fun V hV hl=>⟨⟨(hbox V hV).1,(hbox V hV).2.at0.2.2.2.1⟩,(hkid V hV).1,part_w hE ((hkid V hV).2 _ hl).drew hy (by rw[List.length_append];exact hlen)⟩
 have HK:Hid (Kp B b w (mdW b (fa x (some ⟨g,0,none⟩) c1 a2 c2) w)):=hk0
 have q7:(((x.kind:Nat):Int)==(7:Int))=false:=kd_no hkd 7 (by decide)
 have q8:(((x.kind:Nat):Int)==(8:Int))=false:=kd_no hkd 8 (by decide)
 have q9:(((x.kind:Nat):Int)==(9:Int))=false:=kd_no hkd 9 (by decide)
 have q10:(((x.kind:Nat):Int)==(10:Int))=false:=kd_no hkd 10 (by decide)
 have q11:(((x.kind:Nat):Int)==(11:Int))=false:=kd_no hkd 11 (by decide)
 have q12:(((x.kind:Nat):Int)==(12:Int))=true:=kd_yes hkd
 clear h hX hk0 hbox hkid hE hkd p1 ey hks
 rw[hl1]at *
 unfold mdW fa at *
 go_enter Tryz.func57,Tryz.ntmps57
 go_wp2_with (go_at_call 23;refine HS.mono ?_;rintro e w1 ⟨rfl,h1,hk1,hB1⟩;obtain⟨⟨s0,s1⟩,f,HP1⟩:=HP.out w1 hk1 h1;obtain⟨f0,f1,f2,f3,f4⟩:=f.at0;clear HP HS f h1)
 go_region_with (first
  |(go_at_call 86;refine HP1.mono ?_;rintro e w2 ⟨rfl,h2,hk2,hB2⟩)
  |fail)
 all_goals
  go_wp2
  go_end0
  exact⟨rfl,h2,(HK.out.trans hk1).trans hk2.un,hB2⟩
theorem made13_w {n B b:Nat}{z:Int}{l:List UInt8}{S:Nat→Prop}{x y:Ex}{a1 a2:Option Addr}{c1 c2:Nat}{w:World}(hE:ExW n)(h:Wz B b z l S x a1 c1 a2 c2 w)(hkd:x.kind=13)(hks:x.kids=[y])(hy:WfE n y)(hlen:l.length+1+(lxB (lP (lE n) y)).length≤1000000000):
  Calls Tryz.prog 57 #[pt b,.agg (fa x a1 c1 a2 c2)] w (WpO B b z (l++[45]++lxB (lP (lE n) y)) w):=by
 obtain⟨hk0,hX,hbox⟩:=h.two
 have hl1:x.kids.length=1:=by rw[hks];rfl
 obtain⟨g,rfl,_,b1,d1,b2,d2,hkid⟩:=hX.kid 0 (by omega)
 have ey:x.kids[0]'(by omega)=y:=by simp[hks]
 rw[ey]at hkid
 obtain⟨p0,p1⟩:=hbox _ (Kp.refl _ _ _)
 obtain⟨u0,u1,u2,u3,u4⟩:=p1.at0
 have HS:=wb_any hX.wr hX.size 45 (by omega)
 have HP:Hid (∀ V,Kp B b (mdW b (fa x (some ⟨g,0,none⟩) c1 a2 c2) w) V→WrIs B b z (Lib.byteCells (l++[45])) V→(V.cell? ⟨w.heap.size,0,none⟩=some (pt b)∧V.cell? ⟨w.heap.size+1,3,none⟩=some (.slice (some ⟨g,0,none⟩) x.kids.length c1))∧Five V g 0 y b1 d1 b2 d2∧Calls Tryz.prog 86 #[pt b,.agg (fa y b1 d1 b2 d2)] V.drew (WpO B b z (l++[45]++lxB (lP (lE n) y)) V.drew)):=fun V hV hl=>⟨⟨(hbox V hV).1,(hbox V hV).2.at0.2.2.2.1⟩,(hkid V hV).1,part_w hE ((hkid V hV).2 _ hl).drew hy (by rw[List.length_append];exact hlen)⟩
 have HK:Hid (Kp B b w (mdW b (fa x (some ⟨g,0,none⟩) c1 a2 c2) w)):=hk0
 have q7:(((x.kind:Nat):Int)==(7:Int))=false:=kd_no hkd 7 (by decide)
 have q8:(((x.kind:Nat):Int)==(8:Int))=false:=kd_no hkd 8 (by decide)
 have q9:(((x.kind:Nat):Int)==(9:Int))=false:=kd_no hkd 9 (by decide)
 have q10:(((x.kind:Nat):Int)==(10:Int))=false:=kd_no hkd 10 (by decide)
 have q11:(((x.kind:Nat):Int)==(11:Int))=false:=kd_no hkd 11 (by decide)
 have q12:(((x.kind:Nat):Int)==(12:Int))=false:=kd_no hkd 12 (by decide)
 have q13:(((x.kind:Nat):Int)==(13:Int))=true:=kd_yes hkd
 clear h hX hk0 hbox hkid hE hkd p1 ey hks
 rw[hl1]at *
 unfold mdW fa at *
 go_enter Tryz.func57,Tryz.ntmps57
 go_wp2_with (go_at_call 29;refine HS.mono ?_;rintro e w1 ⟨rfl,h1,hk1,hB1⟩;obtain⟨⟨s0,s1⟩,f,HP1⟩:=HP.out w1 hk1 h1;obtain⟨f0,f1,f2,f3,f4⟩:=f.at0;clear HP HS f h1)
 go_region_with (first
  |(go_at_call 86;refine HP1.mono ?_;rintro e w2 ⟨rfl,h2,hk2,hB2⟩)
  |fail)
 all_goals
  go_wp2
  go_end0
  exact⟨rfl,h2,(HK.out.trans hk1).trans hk2.un,hB2⟩
end Go.Proofs.YtcaeeackccgclaaGreatDoor
namespace Go.Proofs.YtcaeeackccgclaaGreatDoor
open Go.RowKit Go.Shelf
attribute [local go_sem] mk_func2
theorem cat_1 (a t:List UInt8):((⟨a.toArray⟩:ByteArray)++mkB t)=mkB (a++t):=by
 apply ByteArray.ext
 simp[mkB]
theorem cat_2 (a t:List UInt8):(mkB t++(⟨a.toArray⟩:ByteArray))=⟨(t++a).toArray⟩:=by
 apply ByteArray.ext
 simp[mkB]
theorem made11_w {n B b:Nat}{z:Int}{l:List UInt8}{S:Nat→Prop}{x y y2:Ex}{a1 a2:Option Addr}{c1 c2:Nat}{w:World}(hE:ExW n)(h:Wz B b z l S x a1 c1 a2 c2 w)(hkd:x.kind=11)(hks:x.kids=[y,y2])(hy:WfE n y)(hy2:WfE n y2)(hlen:l.length+(lxB (lP (lE n) y)).length+2+(lxB (lE n y2)).length≤1000000000):
  Calls Tryz.prog 57 #[pt b,.agg (fa x a1 c1 a2 c2)] w (WpO B b z (l++lxB (lP (lE n) y)++[91]++lxB (lE n y2)++[93]) w):=by
 obtain⟨hk0,hX,hbox⟩:=h.two
 have hl2:x.kids.length=2:=by rw[hks];rfl
 obtain⟨g,rfl,_,b1,d1,b2,d2,hkid⟩:=hX.kid 0 (by omega)
 obtain⟨g',e,_,b3,d3,b4,d4,hkid2⟩:=hX.kid 1 (by omega)
 cases e
 have ey:x.kids[0]'(by omega)=y:=by simp[hks]
 have ey2:x.kids[1]'(by omega)=y2:=by simp[hks]
 rw[ey]at hkid
 rw[ey2]at hkid2
 obtain⟨p0,p1⟩:=hbox _ (Kp.refl _ _ _)
 obtain⟨u0,u1,u2,u3,u4⟩:=p1.at0
 obtain⟨f0,f1,f2,f3,f4⟩:=((hkid _ (Kp.refl _ _ _)).1:Five _ g 0 y b1 d1 b2 d2).at0
 have HP:Hid (Calls Tryz.prog _ _ _ _):=part_w hE ((hkid _ (Kp.refl _ _ _)).2 l hX.wr).drew hy (by omega)
 have HF:Hid (∀ V,Kp B b (mdW b (fa x (some ⟨g,0,none⟩) c1 a2 c2) w) V→(V.cell? ⟨w.heap.size,0,none⟩=some (pt b)∧V.cell? ⟨w.heap.size+1,2,none⟩=some (.string (mkB x.text))∧V.cell? ⟨w.heap.size+1,3,none⟩=some (.slice (some ⟨g,0,none⟩) x.kids.length c1))∧Five V g 5 y2 b3 d3 b4 d4∧∀ l',WrIs B b z (Lib.byteCells l') V→Wz B b z l' S y2 b3 d3 b4 d4 V):=fun V hV=>⟨⟨(hbox V hV).1,(hbox V hV).2.at0.2.2.1,(hbox V hV).2.at0.2.2.2.1⟩,hkid2 V hV⟩
 have HK:Hid (Kp B b w (mdW b (fa x (some ⟨g,0,none⟩) c1 a2 c2) w)):=hk0
 have q7:(((x.kind:Nat):Int)==(7:Int))=false:=kd_no hkd 7 (by decide)
 have q8:(((x.kind:Nat):Int)==(8:Int))=false:=kd_no hkd 8 (by decide)
 have q9:(((x.kind:Nat):Int)==(9:Int))=false:=kd_no hkd 9 (by decide)
 have q10:(((x.kind:Nat):Int)==(10:Int))=false:=kd_no hkd 10 (by decide)
 have q11:(((x.kind:Nat):Int)==(11:Int))=true:=kd_yes hkd
 clear h hX hk0 hbox hkid hkid2 hkd p1 ey ey2 hks
 rw[hl2]at *
 unfold mdW at *
 unfold fa at *
 go_enter Tryz.func57,Tryz.ntmps57
 go_wp2_with fail
 go_region_with (first
  |(go_at_call 86;refine HP.out.mono ?_;rintro e w1 ⟨rfl,h1,hk1,hB1⟩;obtain⟨⟨s0,s1,s2⟩,f,hX⟩:=HF.out w1 hk1.un;obtain⟨g0,g1,g2,g3,g4⟩:=f.at1;clear f)
  |fail)
 all_goals
  have HBf:Hid (Calls Tryz.prog _ _ _ _):=before_w hE (hX _ h1).drew hy2 [91] (by rw[List.length_append];show l.length+_+1+_≤_;omega)
  have HK1:Hid (Kp B b w w1):=HK.out.trans hk1.un
  have HF1:Hid (∀ V,Kp B b w1 V→V.cell? ⟨w.heap.size,0,none⟩=some (pt b)):=fun V hV=>(HF.out V (hk1.un.trans hV)).1.1
  unfold fa at HBf
  clear h1 hk1 hB1 hX HF HP
  go_wp2_with fail
  go_region_with (first
   |(go_at_call 27;refine HBf.out.mono ?_;rintro e w3 ⟨rfl,h3,hk3,hB3⟩;have s3:=HF1.out w3 hk3.un)
   |fail)
  all_goals
   have HWb:=wb_any h3 hB3 93 (by simp only[List.length_append];show l.length+_+1+_+1≤_;omega)
   go_wp2_with (go_at_call 29;refine HWb.mono ?_;rintro e w4 ⟨rfl,h4,hk4,hB4⟩)
   go_end0
   exact⟨rfl,h4,(HK1.out.trans hk3.un).trans hk4,hB4⟩
theorem made14_w {n B b:Nat}{z:Int}{l:List UInt8}{S:Nat→Prop}{x y y2:Ex}{a1 a2:Option Addr}{c1 c2:Nat}{w:World}(hE:ExW n)(h:Wz B b z l S x a1 c1 a2 c2 w)(hkd:x.kind=14)(hks:x.kids=[y,y2])(hy:WfE n y)(hy2:WfE n y2)(hlen:l.length+(lxB (lP (lE n) y)).length+2+x.text.length+(lxB (lP (lE n) y2)).length≤1000000000):
  Calls Tryz.prog 57 #[pt b,.agg (fa x a1 c1 a2 c2)] w (WpO B b z (l++lxB (lP (lE n) y)++(32::x.text++[32])++lxB (lP (lE n) y2)) w):=by
 obtain⟨hk0,hX,hbox⟩:=h.two
 have hl2:x.kids.length=2:=by rw[hks];rfl
 obtain⟨g,rfl,_,b1,d1,b2,d2,hkid⟩:=hX.kid 0 (by omega)
 obtain⟨g',e,_,b3,d3,b4,d4,hkid2⟩:=hX.kid 1 (by omega)
 cases e
 have ey:x.kids[0]'(by omega)=y:=by simp[hks]
 have ey2:x.kids[1]'(by omega)=y2:=by simp[hks]
 rw[ey]at hkid
 rw[ey2]at hkid2
 obtain⟨p0,p1⟩:=hbox _ (Kp.refl _ _ _)
 obtain⟨u0,u1,u2,u3,u4⟩:=p1.at0
 obtain⟨f0,f1,f2,f3,f4⟩:=((hkid _ (Kp.refl _ _ _)).1:Five _ g 0 y b1 d1 b2 d2).at0
 have HP:Hid (Calls Tryz.prog _ _ _ _):=part_w hE ((hkid _ (Kp.refl _ _ _)).2 l hX.wr).drew hy (by omega)
 have HF:Hid (∀ V,Kp B b (mdW b (fa x (some ⟨g,0,none⟩) c1 a2 c2) w) V→(V.cell? ⟨w.heap.size,0,none⟩=some (pt b)∧V.cell? ⟨w.heap.size+1,2,none⟩=some (.string (mkB x.text))∧V.cell? ⟨w.heap.size+1,3,none⟩=some (.slice (some ⟨g,0,none⟩) x.kids.length c1))∧Five V g 5 y2 b3 d3 b4 d4∧∀ l',WrIs B b z (Lib.byteCells l') V→Wz B b z l' S y2 b3 d3 b4 d4 V):=fun V hV=>⟨⟨(hbox V hV).1,(hbox V hV).2.at0.2.2.1,(hbox V hV).2.at0.2.2.2.1⟩,hkid2 V hV⟩
 have HK:Hid (Kp B b w (mdW b (fa x (some ⟨g,0,none⟩) c1 a2 c2) w)):=hk0
 have q7:(((x.kind:Nat):Int)==(7:Int))=false:=kd_no hkd 7 (by decide)
 have q8:(((x.kind:Nat):Int)==(8:Int))=false:=kd_no hkd 8 (by decide)
 have q9:(((x.kind:Nat):Int)==(9:Int))=false:=kd_no hkd 9 (by decide)
 have q10:(((x.kind:Nat):Int)==(10:Int))=false:=kd_no hkd 10 (by decide)
 have q11:(((x.kind:Nat):Int)==(11:Int))=false:=kd_no hkd 11 (by decide)
 have q12:(((x.kind:Nat):Int)==(12:Int))=false:=kd_no hkd 12 (by decide)
 have q13:(((x.kind:Nat):Int)==(13:Int))=false:=kd_no hkd 13 (by decide)
 have q14:(((x.kind:Nat):Int)==(14:Int))=true:=kd_yes hkd
 have hs1:¬9223372036854775807<1+(mkB x.text).size:=by rw[mk_size];omega
 have hs2:¬9223372036854775807<(mkB (32::x.text)).size+1:=by rw[mk_size,List.length_cons];omega
 have hc1:((⟨#[32]⟩:ByteArray)++mkB x.text)=mkB (32::x.text):=cat_1 [32] x.text
 have hc2:(mkB (32::x.text)++(⟨#[32]⟩:ByteArray))=⟨(32::x.text++[32]).toArray⟩:=cat_2 [32] _
 clear h hX hk0 hbox hkid hkid2 hkd p1 ey ey2 hks
 rw[hl2]at *
 unfold mdW at *
 unfold fa at *
 go_enter Tryz.func57,Tryz.ntmps57
 go_wp2_with fail
 go_region_with (first
  |(go_at_call 86;refine HP.out.mono ?_;rintro e w1 ⟨rfl,h1,hk1,hB1⟩;obtain⟨⟨s0,s1,s2⟩,_,_⟩:=HF.out w1 hk1.un)
  |fail)
 all_goals
  have HS:Hid (Calls Tryz.prog _ _ _ _):=ws_any (w:=w1.drew) h1 hB1 (32::x.text++[32]) (by simp only[List.length_append,List.length_cons,List.length_nil];omega)
  have HK1:Hid (Kp B b (((w.alloc (.cells #[pt b] 54)).alloc (.cells #[.int .i64 x.kind,.int .i64 x.num,.string (mkB x.text),.slice (some ⟨g,0,none⟩) x.kids.length c1,.slice a2 x.names.length c2] 38))) w1):=hk1.un
  clear h1 hk1 hB1 HP
  go_wp2_with fail
  go_region_with (first
   |(go_at_call 23;refine HS.out.mono ?_;rintro e w2 ⟨rfl,h2,hk2,hB2⟩;obtain⟨⟨t0,t1,t2⟩,f,hX⟩:=HF.out w2 (HK1.out.trans hk2.un);obtain⟨g0,g1,g2,g3,g4⟩:=f.at1;clear f)
   |fail)
  all_goals
   have HP2:Hid (Calls Tryz.prog _ _ _ _):=part_w hE (hX _ h2).drew hy2 (by simp only[List.length_append,List.length_cons,List.length_nil];omega)
   have HK2:Hid (Kp B b w w2):=(HK.out.trans HK1.out).trans hk2.un
   unfold fa at HP2
   clear h2 hk2 hB2 hX HF HS HK HK1
   go_wp2_with fail
   go_region_with (first
    |(go_at_call 86;refine HP2.out.mono ?_;rintro e w3 ⟨rfl,h3,hk3,hB3⟩)
    |fail)
   all_goals
    go_wp2
    go_end0
    exact⟨rfl,h3,HK2.out.trans hk3.un,hB3⟩
end Go.Proofs.YtcaeeackccgclaaGreatDoor
namespace Go.Proofs.YtcaeeackccgclaaGreatDoor
open Go.RowKit Go.Shelf
attribute [local go_sem] mk_func2
theorem made10_w {n B b:Nat}{z:Int}{l:List UInt8}{S:Nat→Prop}{x y:Ex}{rest:List Ex}{a1 a2:Option Addr}{c1 c2:Nat}{w:World}(hE:ExW n)(h:Wz B b z l S x a1 c1 a2 c2 w)(hkd:x.kind=10)(hks:x.kids=y::rest)(hy:WfE n y)(hw:∀ e∈rest,WfE n e)(hn:x.names.length≤rest.length)(hm2:rest.length≤1000000000)(hlen:l.length+(lxB (lP (lE n) y)).length+2+(jT true ((argsL x.names rest).map fun a=>lxB (lH (lE n) a))).length≤1000000000):
  Calls Tryz.prog 57 #[pt b,.agg (fa x a1 c1 a2 c2)] w (WpO B b z (l++lxB (lP (lE n) y)++[40]++jT true ((argsL x.names rest).map fun a=>lxB (lH (lE n) a))++[41]) w):=by
 obtain⟨hk0,hX,hbox⟩:=h.two
 have hl2:x.kids.length=rest.length+1:=by rw[hks];rfl
 obtain⟨g,rfl,hcp,b1,d1,b2,d2,hkid⟩:=hX.kid 0 (by omega)
 have ey:x.kids[0]'(by omega)=y:=by simp[hks]
 rw[ey]at hkid
 obtain⟨p0,p1⟩:=hbox _ (Kp.refl _ _ _)
 obtain⟨u0,u1,u2,u3,u4⟩:=p1.at0
 obtain⟨f0,f1,f2,f3,f4⟩:=((hkid _ (Kp.refl _ _ _)).1:Five _ g 0 y b1 d1 b2 d2).at0
 have HP:Hid (Calls Tryz.prog _ _ _ _):=part_w hE ((hkid _ (Kp.refl _ _ _)).2 l hX.wr).drew hy (by omega)
 obtain⟨m,hm⟩:∃ m,m=rest.length:=⟨_,rfl⟩
 have HF0:∀ o:Nat,(m≠0→o=5)→Hid (∀ V,Kp B b (mdW b (fa x (some ⟨g,0,none⟩) c1 a2 c2) w) V→WrIs B b z (Lib.byteCells (l++lxB (lP (lE n) y))) V→(V.cell? ⟨w.heap.size,0,none⟩=some (pt b)∧V.cell? ⟨w.heap.size+1,3,none⟩=some (.slice (some ⟨g,0,none⟩) x.kids.length c1)∧V.cell? ⟨w.heap.size+1,4,none⟩=some (.slice a2 x.names.length c2))∧Calls Tryz.prog 87 #[pt b,.slice (some ⟨g,o,none⟩) m (c1-1),.slice a2 x.names.length c2] V.drew (WpO B b z (l++lxB (lP (lE n) y)++[40]++jT true ((argsL x.names rest).map fun a=>lxB (lH (lE n) a))++[41]) V.drew)):=fun o ho V hV hl=>⟨⟨(hbox V hV).1,(hbox V hV).2.at0.2.2.2.1,(hbox V hV).2.at0.2.2.2.2⟩,handed_w (cc:=c1-1) hE hks hm ho (hX.kp hV hl).drew (by omega) (by omega) hw (by rw[List.length_append];omega)⟩
 have HK:Hid (Kp B b w (mdW b (fa x (some ⟨g,0,none⟩) c1 a2 c2) w)):=hk0
 have q7:(((x.kind:Nat):Int)==(7:Int))=false:=kd_no hkd 7 (by decide)
 have q8:(((x.kind:Nat):Int)==(8:Int))=false:=kd_no hkd 8 (by decide)
 have q9:(((x.kind:Nat):Int)==(9:Int))=false:=kd_no hkd 9 (by decide)
 have q10:(((x.kind:Nat):Int)==(10:Int))=true:=kd_yes hkd
 have i0:(0:Int)<(x.kids.length:Int):=by omega
 have i1:(1:Int)≤(x.kids.length:Int):=by omega
 have i2:(x.kids.length:Int)≤(c1:Int):=by omega
 have i3:x.kids.length-1=m:=by omega
 have hm0:c1=1→m=0:=fun e=>by omega
 clear h hX hk0 hbox hkid hE hkd p1 ey hks hw hn hlen hm hl2 hcp
 by_cases hc:c1=1
 case' pos=>have HF:=HF0 0 (fun e=>absurd (hm0 hc) e);clear HF0 hm0;subst hc
 case' neg=>have HF:=HF0 5 (fun _=>rfl);clear HF0 hm0
 all_goals
  unfold mdW fa at *
  go_enter Tryz.func57,Tryz.ntmps57
  go_wp2_with fail
  go_region_with (first
   |(go_at_call 86;refine HP.out.mono ?_;rintro e w1 ⟨rfl,h1,hk1,hB1⟩;obtain⟨⟨s0,s1,s2⟩,HH⟩:=HF.out w1 hk1.un h1;clear HF HP)
   |fail)
  all_goals
   go_wp2_with fail
   go_region_with (first
    |(go_at_call 87;refine HH.mono ?_;rintro e w3 ⟨rfl,h3,hk3,hB3⟩)
    |fail)
   all_goals
    go_wp2
    go_end0
    exact⟨rfl,h3,(HK.out.trans hk1.un).trans hk3.un,hB3⟩
def foT (t:List UInt8):List UInt8:=[32,102,111,114,32]++t++[32,105,110,32]
def ifT (n:Nat):Option Ex→List UInt8
 |none=>[]
 |some y=>[32,105,102,32]++lxB (lE n y)
theorem each_w {n B b:Nat}{z:Int}{l:List UInt8}{S:Nat→Prop}{x y y1:Ex}{c:Option Ex}{a1 a2:Option Addr}{c1 c2:Nat}{w:World}(hE:ExW n)(h:Wz B b z l S x a1 c1 a2 c2 w)(hks:x.kids=y::y1::c.toList)(hw:∀ e∈x.kids,WfE n e)(hlen:l.length+(lxB (lE n y)).length+11+x.text.length+(lxB (lE n y1)).length+(ifT n c).length≤1000000000):
  Calls Tryz.prog 85 #[pt b,.agg (fa x a1 c1 a2 c2)] w (WpO B b z (l++[91]++lxB (lE n y)++foT x.text++lxB (lE n y1)++ifT n c++[93]) w):=by
 have hbl:=h.wr.lt
 obtain⟨hk0,hh,hX⟩:=h.box
 have hl2:2≤x.kids.length:=by rw[hks];simp
 obtain⟨g,rfl,_,b1,d1,b2,d2,hkid⟩:=hX.kid 0 (by omega)
 obtain⟨g',e,_,b3,d3,b4,d4,hkid2⟩:=hX.kid 1 (by omega)
 cases e
 have ey:x.kids[0]'(by omega)=y:=by simp[hks]
 have ey2:x.kids[1]'(by omega)=y1:=by simp[hks]
 rw[ey]at hkid
 rw[ey2]at hkid2
 have hy:WfE n y:=hw _ (by rw[hks];simp)
 have hy1:WfE n y1:=hw _ (by rw[hks];simp)
 have hbox:∀ V,Kp B b (w.alloc (.cells (fa x (some ⟨g,0,none⟩) c1 a2 c2) 38)) V→V.cell? ⟨w.heap.size,2,none⟩=some (.string (mkB x.text))∧V.cell? ⟨w.heap.size,3,none⟩=some (.slice (some ⟨g,0,none⟩) x.kids.length c1):=fun V hV=>⟨(five_of (hV.other hh (by omega) (by decide))).2.2.1,(five_of (hV.other hh (by omega) (by decide))).2.2.2.1⟩
 obtain⟨u2,u3⟩:=hbox _ (Kp.refl _ _ _)
 obtain⟨f0,f1,f2,f3,f4⟩:=((hkid _ (Kp.refl _ _ _)).1:Five _ g 0 y b1 d1 b2 d2).at0
 have HP:Calls Tryz.prog _ _ _ _:=before_w hE ((hkid _ (Kp.refl _ _ _)).2 l hX.wr) hy [91] (by show l.length+1+_≤_;omega)
 have HF:Hid (∀ V,Kp B b (w.alloc (.cells (fa x (some ⟨g,0,none⟩) c1 a2 c2) 38)) V→WrIs B b z (Lib.byteCells (l++[91]++lxB (lE n y))) V→(V.cell? ⟨w.heap.size,2,none⟩=some (.string (mkB x.text))∧V.cell? ⟨w.heap.size,3,none⟩=some (.slice (some ⟨g,0,none⟩) x.kids.length c1))∧Five V g 5 y1 b3 d3 b4 d4∧Calls Tryz.prog 27 #[pt b,.agg (fa y1 b3 d3 b4 d4),.string ⟨(foT x.text).toArray⟩] V.drew (WpO B b z (l++[91]++lxB (lE n y)++foT x.text++lxB (lE n y1)) V.drew)):=fun V hV hl=>⟨hbox V hV,(hkid2 V hV).1,before_w hE ((hkid2 V hV).2 _ hl).drew hy1 (foT x.text) (by simp only[foT,List.length_append,List.length_cons,List.length_nil];omega)⟩
 have HK:Hid (Kp B b w (w.alloc (.cells (fa x (some ⟨g,0,none⟩) c1 a2 c2) 38))):=hk0
 have hs1:¬9223372036854775807<5+(mkB x.text).size:=by rw[mk_size];omega
 have hs2:¬9223372036854775807<(mkB (32::102::111::114::32::x.text)).size+4:=by rw[mk_size];show ¬_<x.text.length+5+4;omega
 have hc1:((⟨#[32,102,111,114,32]⟩:ByteArray)++mkB x.text)=mkB (32::102::111::114::32::x.text):=cat_1 [32,102,111,114,32] x.text
 have hc2:(mkB (32::102::111::114::32::x.text)++(⟨#[32,105,110,32]⟩:ByteArray))=⟨(foT x.text).toArray⟩:=cat_2 [32,105,110,32] _
 have hll:(foT x.text).length=x.text.length+9:=by simp only[foT,List.length_append,List.length_cons,List.length_nil];omega
 cases c with
 |none=>
  have hl3:x.kids.length=2:=by rw[hks];rfl
  have i0:(0:Int)<(x.kids.length:Int):=by omega
  have i1:(1:Int)<(x.kids.length:Int):=by omega
  have i2:¬(2:Int)<(x.kids.length:Int):=by omega
  have HW:Hid (∀ V,WrIs B b z (Lib.byteCells (l++[91]++lxB (lE n y)++foT x.text++lxB (lE n y1))) V→B≤V.heap.size→Calls Tryz.prog 29 #[pt b,.int .u8 93] V fun e w'=>e= .returned .nilIface∧WrIs B b z (Lib.byteCells (l++[91]++lxB (lE n y)++foT x.text++lxB (lE n y1)++[]++[93])) w'∧Kp B b V w'∧B≤w'.heap.size):=fun V h1 h2=>by
   rw[List.append_nil]
   exact wb_any h1 h2 93 (by simp only[List.length_append,List.length_singleton,hll];omega)
  clear h hX hk0 hh hkid hkid2 hE ey ey2 hks hw hy hy1 hlen hll hl2 hl3
  generalize foT x.text=ft at *
  have HBx:Hid _:=hbox
  clear hbox
  unfold fa at *
  go_enter Tryz.func85,Tryz.ntmps85
  go_wp2_with fail
  refine HP.mono ?_
  rintro e w1 ⟨rfl,h1,hk1,hB1⟩
  obtain⟨⟨s2,s3⟩,f,HB⟩:=HF.out w1 hk1 h1
  obtain⟨g0,g1,g2,g3,g4⟩:=f.at1
  have HQ:Hid (∀ V,Kp B b w1 V→V.cell? ⟨w.heap.size,3,none⟩=some (.slice (some ⟨g,0,none⟩) x.kids.length c1)):=fun V hV=>(HBx.out V (hk1.trans hV)).2
  clear f HF HP h1
  go_wp2_with fail
  go_region_with (first
   |(go_at_call 27;refine HB.mono ?_;rintro e w2 ⟨rfl,h2,hk2,hB2⟩;have r3:=HQ.out w2 hk2.un;have HW2:=HW.out w2 h2 hB2;clear h2)
   |fail)
  all_goals
   go_wp2_with (go_at_call 29;refine HW2.mono ?_;rintro e w4 ⟨rfl,h4,hk4,hB4⟩)
   go_end0
   exact⟨rfl,h4,((HK.out.trans hk1).trans hk2.un).trans hk4,hB4⟩
 |some y2=>
  have hl3:x.kids.length=3:=by rw[hks];rfl
  have i0:(0:Int)<(x.kids.length:Int):=by omega
  have i1:(1:Int)<(x.kids.length:Int):=by omega
  have i2:(2:Int)<(x.kids.length:Int):=by omega
  obtain⟨g',e,_,b5,d5,b6,d6,hkid3⟩:=hX.kid 2 (by omega)
  cases e
  have ey3:x.kids[2]'(by omega)=y2:=by simp[hks]
  rw[ey3]at hkid3
  have hl4:(ifT n (some y2)).length=(lxB (lE n y2)).length+4:=by simp only[ifT,List.length_append,List.length_cons,List.length_nil];omega
  have HF3:Hid (∀ V,Kp B b (w.alloc (.cells (fa x (some ⟨g,0,none⟩) c1 a2 c2) 38)) V→WrIs B b z (Lib.byteCells (l++[91]++lxB (lE n y)++foT x.text++lxB (lE n y1))) V→V.cell? ⟨w.heap.size,3,none⟩=some (.slice (some ⟨g,0,none⟩) x.kids.length c1)∧Five V g 10 y2 b5 d5 b6 d6∧Calls Tryz.prog 27 #[pt b,.agg (fa y2 b5 d5 b6 d6),.string ⟨#[32,105,102,32]⟩] V (WpO B b z (l++[91]++lxB (lE n y)++foT x.text++lxB (lE n y1)++[32,105,102,32]++lxB (lE n y2)) V)):=fun V hV hl=>⟨(hbox V hV).2,(hkid3 V hV).1,before_w hE ((hkid3 V hV).2 _ hl) (hw _ (by rw[hks];simp)) [32,105,102,32] (by simp only[List.length_append,List.length_cons,List.length_nil,hll];omega)⟩
  have HW:Hid (∀ V,WrIs B b z (Lib.byteCells (l++[91]++lxB (lE n y)++foT x.text++lxB (lE n y1)++[32,105,102,32]++lxB (lE n y2))) V→B≤V.heap.size→Calls Tryz.prog 29 #[pt b,.int .u8 93] V fun e w'=>e= .returned .nilIface∧WrIs B b z (Lib.byteCells (l++[91]++lxB (lE n y)++foT x.text++lxB (lE n y1)++ifT n (some y2)++[93])) w'∧Kp B b V w'∧B≤w'.heap.size):=fun V h1 h2=>by
   have e:l++[91]++lxB (lE n y)++foT x.text++lxB (lE n y1)++ifT n (some y2)=l++[91]++lxB (lE n y)++foT x.text++lxB (lE n y1)++[32,105,102,32]++lxB (lE n y2):=by simp only[ifT,List.append_assoc]
   rw[e]
   exact wb_any h1 h2 93 (by simp only[List.length_append,List.length_cons,List.length_nil,hll];omega)
  have HBx:Hid _:=hbox
  clear h hX hk0 hh hkid hkid2 hkid3 hE ey ey2 ey3 hks hw hy hy1 hlen hll hl4 hbox hl2 hl3
  generalize foT x.text=ft at *
  generalize ifT n (some y2)=it at *
  unfold fa at *
  go_enter Tryz.func85,Tryz.ntmps85
  go_wp2_with fail
  refine HP.mono ?_
  rintro e w1 ⟨rfl,h1,hk1,hB1⟩
  obtain⟨⟨s2,s3⟩,f,HB⟩:=HF.out w1 hk1 h1
  obtain⟨g0,g1,g2,g3,g4⟩:=f.at1
  have HK1:Hid (Kp B b _ w1):=hk1
  clear f HF HP h1 HBx hk1
  go_wp2_with fail
  go_region_with (first
   |(go_at_call 27;refine HB.mono ?_;rintro e w2 ⟨rfl,h2,hk2,hB2⟩;obtain⟨r3,f,HB3⟩:=HF3.out w2 (HK1.out.trans hk2.un) h2;obtain⟨k0,k1,k2,k3,k4⟩:=f.at2;clear h2 f HF3)
   |fail)
  all_goals
   go_wp2_with fail
   refine HB3.mono ?_
   rintro e w3 ⟨rfl,h3,hk3,hB3⟩
   have HW3:=HW.out w3 h3 hB3
   clear h3
   go_wp2_with (go_at_call 29;refine HW3.mono ?_;rintro e w4 ⟨rfl,h4,hk4,hB4⟩)
   go_end0
   exact⟨rfl,h4,(((HK.out.trans HK1.out).trans hk2.un).trans hk3).trans hk4,hB4⟩
theorem made9_w {n B b:Nat}{z:Int}{l:List UInt8}{S:Nat→Prop}{x y y1:Ex}{c:Option Ex}{a1 a2:Option Addr}{c1 c2:Nat}{w:World}(hE:ExW n)(h:Wz B b z l S x a1 c1 a2 c2 w)(hkd:x.kind=9)(hks:x.kids=y::y1::c.toList)(hw:∀ e∈x.kids,WfE n e)(hlen:l.length+(lxB (lE n y)).length+11+x.text.length+(lxB (lE n y1)).length+(ifT n c).length≤1000000000):
  Calls Tryz.prog 57 #[pt b,.agg (fa x a1 c1 a2 c2)] w (WpO B b z (l++[91]++lxB (lE n y)++foT x.text++lxB (lE n y1)++ifT n c++[93]) w):=by
 obtain⟨hk0,hX,hbox⟩:=h.two
 obtain⟨p0,p1⟩:=hbox _ (Kp.refl _ _ _)
 obtain⟨u0,u1,u2,u3,u4⟩:=p1.at0
 have HL:=each_w hE hX hks hw hlen
 have HK:Hid (Kp B b w (mdW b (fa x a1 c1 a2 c2) w)):=hk0
 have q7:(((x.kind:Nat):Int)==(7:Int))=false:=kd_no hkd 7 (by decide)
 have q8:(((x.kind:Nat):Int)==(8:Int))=false:=kd_no hkd 8 (by decide)
 have q9:(((x.kind:Nat):Int)==(9:Int))=true:=kd_yes hkd
 clear h hX hk0 hbox hw hE hkd p1 hks
 generalize l++[91]++lxB (lE n y)++foT x.text++lxB (lE n y1)++ifT n c++[93]=out at *
 unfold mdW fa at *
 go_enter Tryz.func57,Tryz.ntmps57
 go_wp2_with fail
 refine HL.mono ?_
 rintro e w2 ⟨rfl,h2,hk2,hB2⟩
 go_wp2
 go_end0
 exact⟨rfl,h2,HK.out.trans hk2,hB2⟩
end Go.Proofs.YtcaeeackccgclaaGreatDoor
