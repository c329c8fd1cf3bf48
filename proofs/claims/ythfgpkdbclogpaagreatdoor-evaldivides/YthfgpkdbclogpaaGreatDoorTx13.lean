/- 13. -/
import Derived.Deep.RegionHeld3
import Derived.Maps.OwnSet
import Derived.RegionTactic
import Derived.Test.YthfgpkdbclogpaaGreatDoorTx12
set_option maxHeartbeats 40000000
set_option maxRecDepth 100000
namespace Go.Proofs.YthfgpkdbclogpaaGreatDoor
open Go.RowKit
abbrev LkW (w:World)(M:Nat)(name:ByteArray)(u:Value):Prop:=∀ W,Below w.heap.size w W→(Instr.lookup 46 (.map (some M)) (.string name) true).run Tryz.prog W= .ok u W
theorem named_own (wb r M1 M2 M3:Nat)(name:ByteArray)(v:Value)(w:World)(hw0:w.cell? ⟨wb,0,none⟩=some (.pointer (some ⟨r,0,none⟩)))(hw1:w.cell? ⟨wb,1,none⟩=some (.map (some M1)))(hw2:w.cell? ⟨wb,2,none⟩=some (.map (some M2)))(hr:w.cell? ⟨r,1,none⟩=some (.map (some M3)))
  (h1:LkW w M1 name (.tuple #[v,.bool true])):
  Calls Tryz.prog 176 #[.pointer (some ⟨wb,0,none⟩),.string name] w fun e w'=>e= .returned v∧Below w.heap.size w w':=by
 go_enter Tryz.func176,Tryz.ntmps176
 go_wp2_with fail
 go_region
 have HB:Below w.heap.size w (w.alloc (Obj.cells #[Value.map (some M1),Value.map (some M2),Value.map (some M3)] 46)).drew:=((Below.refl _ w).alloc (Nat.le_refl _) _).drew
 have hL:=h1 _ HB
 have c0:(w.alloc (Obj.cells #[Value.map (some M1),Value.map (some M2),Value.map (some M3)] 46)).drew.cell? ⟨w.heap.size,0,none⟩=some (.map (some M1)):=by simp[go_sem]
 generalize(w.alloc (Obj.cells #[Value.map (some M1),Value.map (some M2),Value.map (some M3)] 46)).drew=W at HB hL c0 ⊢
 go_wp2_with fail
 refine wp_loop_rounds 1 ?_
 simp only[Code.rounds]
 go_wp2
 go_ret
 exact⟨rfl,HB⟩
theorem named_in (wb r M1 M2 M3:Nat)(name:ByteArray)(v z1 z2:Value)(w:World)(hw0:w.cell? ⟨wb,0,none⟩=some (.pointer (some ⟨r,0,none⟩)))(hw1:w.cell? ⟨wb,1,none⟩=some (.map (some M1)))(hw2:w.cell? ⟨wb,2,none⟩=some (.map (some M2)))(hr:w.cell? ⟨r,1,none⟩=some (.map (some M3)))
  (h1:LkW w M1 name (.tuple #[z1,.bool false])) (h2:LkW w M2 name (.tuple #[z2,.bool false])) (h3:LkW w M3 name (.tuple #[v,.bool true])):
  Calls Tryz.prog 176 #[.pointer (some ⟨wb,0,none⟩),.string name] w fun e w'=>e= .returned v∧Below w.heap.size w w':=by
 go_enter Tryz.func176,Tryz.ntmps176
 go_wp2_with fail
 go_region
 have HB:Below w.heap.size w (w.alloc (Obj.cells #[Value.map (some M1),Value.map (some M2),Value.map (some M3)] 46)).drew:=((Below.refl _ w).alloc (Nat.le_refl _) _).drew
 have hL1:=h1 _ HB
 have hL2:=h2 _ HB
 have hL3:=h3 _ HB
 have c0:(w.alloc (Obj.cells #[Value.map (some M1),Value.map (some M2),Value.map (some M3)] 46)).drew.cell? ⟨w.heap.size,0,none⟩=some (.map (some M1)):=by simp[go_sem]
 have c1:(w.alloc (Obj.cells #[Value.map (some M1),Value.map (some M2),Value.map (some M3)] 46)).drew.cell? ⟨w.heap.size,1,none⟩=some (.map (some M2)):=by simp[go_sem]
 have c2:(w.alloc (Obj.cells #[Value.map (some M1),Value.map (some M2),Value.map (some M3)] 46)).drew.cell? ⟨w.heap.size,2,none⟩=some (.map (some M3)):=by simp[go_sem]
 generalize(w.alloc (Obj.cells #[Value.map (some M1),Value.map (some M2),Value.map (some M3)] 46)).drew=W at HB hL1 hL2 hL3 c0 c1 c2 ⊢
 go_wp2_with fail
 refine wp_loop_rounds 3 ?_
 simp only[Code.rounds]
 go_wp2
 go_ret
 exact⟨rfl,HB⟩
abbrev exV (k n:Int)(t:ByteArray)(kids names:Value):Value:= .agg #[.int .i64 k,.int .i64 n,.string t,kids,names]
structure WkAt (w:World)(wb r:Nat)(n:Int):Prop where
 lw:wb<w.heap.size
 lr:r<w.heap.size
 run:w.cell? ⟨wb,0,none⟩=some (.pointer (some ⟨r,0,none⟩))
 fuel:w.cell? ⟨r,3,none⟩=some (.int .i64 n)
 warm:w.frozen? ⟨r,3,none⟩=false
 most:n≤9007199254740991
theorem box_burn {w:World}{wb r:Nat}{n k x:Int}{t:ByteArray}{v1 v2:Value}(h:WkAt w wb r n)(hn:0<n)(W1 W2:World)(e1:W1=w.alloc (.cells #[.int .i64 k,.int .i64 x,.string t,v1,v2] 162))(e2:W2=W1.setCell ⟨r,3,none⟩ (.int .i64 (n-1))):
  W1.cell? ⟨wb,0,none⟩=some (.pointer (some ⟨r,0,none⟩))∧Calls Tryz.prog 42 #[.pointer (some ⟨r,0,none⟩)] W1 (fun e w'=>e= .returned (.tuple #[])∧w'=W2)∧Fr w.heap.size r (n-1) w W2∧W2.cell? ⟨w.heap.size,0,none⟩=some (.int .i64 k)∧W2.cell? ⟨w.heap.size,1,none⟩=some (.int .i64 x)∧W2.cell? ⟨w.heap.size,2,none⟩=some (.string t)∧W2.cell? ⟨w.heap.size,3,none⟩=some v1∧W2.cell? ⟨w.heap.size,4,none⟩=some v2:=by
 have hb:Below w.heap.size w W1:=by rw[e1];exact(Below.refl _ w).alloc (Nat.le_refl _) _
 have ha:W1.heap[w.heap.size]? =some (.cells #[.int .i64 k,.int .i64 x,.string t,v1,v2] 162 (0,0)):=by rw[e1];exact heap_alloc_new w _
 have hne:w.heap.size≠r:=Nat.ne_of_gt h.lr
 have h2:W2.heap[w.heap.size]? =some (.cells #[.int .i64 k,.int .i64 x,.string t,v1,v2] 162 (0,0)):=by rw[e2,Below.heap_setCell _ _ _ _ hne];exact ha
 refine⟨(hb.cell (p:=⟨wb,0,none⟩) h.lw).trans h.run,?_,?_,?_,?_,?_,?_,?_⟩
 ·rw[e2]
  exact burn_any r n hn h.most W1 ((hb.cell (p:=⟨r,3,none⟩) h.lr).trans h.fuel) ((hb.frozen (p:=⟨r,3,none⟩) h.lr).trans h.warm)
 ·have hs:=hb.size
  refine⟨by rw[e2];exact hb.os,by rw[e2];exact hb.tape,by rw[e2];exact hb.output,by rw[e2];simpa[World.setCell]using hs,fun i hi=>?_⟩
  by_cases he:i=r
  ·subst he
   rw[e2]
   simp only[World.setCell,Array.getElem?_modify,if_true,hb.block i hi]
  ·rw[e2,Below.heap_setCell _ _ _ _ he,Below.heap_setCell _ _ _ _ he]
   exact hb.block i hi
 all_goals simp[World.cell?,h2]
theorem reckon_int {wb r:Nat}{n x:Int}{t:ByteArray}{a1 a2:Option Addr}{n1 c1 n2 c2:Nat}{w:World}(h:WkAt w wb r n)(hn:0<n):
  Calls Tryz.prog 141 #[.pointer (some ⟨wb,0,none⟩),exV 4 x t (.slice a1 n1 c1) (.slice a2 n2 c2)] w fun e w'=>e= .returned (nmV x)∧Fr w.heap.size r (n-1) w w':=by
 obtain⟨hw,HB,HF,f0,f1,f2,f3,f4⟩:=box_burn h hn _ _ rfl rfl (k:=4) (x:=x) (t:=t) (v1:= .slice a1 n1 c1) (v2:= .slice a2 n2 c2)
 go_enter Tryz.func141,Tryz.ntmps141
 go_wp2_with fail
 refine HB.mono ?_
 rintro e w' ⟨rfl,rfl⟩
 go_wp2
 go_ret
 exact⟨rfl,HF⟩
end Go.Proofs.YthfgpkdbclogpaaGreatDoor
namespace Go.Proofs.YthfgpkdbclogpaaGreatDoor
open Go.RowKit
attribute [local go_sem] ta_nm
theorem Fr.size {B r:Nat}{n:Int}{w w':World}(h:Fr B r n w w'):w.heap.size≤w'.heap.size:=by
 have h1:=Below.size h
 simpa[World.setCell]using h1
def Rk (w:World)(wb r:Nat)(x:Value)(n m:Int)(v:Value):Prop:=
 ∀ W,Fr w.heap.size r n w W→Calls Tryz.prog 141 #[.pointer (some ⟨wb,0,none⟩),x] W fun e w'=>e= .returned v∧Fr W.heap.size r m W w'
theorem reckon_text {wb r:Nat}{n x:Int}{t:ByteArray}{a1 a2:Option Addr}{n1 c1 n2 c2:Nat}{w:World}(h:WkAt w wb r n)(hn:0<n):
  Calls Tryz.prog 141 #[.pointer (some ⟨wb,0,none⟩),exV 5 x t (.slice a1 n1 c1) (.slice a2 n2 c2)] w fun e w'=>e= .returned (txV t)∧Fr w.heap.size r (n-1) w w':=by
 obtain⟨hw,HB,HF,f0,f1,f2,f3,f4⟩:=box_burn h hn _ _ rfl rfl (k:=5) (x:=x) (t:=t) (v1:= .slice a1 n1 c1) (v2:= .slice a2 n2 c2)
 go_enter Tryz.func141,Tryz.ntmps141
 go_wp2_with fail
 refine HB.mono ?_
 rintro e w' ⟨rfl,rfl⟩
 go_wp2
 go_ret
 exact⟨rfl,HF⟩
theorem reckon_name {wb r:Nat}{n x:Int}{t:ByteArray}{v:Value}{a1 a2:Option Addr}{n1 c1 n2 c2:Nat}{w:World}(h:WkAt w wb r n)(hn:0<n)
  (HN:∀ W,Fr w.heap.size r (n-1) w W→Calls Tryz.prog 176 #[.pointer (some ⟨wb,0,none⟩),.string t] W fun e w'=>e= .returned v∧Below W.heap.size W w'):
  Calls Tryz.prog 141 #[.pointer (some ⟨wb,0,none⟩),exV 6 x t (.slice a1 n1 c1) (.slice a2 n2 c2)] w fun e w'=>e= .returned v∧Fr w.heap.size r (n-1) w w':=by
 obtain⟨hw,HB,HF,f0,f1,f2,f3,f4⟩:=box_burn h hn _ _ rfl rfl (k:=6) (x:=x) (t:=t) (v1:= .slice a1 n1 c1) (v2:= .slice a2 n2 c2)
 have HC:=HN _ HF
 go_enter Tryz.func141,Tryz.ntmps141
 go_wp2_with fail
 refine HB.mono ?_
 rintro e w' ⟨rfl,rfl⟩
 go_wp2_with fail
 refine HC.mono ?_
 rintro e w' ⟨rfl,hb⟩
 go_wp2
 go_ret
 exact⟨rfl,HF.below (hb.mono HF.size)⟩
structure KidAt (w:World)(r g o:Nat)(k x:Int)(t:ByteArray)(v1 v2:Value):Prop where
 lg:g<w.heap.size
 ng:g≠r
 c0:w.cell? ⟨g,o,none⟩=some (.int .i64 k)
 c1:w.cell? ⟨g,o+1,none⟩=some (.int .i64 x)
 c2:w.cell? ⟨g,o+2,none⟩=some (.string t)
 c3:w.cell? ⟨g,o+3,none⟩=some v1
 c4:w.cell? ⟨g,o+4,none⟩=some v2
theorem KidAt.fr {w W:World}{r g o:Nat}{k x:Int}{t:ByteArray}{v1 v2:Value}{n:Int}(h:KidAt w r g o k x t v1 v2)(f:Fr w.heap.size r n w W):KidAt W r g o k x t v1 v2:=
 ⟨Nat.lt_of_lt_of_le h.lg f.size,h.ng,(f.other (p:=⟨g,o,none⟩) h.lg h.ng).trans h.c0,(f.other (p:=⟨g,o+1,none⟩) h.lg h.ng).trans h.c1,(f.other (p:=⟨g,o+2,none⟩) h.lg h.ng).trans h.c2,(f.other (p:=⟨g,o+3,none⟩) h.lg h.ng).trans h.c3,(f.other (p:=⟨g,o+4,none⟩) h.lg h.ng).trans h.c4⟩
theorem reckon_minus {wb r g:Nat}{n m x y k' x':Int}{t t':ByteArray}{b1 b2 a2:Option Addr}{e1 d1 e2 d2 c1 n2 c2:Nat}{w:World}{c:Array Value}(h:WkAt w wb r n)(hr:RAt w r c)(hn:0<n)(hy1:-9007199254740991≤y)(hy2:y≤9007199254740991)
  (hk:KidAt w r g 0 k' x' t' (.slice b1 e1 d1) (.slice b2 e2 d2))
  (HK:Rk w wb r (exV k' x' t' (.slice b1 e1 d1) (.slice b2 e2 d2)) (n-1) m (nmV y)):
  Calls Tryz.prog 141 #[.pointer (some ⟨wb,0,none⟩),exV 13 x t (.slice (some ⟨g,0,none⟩) 1 c1) (.slice a2 n2 c2)] w fun e w'=>e= .returned (nmV (-y))∧Fr w.heap.size r m w w':=by
 obtain⟨hw,HB,HF,f0,f1,f2,f3,f4⟩:=box_burn h hn _ _ rfl rfl (k:=13) (x:=x) (t:=t) (v1:= .slice (some ⟨g,0,none⟩) 1 c1) (v2:= .slice a2 n2 c2)
 have HC:=HK _ HF
 have HI:=fun W=>asInt_any y W
 have wy:RowKit.wrap64 (-y)=-y:=by unfold RowKit.wrap64;omega
 obtain⟨-,-,k0,k1,k2,k3,k4⟩:=hk.fr HF
 simp only[Nat.zero_add]at k1 k2 k3 k4
 go_enter Tryz.func141,Tryz.ntmps141
 go_wp2_with fail
 refine HB.mono ?_
 rintro e w' ⟨rfl,rfl⟩
 go_wp2_with fail
 refine HC.mono ?_
 rintro e w' ⟨rfl,hb⟩
 go_wp2_with fail
 refine(HI w').mono ?_
 rintro e w2 ⟨rfl,rfl⟩
 go_wp2
 go_ret
 exact⟨rfl,HF.trans h.lr hr (Below.mono hb HF.size)⟩
end Go.Proofs.YthfgpkdbclogpaaGreatDoor
namespace Go.Proofs.YthfgpkdbclogpaaGreatDoor
open Go.RowKit
theorem Fr.same {B r:Nat}{n:Int}{w W:World}{c:Array Value}(hc:RAt w r c)(hf:w.cell? ⟨r,3,none⟩=some (.int .i64 n))(h:Below B w W):Fr B r n w W:=by
 have h3:c[3]? =some (.int .i64 n):=by simpa[World.cell?,hc]using hf
 have hs:c.setIfInBounds 3 (.int .i64 n)=c:=by
  obtain⟨hl,he⟩:=Array.getElem?_eq_some_iff.mp h3
  rw[Array.setIfInBounds,dif_pos hl,←he];simp
 refine⟨h.os,h.tape,h.output,by simpa[World.setCell]using h.size,fun i hi=>?_⟩
 by_cases he:i=r
 ·subst he
  rw[h.block i hi,heap_setCell_same w i 3 c 52 _ hc,hs,hc]
 ·rw[h.block i hi,Below.heap_setCell _ _ _ _ he]
theorem Fr.run {B r k:Nat}{n:Int}{w W:World}(h:Fr B r n w W)(hr:r<B)(hk:k≠3):W.cell? ⟨r,k,none⟩=w.cell? ⟨r,k,none⟩:=by
 rw[Below.cell h (p:=⟨r,k,none⟩) hr,World.cell?_setCell_other]
 intro e
 simp at e
theorem binary_any {wb r g S f:Nat}{n m1 m2 m3 x ka xa kb xb:Int}{t ta tb:ByteArray}{va vb v:Value}{p1 p2 q1 q2 a2:Option Addr}{g1 g2 g3 g4 h1 h2 h3 h4 c1 n2 c2:Nat}{w:World}{c:Array Value}
  (h:WkAt w wb r n) (hr:RAt w r c) (hwr:wb≠r) (hS:w.cell? ⟨r,2,none⟩=some (.map (some S)))
  (hk1:KidAt w r g 0 ka xa ta (.slice p1 g1 h1) (.slice p2 g2 h2)) (hk2:KidAt w r g 5 kb xb tb (.slice q1 g3 h3) (.slice q2 g4 h4))
  (ht1:¬t.toList=[111,114]) (ht2:¬t.toList=[97,110,100])
  (HK1:Rk w wb r (exV ka xa ta (.slice p1 g1 h1) (.slice p2 g2 h2)) n m1 va) (HK2:Rk w wb r (exV kb xb tb (.slice q1 g3 h3) (.slice q2 g4 h4)) m1 m2 vb)
  (HL:∀ k W,Fr w.heap.size r k w W→(Instr.lookup 50 (.map (some S)) (.string t) false).run Tryz.prog W= .ok (.func (.func f) #[] #[]) W)
  (HE:∀ args W,(callFunc f args).run Tryz.prog W= .ok (.enter f args) W)
  (HS:∀ W,Fr w.heap.size r m2 w W→Calls Tryz.prog f #[va,vb] W fun e w'=>e= .returned v∧Fr W.heap.size r m3 W w'):
  Calls Tryz.prog 182 #[.pointer (some ⟨wb,0,none⟩),exV 14 x t (.slice (some ⟨g,0,none⟩) 2 c1) (.slice a2 n2 c2)] w fun e w'=>e= .returned v∧Fr w.heap.size r m3 w w':=by
 obtain⟨W1,e1⟩:∃ W1,W1=w.alloc (.cells #[.int .i64 14,.int .i64 x,.string t,.slice (some ⟨g,0,none⟩) 2 c1,.slice a2 n2 c2] 162):=⟨_,rfl⟩
 have hb1:Below w.heap.size w W1:=by rw[e1];exact(Below.refl _ w).alloc (Nat.le_refl _) _
 have F1:Fr w.heap.size r n w W1:=Fr.same hr h.fuel hb1
 obtain⟨-,-,k0,k1,k2,k3,k4⟩:=hk1.fr F1
 simp only[Nat.zero_add]at k1 k2 k3 k4
 have HC1:=HK1 _ F1
 have hbox:W1.heap[w.heap.size]? =some (.cells #[.int .i64 14,.int .i64 x,.string t,.slice (some ⟨g,0,none⟩) 2 c1,.slice a2 n2 c2] 162 (0,0)):=by rw[e1];exact heap_alloc_new w _
 have hlt:w.heap.size<W1.heap.size:=by rw[e1];simp
 have hne:w.heap.size≠r:=Nat.ne_of_gt h.lr
 have HX:∀ {W2:World} {k:Int},Fr W1.heap.size r k W1 W2→Fr w.heap.size r k w W2∧W2.cell? ⟨w.heap.size,2,none⟩=some (.string t)∧W2.cell? ⟨w.heap.size,3,none⟩=some (.slice (some ⟨g,0,none⟩) 2 c1)∧W2.cell? ⟨wb,0,none⟩=some (.pointer (some ⟨r,0,none⟩))∧W2.cell? ⟨r,2,none⟩=some (.map (some S)):=by
  intro W2 k f
  have f':=F1.trans h.lr hr (Below.mono f (Nat.le_of_lt hlt))
  refine⟨f',?_,?_,?_,?_⟩
  ·rw[f.other (p:=⟨w.heap.size,2,none⟩) hlt hne];simp[World.cell?,hbox]
  ·rw[f.other (p:=⟨w.heap.size,3,none⟩) hlt hne];simp[World.cell?,hbox]
  ·rw[f'.other (p:=⟨wb,0,none⟩) h.lw hwr];exact h.run
  ·rw[f'.run h.lr (by omega)];exact hS
 have HT:∀ {A B:World} {k l:Int},Fr W1.heap.size r k W1 A→Fr A.heap.size r l A B→Fr W1.heap.size r l W1 B:=fun f u=>Fr.trans (Nat.lt_trans h.lr hlt) (F1.at h.lr hr) f (Below.mono u (Fr.size f))
 subst e1
 go_enter Tryz.func182,Tryz.ntmps182
 go_wp2_with fail
 refine HC1.mono ?_
 rintro e W2 ⟨rfl,hb⟩
 obtain⟨F2,y2,y3,y4,y5⟩:=HX hb
 obtain⟨-,-,j0,j1,j2,j3,j4⟩:=hk2.fr F2
 simp only[Nat.reduceAdd]at j0 j1 j2 j3 j4
 have F2d:Fr w.heap.size r m1 w W2.drew:=F2.below (Below.refl _ W2).drew
 have HC2:=HK2 _ F2d
 have HLk:=HL _ _ F2d
 have f2d:=Fr.below hb (Below.refl _ W2).drew
 clear hk1 HK1 HC1 hbox k0 k1 k2 k3 k4
 clear HK2
 go_wp2_with fail
 go_region_held3 (fun W=>W.cell? ⟨w.heap.size,2,none⟩=some (.string t)∧W.cell? ⟨w.heap.size,3,none⟩=some (.slice (some ⟨g,0,none⟩) 2 c1)∧W.cell? ⟨wb,0,none⟩=some (.pointer (some ⟨r,0,none⟩))∧W.cell? ⟨r,2,none⟩=some (.map (some S))∧W.cell? ⟨g,5,none⟩=some (.int .i64 kb)∧W.cell? ⟨g,6,none⟩=some (.int .i64 xb)∧W.cell? ⟨g,7,none⟩=some (.string tb)∧W.cell? ⟨g,8,none⟩=some (.slice q1 g3 h3)∧W.cell? ⟨g,9,none⟩=some (.slice q2 g4 h4)∧(Instr.lookup 50 (.map (some S)) (.string t) false).run Tryz.prog W= .ok (.func (.func f) #[] #[]) W)
  (first|(simp[go_sem, *];done)|(go_split_ands;constructor<;>assumption))
  (first
   |(go_at_call_of 141 (Value.pointer (some ⟨wb,0,none⟩));refine HC2.mono ?_;rintro e W3 ⟨rfl,hb3⟩;have f3:=HT f2d hb3;obtain⟨F3,z2,z3,z4,z5⟩:=HX f3;have HL3:=HL _ _ F3;have HS3:=HS _ F3;obtain⟨-,-,i0,i1,i2,i3,i4⟩:=hk2.fr F3;simp only[Nat.reduceAdd]at i0 i1 i2 i3 i4)
   |(refine HS3.mono ?_;rintro e W4 ⟨rfl,hb4⟩;have f4:=HT f3 hb4;obtain⟨F4,u2,u3,u4,u5⟩:=HX f4;have HL4:=HL _ _ F4;obtain⟨-,-,l0,l1,l2,l3,l4⟩:=hk2.fr F4;simp only[Nat.reduceAdd]at l0 l1 l2 l3 l4))
 all_goals go_wp2
 all_goals go_ret
 all_goals exact⟨rfl,F4⟩
theorem binary_cap {wb r g S f:Nat}{n m1 m2 m3 x ka xa kb xb:Int}{t ta tb:ByteArray}{va vb v u:Value}{p1 p2 q1 q2 a2:Option Addr}{g1 g2 g3 g4 h1 h2 h3 h4 c1 n2 c2:Nat}{w:World}{c:Array Value}
  (h:WkAt w wb r n) (hr:RAt w r c) (hwr:wb≠r) (hS:w.cell? ⟨r,2,none⟩=some (.map (some S)))
  (hk1:KidAt w r g 0 ka xa ta (.slice p1 g1 h1) (.slice p2 g2 h2)) (hk2:KidAt w r g 5 kb xb tb (.slice q1 g3 h3) (.slice q2 g4 h4))
  (ht1:¬t.toList=[111,114]) (ht2:¬t.toList=[97,110,100])
  (HK1:Rk w wb r (exV ka xa ta (.slice p1 g1 h1) (.slice p2 g2 h2)) n m1 va) (HK2:Rk w wb r (exV kb xb tb (.slice q1 g3 h3) (.slice q2 g4 h4)) m1 m2 vb)
  (HL:∀ k W,Fr w.heap.size r k w W→(Instr.lookup 50 (.map (some S)) (.string t) false).run Tryz.prog W= .ok (.func (.func f) #[] #[u]) W)
  (HE:∀ args W,(callFunc f args).run Tryz.prog W= .ok (.enter f args) W)
  (HS:∀ W,Fr w.heap.size r m2 w W→Calls Tryz.prog f #[va,vb,u] W fun e w'=>e= .returned v∧Fr W.heap.size r m3 W w'):
  Calls Tryz.prog 182 #[.pointer (some ⟨wb,0,none⟩),exV 14 x t (.slice (some ⟨g,0,none⟩) 2 c1) (.slice a2 n2 c2)] w fun e w'=>e= .returned v∧Fr w.heap.size r m3 w w':=by
 obtain⟨W1,e1⟩:∃ W1,W1=w.alloc (.cells #[.int .i64 14,.int .i64 x,.string t,.slice (some ⟨g,0,none⟩) 2 c1,.slice a2 n2 c2] 162):=⟨_,rfl⟩
 have hb1:Below w.heap.size w W1:=by rw[e1];exact(Below.refl _ w).alloc (Nat.le_refl _) _
 have F1:Fr w.heap.size r n w W1:=Fr.same hr h.fuel hb1
 obtain⟨-,-,k0,k1,k2,k3,k4⟩:=hk1.fr F1
 simp only[Nat.zero_add]at k1 k2 k3 k4
 have HC1:=HK1 _ F1
 have hbox:W1.heap[w.heap.size]? =some (.cells #[.int .i64 14,.int .i64 x,.string t,.slice (some ⟨g,0,none⟩) 2 c1,.slice a2 n2 c2] 162 (0,0)):=by rw[e1];exact heap_alloc_new w _
 have hlt:w.heap.size<W1.heap.size:=by rw[e1];simp
 have hne:w.heap.size≠r:=Nat.ne_of_gt h.lr
 have HX:∀ {W2:World} {k:Int},Fr W1.heap.size r k W1 W2→Fr w.heap.size r k w W2∧W2.cell? ⟨w.heap.size,2,none⟩=some (.string t)∧W2.cell? ⟨w.heap.size,3,none⟩=some (.slice (some ⟨g,0,none⟩) 2 c1)∧W2.cell? ⟨wb,0,none⟩=some (.pointer (some ⟨r,0,none⟩))∧W2.cell? ⟨r,2,none⟩=some (.map (some S)):=by
  intro W2 k f
  have f':=F1.trans h.lr hr (Below.mono f (Nat.le_of_lt hlt))
  refine⟨f',?_,?_,?_,?_⟩
  ·rw[f.other (p:=⟨w.heap.size,2,none⟩) hlt hne];simp[World.cell?,hbox]
  ·rw[f.other (p:=⟨w.heap.size,3,none⟩) hlt hne];simp[World.cell?,hbox]
  ·rw[f'.other (p:=⟨wb,0,none⟩) h.lw hwr];exact h.run
  ·rw[f'.run h.lr (by omega)];exact hS
 have HT:∀ {A B:World} {k l:Int},Fr W1.heap.size r k W1 A→Fr A.heap.size r l A B→Fr W1.heap.size r l W1 B:=fun f u=>Fr.trans (Nat.lt_trans h.lr hlt) (F1.at h.lr hr) f (Below.mono u (Fr.size f))
 subst e1
 go_enter Tryz.func182,Tryz.ntmps182
 go_wp2_with fail
 refine HC1.mono ?_
 rintro e W2 ⟨rfl,hb⟩
 obtain⟨F2,y2,y3,y4,y5⟩:=HX hb
 obtain⟨-,-,j0,j1,j2,j3,j4⟩:=hk2.fr F2
 simp only[Nat.reduceAdd]at j0 j1 j2 j3 j4
 have F2d:Fr w.heap.size r m1 w W2.drew:=F2.below (Below.refl _ W2).drew
 have HC2:=HK2 _ F2d
 have HLk:=HL _ _ F2d
 have f2d:=Fr.below hb (Below.refl _ W2).drew
 clear hk1 HK1 HC1 hbox k0 k1 k2 k3 k4
 clear HK2
 go_wp2_with fail
 go_region_held3 (fun W=>W.cell? ⟨w.heap.size,2,none⟩=some (.string t)∧W.cell? ⟨w.heap.size,3,none⟩=some (.slice (some ⟨g,0,none⟩) 2 c1)∧W.cell? ⟨wb,0,none⟩=some (.pointer (some ⟨r,0,none⟩))∧W.cell? ⟨r,2,none⟩=some (.map (some S))∧W.cell? ⟨g,5,none⟩=some (.int .i64 kb)∧W.cell? ⟨g,6,none⟩=some (.int .i64 xb)∧W.cell? ⟨g,7,none⟩=some (.string tb)∧W.cell? ⟨g,8,none⟩=some (.slice q1 g3 h3)∧W.cell? ⟨g,9,none⟩=some (.slice q2 g4 h4)∧(Instr.lookup 50 (.map (some S)) (.string t) false).run Tryz.prog W= .ok (.func (.func f) #[] #[u]) W)
  (first|(simp[go_sem, *];done)|(go_split_ands;constructor<;>assumption))
  (first
   |(go_at_call_of 141 (Value.pointer (some ⟨wb,0,none⟩));refine HC2.mono ?_;rintro e W3 ⟨rfl,hb3⟩;have f3:=HT f2d hb3;obtain⟨F3,z2,z3,z4,z5⟩:=HX f3;have HL3:=HL _ _ F3;have HS3:=HS _ F3;obtain⟨-,-,i0,i1,i2,i3,i4⟩:=hk2.fr F3;simp only[Nat.reduceAdd]at i0 i1 i2 i3 i4)
   |(refine HS3.mono ?_;rintro e W4 ⟨rfl,hb4⟩;have f4:=HT f3 hb4;obtain⟨F4,u2,u3,u4,u5⟩:=HX f4;have HL4:=HL _ _ F4;obtain⟨-,-,l0,l1,l2,l3,l4⟩:=hk2.fr F4;simp only[Nat.reduceAdd]at l0 l1 l2 l3 l4))
 all_goals go_wp2
 all_goals go_ret
 all_goals exact⟨rfl,F4⟩
end Go.Proofs.YthfgpkdbclogpaaGreatDoor
namespace Go.Proofs.YthfgpkdbclogpaaGreatDoor
open Go.RowKit Go.Maps Go.WideMaps
abbrev rdV (v:Value):Option (DataW Value×List MemPlace):=some (.held v,[])
theorem lawT:Keyed Tryz.prog 9:=string_keyed Tryz.underlying9
abbrev klT (d:ByteArray):Lit:= .string d.data.toList
theorem omapV {w w':World}{b n:Nat}{D:DataW Value}(h:w.ownsMap Tryz.prog 9 rdV b n D)(hh:w'.heap[b]? =w.heap[b]?):w'.ownsMap Tryz.prog 9 rdV b n D:=by
 obtain⟨es,clock,hb,rest⟩:=h
 exact⟨es,clock,hh.trans hb,rest⟩
theorem zeroV (w:World):(zeroValue 74).run Tryz.prog w= .ok .nilIface w:=by kernel_rfl
theorem held_inj {a b:Value}(h:(DataW.held a:DataW Value)= .held b):a=b:=by injection h
def dE:List (List UInt8×Value)→DataW Value
 |[]=>.map []
 |p::E=>(dE E).put (.string p.1) (.held p.2)
def lkE:List (List UInt8×Value)→List UInt8→Option Value
 |[],_=>none
 |p::E,s=>if s=p.1 then some p.2 else lkE E s
abbrev MV (w:World)(M k:Nat)(E:List (List UInt8×Value)):Prop:=w.ownsMap Tryz.prog 9 rdV M k (dE E)
theorem dE_map:∀ E,IsMap (dE E)
 |[]=>isMap_empty
 |_::E=>(dE_map E).put _ _
theorem dE_has (s:List UInt8):∀ E,Maps.has (dE E) (.string s)=(lkE E s).isSome
 |[]=>rfl
 |p::E=>by
  by_cases hx:s=p.1
  ·show Maps.has ((dE E).put (.string p.1) (.held p.2)) (.string s)=(if s=p.1 then _ else _:Option Value).isSome
   rw[if_pos hx,hx,has_put_same (dE_map E) (show WideAt.IsKeyLit (Lit.string p.1)from trivial)]
   rfl
  ·show Maps.has ((dE E).put (.string p.1) (.held p.2)) (.string s)=(if s=p.1 then _ else _:Option Value).isSome
   rw[if_neg hx,has_put_other (fun q=>hx (by injection q)),dE_has s E]
theorem dE_at (s:List UInt8)(z:Value):∀ E,(dE E).atKey (.string s) (.held z)= .held ((lkE E s).getD z)
 |[]=>rfl
 |p::E=>by
  by_cases hx:s=p.1
  ·show((dE E).put (.string p.1) (.held p.2)).atKey (.string s) (.held z)= .held ((if s=p.1 then _ else _:Option Value).getD z)
   rw[if_pos hx,hx,atKey_put_same (dE_map E) (show WideAt.IsKeyLit (Lit.string p.1)from trivial)]
   rfl
  ·show((dE E).put (.string p.1) (.held p.2)).atKey (.string s) (.held z)= .held ((if s=p.1 then _ else _:Option Value).getD z)
   rw[if_neg hx,atKey_put_other (fun q=>hx (by injection q)),dE_at s z E]
theorem MV.made (w:World):MV (w.alloc (.map #[] 0)) w.heap.size 0 []:=World.ownsMap_made w _ _ _
theorem key_of {s:ByteArray}(hs:s.size≤maxLen):keyOf Tryz.prog 9 (.string s)=some (klT s):=keyOf_string_mk Tryz.underlying9 hs
section
variable {w:World} {M k:Nat} {E:List (List UInt8×Value)}
theorem MV.look (h:MV w M k E){t e:TypeId}(ht:Tryz.prog.underlying t=some (.map 9 e)){z:Value}(hz:(zeroValue e).run Tryz.prog w= .ok z w){s:ByteArray}(hs:s.size≤maxLen):
  (Instr.lookup t (.map (some M)) (.string s) true).run Tryz.prog w= .ok (.tuple #[(lkE E s.data.toList).getD z,.bool (lkE E s.data.toList).isSome]) w:=by
 obtain⟨v,ps,hr,hv⟩:=World.ownsMap.look_ok h lawT ht hz (zd:= .held z) (zp:=[]) rfl (key_of hs)
 rw[dE_has]at hr
 rw[dE_at]at hv
 have:=held_inj (Prod.mk.inj (Option.some.inj hv)).1
 rw[this]at hr
 exact hr
theorem MV.look1 (h:MV w M k E){t e:TypeId}(ht:Tryz.prog.underlying t=some (.map 9 e)){z:Value}(hz:(zeroValue e).run Tryz.prog w= .ok z w){s:ByteArray}(hs:s.size≤maxLen):
  (Instr.lookup t (.map (some M)) (.string s) false).run Tryz.prog w= .ok ((lkE E s.data.toList).getD z) w:=by
 obtain⟨v,ps,hr,hv⟩:=World.ownsMap.lookup h lawT ht hz (zd:= .held z) (zp:=[]) rfl (key_of hs)
 rw[dE_at]at hv
 have:=held_inj (Prod.mk.inj (Option.some.inj hv)).1
 rw[this]at hr
 exact hr
theorem MV.put (h:MV w M k E){t e:TypeId}(ht:Tryz.prog.underlying t=some (.map 9 e))(hn:k<maxLen){s:ByteArray}(hs:s.size≤maxLen)(v:Value):
  ∃ w',(Instr.mapUpdate t (.map (some M)) (.string s) v).run Tryz.prog w= .ok () w'∧MV w' M (k+1) ((s.data.toList,v)::E)∧w.mapTurned w' M:=
 World.ownsMap.store h lawT ht hn (key_of hs) (val:=v) (d:= .held v) (ps:=[]) rfl
end
end Go.Proofs.YthfgpkdbclogpaaGreatDoor
namespace Go.Proofs.YthfgpkdbclogpaaGreatDoor
open Go.RowKit
section
variable {P:Program} {ops:Array Oper} {Q:Exit→Act→World→Prop} {md:Region.Mode}
def cntU (L:Array Bool):Nat→Nat
 |0=>0
 |n+1=>cntU L n+(if L.getD n true=true then 0 else 1)
theorem getD_set (L:Array Bool)(i j:Nat)(d:Bool):(L.setIfInBounds i true).getD j d=if j=i∧j<L.size then true else L.getD j d:=by
 by_cases hj:j<L.size
 ·by_cases he:j=i
  ·subst he
   simp[hj,Array.getD]
  ·have:¬i=j:=fun e=>he e.symm
   simp[hj,he,this,Array.getD]
 ·simp[hj,Array.getD]
theorem cntU_le (L:Array Bool)(i:Nat):∀ n,cntU (L.setIfInBounds i true) n≤cntU L n
 |0=>Nat.le_refl _
 |n+1=>by
  have h:=cntU_le L i n
  have h1:(if(L.setIfInBounds i true).getD n true=true then 0 else 1)≤(if L.getD n true=true then 0 else 1):=by
   rw[getD_set]
   by_cases h2:n=i∧n<L.size
   ·rw[if_pos h2];simp
   ·rw[if_neg h2];exact Nat.le_refl _
  show cntU (L.setIfInBounds i true) n+_≤cntU L n+_
  omega
theorem cntU_lt (L:Array Bool)(i:Nat)(hi:i<L.size)(hu:L.getD i true=false):∀ n,i<n→cntU (L.setIfInBounds i true) n+1≤cntU L n
 |0,h=>absurd h (Nat.not_lt_zero _)
 |n+1,h=>by
  show cntU (L.setIfInBounds i true) n+(if(L.setIfInBounds i true).getD n true=true then 0 else 1)+1≤cntU L n+(if L.getD n true=true then 0 else 1)
  have hg:=getD_set L i n true
  by_cases he:n=i
  ·subst he
   have h2:=cntU_le L n n
   rw[if_pos ⟨rfl,hi⟩]at hg
   rw[hg,hu]
   simp
   omega
  ·have h2:=cntU_lt L i hi hu n (by omega)
   rw[if_neg (fun e=>he e.1)]at hg
   rw[hg]
   omega
theorem cntU_0 (L:Array Bool):∀ n,cntU L n=0→∀ i,i<n→L.getD i true=true
 |0,_,i,h=>absurd h (Nat.not_lt_zero _)
 |n+1,h,i,hi=>by
  have h':cntU L n+(if L.getD n true=true then 0 else 1)=0:=h
  by_cases he:i=n
  ·subst he
   by_cases hx:L.getD i true=true
   ·exact hx
   ·rw[if_neg hx]at h';omega
  ·exact cntU_0 L n (by omega) i (by omega)
theorem ready_in {L:Array Bool}{i:Nat}(h:i∈Region.ready md ops L):∃ o,i<ops.size∧ops[i]? =some o∧L.getD i true=false∧∀ e∈o.after,Region.binds md e=true→L.getD e.on false=true:=by
 unfold Region.ready at h
 rw[List.mem_filter,List.mem_range,Bool.and_eq_true]at h
 obtain⟨h1,h2,h3⟩:=h
 obtain⟨o,ho⟩:∃ o,ops[i]? =some o:=⟨_,Array.getElem?_eq_getElem h1⟩
 rw[ho]at h3
 refine⟨o,h1,ho,by simpa using h2,fun e he hb=>?_⟩
 have h4:(o.after.all fun e=>!Region.binds md e||L.getD e.on false)=true:=h3
 have h5:=Array.all_eq_true'.1 h4 e he
 rw[hb]at h5
 simpa using h5
theorem ready_nil {L:Array Bool}(hL:L.size=ops.size)(hw:∀ (i:Nat) (o:Oper),ops[i]? =some o→∀ e∈o.after,e.on<i)(h:Region.ready md ops L=[]):∀ n i,i<n→i<ops.size→L.getD i true=true
 |0,i,hn,_=>absurd hn (Nat.not_lt_zero _)
 |n+1,i,hn,hi=>by
  have ih:=ready_nil hL hw h n
  by_cases hx:L.getD i true=true
  ·exact hx
  ·exfalso
   obtain⟨o,ho⟩:∃ o,ops[i]? =some o:=⟨_,Array.getElem?_eq_getElem hi⟩
   have:i∈Region.ready md ops L:=by
    unfold Region.ready
    rw[List.mem_filter,List.mem_range,Bool.and_eq_true]
    refine⟨hi,by simpa using hx,?_⟩
    rw[ho]
    show(o.after.all fun e=>!Region.binds md e||L.getD e.on false)=true
    rw[Array.all_eq_true']
    intro e he
    have h1:=hw i o ho e he
    have h2:=ih e.on (by omega) (by omega)
    have h3:L.getD e.on false=true:=by
     have hs:e.on<L.size:=by omega
     simpa[Array.getD,hs]using h2
    rw[h3]
    simp
   rw[h]at this
   cases this
def Clo (ops:Array Oper)(md:Region.Mode)(L:Array Bool):Prop:=∀ (i:Nat) (o:Oper),ops[i]? =some o→L.getD i false=true→∀ e∈o.after,Region.binds md e=true→L.getD e.on false=true
theorem not_both {L:Array Bool}{i:Nat}(h:L.getD i true=false)(k:L.getD i false=true):False:=by
 by_cases hi:i<L.size
 ·simp[Array.getD,hi]at h k
  rw[h]at k
  cases k
 ·simp[Array.getD,hi]at h
theorem Clo.set {L:Array Bool}{i:Nat}{o:Oper}(h:Clo ops md L)(ho:ops[i]? =some o)(hd:∀ e∈o.after,Region.binds md e=true→L.getD e.on false=true):Clo ops md (L.setIfInBounds i true):=by
 have up:∀ j,L.getD j false=true→(L.setIfInBounds i true).getD j false=true:=fun j hj=>by
  rw[getD_set]
  split
  ·rfl
  ·exact hj
 intro j o' ho' hj e he hb
 refine up _ ?_
 rw[getD_set]at hj
 by_cases hx:j=i∧j<L.size
 ·obtain⟨rfl,_⟩:=hx
  rw[ho]at ho'
  cases ho'
  exact hd e he hb
 ·rw[if_neg hx]at hj
  exact h j o' ho' hj e he hb
theorem any_inv (I:Array Bool→Act→World→Prop)(hw:∀ (i:Nat) (o:Oper),ops[i]? =some o→∀ e∈o.after,e.on<i)
  (h0:∀ (L:Array Bool) (a:Act) (w:World),I L a w→L.size=ops.size→(∀ i,i<ops.size→L.getD i true=true)→Q .normal a w)
  (hs:∀ (L:Array Bool) (a:Act) (w:World) (i:Nat) (o:Oper),I L a w→L.size=ops.size→Clo ops md L→ops[i]? =some o→L.getD i true=false→(∀ e∈o.after,Region.binds md e=true→L.getD e.on false=true)→∀ K:Act→World→Prop,(∀ a' w',I (L.setIfInBounds i true) a' w'→K a' w')→if Region.wanted o (yielded ops a.tmps)=true then Oper.wp P o a w K Q else K (a.put o.dst undef) w):
  ∀ f L a w,I L a w→L.size=ops.size→Clo ops md L→cntU L ops.size≤f→wpAny P md ops Q f L a w
 |0,L,a,w,hI,hL,_,hc=>by
  have hall:=cntU_0 L ops.size (by omega)
  refine⟨?_,h0 L a w hI hL hall⟩
  rw[List.eq_nil_iff_forall_not_mem]
  intro i hi
  obtain⟨o,h1,_,h2,_⟩:=ready_in hi
  rw[hall i h1]at h2
  cases h2
 |f+1,L,a,w,hI,hL,hcl,hc=>by
  refine⟨fun hr=>h0 L a w hI hL fun i hi=>ready_nil hL hw hr (i+1) i (Nat.lt_succ_self i) hi,fun i hi=>?_⟩
  obtain⟨o,h1,ho,h2,h3⟩:=ready_in hi
  refine wpOp_step ho fun K hK=>hs L a w i o hI hL hcl ho h2 h3 K fun a' w' hI'=>hK a' w' (any_inv I hw h0 hs f _ a' w' hI' (by simpa using hL) (hcl.set ho h3) ?_)
  have:=cntU_lt L i (by omega) h2 ops.size h1
  omega
def wfB (ops:Array Oper):Bool:=(List.range ops.size).all fun i=>match ops[i]? with
 |some o=>o.after.all fun e=>decide (e.on<i)
 |none=>true
theorem wfB_ok (h:wfB ops=true)(i:Nat)(o:Oper)(ho:ops[i]? =some o):∀ e∈o.after,e.on<i:=fun e he=>by
 have h1:=List.all_eq_true.1 h i (List.mem_range.2 (Array.getElem?_eq_some_iff.1 ho).1)
 rw[ho]at h1
 exact of_decide_eq_true (Array.all_eq_true'.1 h1 e he)
theorem cntU_bd (L:Array Bool):∀ n,cntU L n≤n
 |0=>Nat.le_refl _
 |n+1=>by
  have:=cntU_bd L n
  show cntU L n+(if L.getD n true=true then 0 else 1)≤n+1
  split<;>omega
end
end Go.Proofs.YthfgpkdbclogpaaGreatDoor
