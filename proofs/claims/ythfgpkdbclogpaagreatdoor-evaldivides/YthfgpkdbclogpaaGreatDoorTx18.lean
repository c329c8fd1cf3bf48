/- 18. -/
import Derived.Test.YthfgpkdbclogpaaGreatDoorTx14
set_option maxHeartbeats 40000000
set_option maxRecDepth 100000
namespace Go.Proofs.YthfgpkdbclogpaaGreatDoor
open Go.RowKit
theorem kp_of {r:Nat}{n:Int}{w W:World}(h:Fr w.heap.size r n w W):KP r w W:=
 ⟨h.os,h.tape,h.output,h.size,fun g hg hne=>by rw[h.block g hg,Below.heap_setCell _ _ _ _ hne]⟩
def Sg (b wb r g S c1:Nat)(kb xb:Int)(t tb:ByteArray)(q1 q2:Option Addr)(g3 h3 g4 h4 f:Nat)(W:World):Prop:=W.cell? ⟨b,2,none⟩=some (.string t)∧W.cell? ⟨b,3,none⟩=some (.slice (some ⟨g,0,none⟩) 2 c1)∧W.cell? ⟨wb,0,none⟩=some (.pointer (some ⟨r,0,none⟩))∧W.cell? ⟨r,2,none⟩=some (.map (some S))∧W.cell? ⟨g,5,none⟩=some (.int .i64 kb)∧W.cell? ⟨g,6,none⟩=some (.int .i64 xb)∧W.cell? ⟨g,7,none⟩=some (.string tb)∧W.cell? ⟨g,8,none⟩=some (.slice q1 g3 h3)∧W.cell? ⟨g,9,none⟩=some (.slice q2 g4 h4)∧(Instr.lookup 50 (.map (some S)) (.string t) false).run Tryz.prog W= .ok (.func (.func f) #[] #[]) W
set_option linter.unusedSimpArgs false in
theorem binary_sgp {wb r g S f:Nat}{n m1 m2 x v ka xa kb xb:Int}{t ta tb:ByteArray}{va vb:Value}{p1 p2 q1 q2 a2:Option Addr}{g1 g2 g3 g4 h1 h2 h3 h4 c1 n2 c2:Nat}{w:World}{c:Array Value}
  (h:WkAt w wb r n) (hr:RAt w r c) (hwr:wb≠r) (hS:w.cell? ⟨r,2,none⟩=some (.map (some S)))
  (hk1:KidAt w r g 0 ka xa ta (.slice p1 g1 h1) (.slice p2 g2 h2)) (hk2:KidAt w r g 5 kb xb tb (.slice q1 g3 h3) (.slice q2 g4 h4))
  (ht1:¬t.toList=[111,114]) (ht2:¬t.toList=[97,110,100])
  (HK1:Rk w wb r (exV ka xa ta (.slice p1 g1 h1) (.slice p2 g2 h2)) n m1 va) (HK2:Rk w wb r (exV kb xb tb (.slice q1 g3 h3) (.slice q2 g4 h4)) m1 m2 vb)
  (HL:∀ k W,Fr w.heap.size r k w W→(Instr.lookup 50 (.map (some S)) (.string t) false).run Tryz.prog W= .ok (.func (.func f) #[] #[]) W)
  (HE:∀ args W,(callFunc f args).run Tryz.prog W= .ok (.enter f args) W)
  (HS:∀ W,Fr w.heap.size r m2 w W→Calls Tryz.prog f #[va,vb] W fun e w'=>e=PE v∧KP r W w'):
  Calls Tryz.prog 182 #[.pointer (some ⟨wb,0,none⟩),exV 14 x t (.slice (some ⟨g,0,none⟩) 2 c1) (.slice a2 n2 c2)] w fun e w'=>e=PE v∧KP r w w':=by
 obtain⟨W1,e1⟩:∃ W1,W1=w.alloc (.cells #[.int .i64 14,.int .i64 x,.string t,.slice (some ⟨g,0,none⟩) 2 c1,.slice a2 n2 c2] 162):=⟨_,rfl⟩
 have hb1:Below w.heap.size w W1:=by rw[e1];exact(Below.refl _ w).alloc (Nat.le_refl _) _
 have F1:Fr w.heap.size r n w W1:=Fr.same hr h.fuel hb1
 obtain⟨-,-,k0,k1,k2,k3,k4⟩:=hk1.fr F1
 simp only[Nat.zero_add]at k1 k2 k3 k4
 have HC1:=HK1 _ F1
 have hbox:W1.heap[w.heap.size]? =some (.cells #[.int .i64 14,.int .i64 x,.string t,.slice (some ⟨g,0,none⟩) 2 c1,.slice a2 n2 c2] 162 (0,0)):=by rw[e1];exact heap_alloc_new w _
 have hlt:w.heap.size<W1.heap.size:=by rw[e1];simp
 have hne:w.heap.size≠r:=Nat.ne_of_gt h.lr
 have HX:∀ {W2:World} {k:Int},Fr W1.heap.size r k W1 W2→Fr w.heap.size r k w W2∧W2.cell? ⟨w.heap.size,2,none⟩=some (.string t)∧W2.cell? ⟨w.heap.size,3,none⟩=some (.slice (some ⟨g,0,none⟩) 2 c1)∧W2.cell? ⟨wb,0,none⟩=some (.pointer (some ⟨r,0,none⟩))∧W2.cell? ⟨r,2,none⟩=some (.map (some S)):=by
  intro W2 k f
  have f':=F1.trans h.lr hr (Below.mono f (Nat.le_of_lt hlt))
  refine⟨f',?_,?_,?_,?_⟩
  ·rw[f.other (p:=⟨w.heap.size,2,none⟩) hlt hne];simp[World.cell?,hbox]
  ·rw[f.other (p:=⟨w.heap.size,3,none⟩) hlt hne];simp[World.cell?,hbox]
  ·rw[f'.other (p:=⟨wb,0,none⟩) h.lw hwr];exact h.run
  ·rw[f'.run h.lr (by omega)];exact hS
 have HT:∀ {A B:World} {k l:Int},Fr W1.heap.size r k W1 A→Fr A.heap.size r l A B→Fr W1.heap.size r l W1 B:=fun f u=>Fr.trans (Nat.lt_trans h.lr hlt) (F1.at h.lr hr) f (Below.mono u (Fr.size f))
 subst e1
 go_enter Tryz.func182,Tryz.ntmps182
 go_wp2_with fail
 refine HC1.mono ?_
 rintro e W2 ⟨rfl,hb⟩
 obtain⟨F2,y2,y3,y4,y5⟩:=HX hb
 obtain⟨-,-,j0,j1,j2,j3,j4⟩:=hk2.fr F2
 simp only[Nat.reduceAdd]at j0 j1 j2 j3 j4
 have F2d:Fr w.heap.size r m1 w W2.drew:=F2.below (Below.refl _ W2).drew
 have HC2:=HK2 _ F2d
 have HLk:=HL _ _ F2d
 have f2d:=Fr.below hb (Below.refl _ W2).drew
 clear hk1 HK1 HC1 hbox k0 k1 k2 k3 k4
 clear HK2
 go_wp2_with fail
 have HSS:Hid (Sg w.heap.size wb r g S c1 kb xb t tb q1 q2 g3 h3 g4 h4 f W2.drew):=⟨y2,y3,y4,y5,j0,j1,j2,j3,j4,HLk⟩
 refine wp_region_held_drew (S:=Sg w.heap.size wb r g S c1 kb xb t tb q1 q2 g3 h3 g4 h4 f) (by kernel_rfl) HSS.out (fun hHeld=>?_)
 refine wpAnyH_take (i:=0) (v:= .pointer (some ⟨wb,0,none⟩)) rfl (by kernel_rfl) (by kernel_rfl) (by kernel_rfl) (fun _ _ _ h=>h) (Or.inl ⟨by rfl,?_⟩) (by assumption) ?_
 ·intro V hSV
  obtain⟨u2,u3,u4,u5,l0,l1,l2,l3,l4,lk⟩:=hSV
  go_simp
  try with_reducible rfl
 try simp only[Act.put,List.setIfInBounds_toArray,List.set_cons_zero,List.set_cons_succ]
 refine wpAnyH_take (i:=1) (v:= .pointer (some ⟨wb,0,none⟩)) rfl (by kernel_rfl) (by kernel_rfl) (by kernel_rfl) (fun _ _ _ h=>h) (Or.inl ⟨by rfl,?_⟩) (by assumption) ?_
 ·intro V hSV
  obtain⟨u2,u3,u4,u5,l0,l1,l2,l3,l4,lk⟩:=hSV
  go_simp
  try with_reducible rfl
 try simp only[Act.put,List.setIfInBounds_toArray,List.set_cons_zero,List.set_cons_succ]
 refine wpAnyH_take (i:=2) (v:= .pointer (some ⟨wb,0,none⟩)) rfl (by kernel_rfl) (by kernel_rfl) (by kernel_rfl) (fun _ _ _ h=>h) (Or.inl ⟨by rfl,?_⟩) (by assumption) ?_
 ·intro V hSV
  obtain⟨u2,u3,u4,u5,l0,l1,l2,l3,l4,lk⟩:=hSV
  go_simp
  try with_reducible rfl
 try simp only[Act.put,List.setIfInBounds_toArray,List.set_cons_zero,List.set_cons_succ]
 refine wpAnyH_take (i:=3) (v:= .pointer (some ⟨r,0,none⟩)) rfl (by kernel_rfl) (by kernel_rfl) (by kernel_rfl) (fun _ _ _ h=>h) (Or.inl ⟨by rfl,?_⟩) (by assumption) ?_
 ·intro V hSV
  obtain⟨u2,u3,u4,u5,l0,l1,l2,l3,l4,lk⟩:=hSV
  go_simp
  try with_reducible rfl
 try simp only[Act.put,List.setIfInBounds_toArray,List.set_cons_zero,List.set_cons_succ]
 refine wpAnyH_take (i:=4) (v:= .pointer (some ⟨r,0,none⟩)) rfl (by kernel_rfl) (by kernel_rfl) (by kernel_rfl) (fun _ _ _ h=>h) (Or.inl ⟨by rfl,?_⟩) (by assumption) ?_
 ·intro V hSV
  obtain⟨u2,u3,u4,u5,l0,l1,l2,l3,l4,lk⟩:=hSV
  go_simp
  try with_reducible rfl
 try simp only[Act.put,List.setIfInBounds_toArray,List.set_cons_zero,List.set_cons_succ]
 refine wpAnyH_take (i:=5) (v:= .pointer (some ⟨r,2,none⟩)) rfl (by kernel_rfl) (by kernel_rfl) (by kernel_rfl) (fun _ _ _ h=>h) (Or.inl ⟨by rfl,?_⟩) (by assumption) ?_
 ·intro V hSV
  obtain⟨u2,u3,u4,u5,l0,l1,l2,l3,l4,lk⟩:=hSV
  go_simp
  try with_reducible rfl
 try simp only[Act.put,List.setIfInBounds_toArray,List.set_cons_zero,List.set_cons_succ]
 refine wpAnyH_take (i:=6) (v:= .map (some S)) rfl (by kernel_rfl) (by kernel_rfl) (by kernel_rfl) (fun _ _ _ h=>h) (Or.inl ⟨by rfl,?_⟩) (by assumption) ?_
 ·intro V hSV
  obtain⟨u2,u3,u4,u5,l0,l1,l2,l3,l4,lk⟩:=hSV
  go_simp
  try with_reducible rfl
 try simp only[Act.put,List.setIfInBounds_toArray,List.set_cons_zero,List.set_cons_succ]
 refine wpAnyH_take (i:=7) (v:= .pointer (some ⟨w.heap.size,2,none⟩)) rfl (by kernel_rfl) (by kernel_rfl) (by kernel_rfl) (fun _ _ _ h=>h) (Or.inl ⟨by rfl,?_⟩) (by assumption) ?_
 ·intro V hSV
  obtain⟨u2,u3,u4,u5,l0,l1,l2,l3,l4,lk⟩:=hSV
  go_simp
  try with_reducible rfl
 try simp only[Act.put,List.setIfInBounds_toArray,List.set_cons_zero,List.set_cons_succ]
 refine wpAnyH_take (i:=8) (v:= .string t) rfl (by kernel_rfl) (by kernel_rfl) (by kernel_rfl) (fun _ _ _ h=>h) (Or.inl ⟨by rfl,?_⟩) (by assumption) ?_
 ·intro V hSV
  obtain⟨u2,u3,u4,u5,l0,l1,l2,l3,l4,lk⟩:=hSV
  go_simp
  try with_reducible rfl
 try simp only[Act.put,List.setIfInBounds_toArray,List.set_cons_zero,List.set_cons_succ]
 refine wpAnyH_take (i:=9) (v:= .func (.func f) #[] #[]) rfl (by kernel_rfl) (by kernel_rfl) (by kernel_rfl) (fun _ _ _ h=>h) (Or.inl ⟨by rfl,?_⟩) (by assumption) ?_
 ·intro V hSV
  obtain⟨u2,u3,u4,u5,l0,l1,l2,l3,l4,lk⟩:=hSV
  go_simp
  try with_reducible rfl
 try simp only[Act.put,List.setIfInBounds_toArray,List.set_cons_zero,List.set_cons_succ]
 refine wpAnyH_take (i:=10) (v:=va) rfl (by kernel_rfl) (by kernel_rfl) (by kernel_rfl) (fun _ _ _ h=>h) (Or.inl ⟨by rfl,?_⟩) (by assumption) ?_
 ·intro V hSV
  obtain⟨u2,u3,u4,u5,l0,l1,l2,l3,l4,lk⟩:=hSV
  go_simp
  try with_reducible rfl
 try simp only[Act.put,List.setIfInBounds_toArray,List.set_cons_zero,List.set_cons_succ]
 refine wpAnyH_take (i:=11) (v:= .pointer (some ⟨wb,0,none⟩)) rfl (by kernel_rfl) (by kernel_rfl) (by kernel_rfl) (fun _ _ _ h=>h) (Or.inl ⟨by rfl,?_⟩) (by assumption) ?_
 ·intro V hSV
  obtain⟨u2,u3,u4,u5,l0,l1,l2,l3,l4,lk⟩:=hSV
  go_simp
  try with_reducible rfl
 try simp only[Act.put,List.setIfInBounds_toArray,List.set_cons_zero,List.set_cons_succ]
 refine wpAnyH_take (i:=12) (v:= .pointer (some ⟨w.heap.size,3,none⟩)) rfl (by kernel_rfl) (by kernel_rfl) (by kernel_rfl) (fun _ _ _ h=>h) (Or.inl ⟨by rfl,?_⟩) (by assumption) ?_
 ·intro V hSV
  obtain⟨u2,u3,u4,u5,l0,l1,l2,l3,l4,lk⟩:=hSV
  go_simp
  try with_reducible rfl
 try simp only[Act.put,List.setIfInBounds_toArray,List.set_cons_zero,List.set_cons_succ]
 refine wpAnyH_take (i:=13) (v:= .slice (some ⟨g,0,none⟩) 2 c1) rfl (by kernel_rfl) (by kernel_rfl) (by kernel_rfl) (fun _ _ _ h=>h) (Or.inl ⟨by rfl,?_⟩) (by assumption) ?_
 ·intro V hSV
  obtain⟨u2,u3,u4,u5,l0,l1,l2,l3,l4,lk⟩:=hSV
  go_simp
  try with_reducible rfl
 try simp only[Act.put,List.setIfInBounds_toArray,List.set_cons_zero,List.set_cons_succ]
 refine wpAnyH_take (i:=14) (v:= .pointer (some ⟨g,5,none⟩)) rfl (by kernel_rfl) (by kernel_rfl) (by kernel_rfl) (fun _ _ _ h=>h) (Or.inl ⟨by rfl,?_⟩) (by assumption) ?_
 ·intro V hSV
  obtain⟨u2,u3,u4,u5,l0,l1,l2,l3,l4,lk⟩:=hSV
  go_simp
  try with_reducible rfl
 try simp only[Act.put,List.setIfInBounds_toArray,List.set_cons_zero,List.set_cons_succ]
 refine wpAnyH_take (i:=15) (v:=exV kb xb tb (.slice q1 g3 h3) (.slice q2 g4 h4)) rfl (by kernel_rfl) (by kernel_rfl) (by kernel_rfl) (fun _ _ _ h=>h) (Or.inl ⟨by rfl,?_⟩) (by assumption) ?_
 ·intro V hSV
  obtain⟨u2,u3,u4,u5,l0,l1,l2,l3,l4,lk⟩:=hSV
  go_simp
  try with_reducible rfl
 try simp only[Act.put,List.setIfInBounds_toArray,List.set_cons_zero,List.set_cons_succ]
 refine wpAnyH_ready (rs:=[16]) (by kernel_rfl) (by simp) (AllReadyH.cons rfl (fun K hK=>?_) AllReadyH.nil)
 go_simp
 refine HC2.mono ?_
 rintro e W3 ⟨rfl,hb3⟩
 have f3:=HT f2d hb3
 obtain⟨F3,z2,z3,z4,z5⟩:=HX f3
 have HL3:=HL _ _ F3
 have HS3:=HS _ F3
 obtain⟨-,-,i0,i1,i2,i3,i4⟩:=hk2.fr F3
 simp only[Nat.reduceAdd]at i0 i1 i2 i3 i4
 refine hK.out _ _ ⟨z2,z3,z4,z5,i0,i1,i2,i3,i4,HL3⟩ (fun hHeld=>?_)
 clear hK K
 try simp only[Act.put,List.setIfInBounds_toArray,List.set_cons_zero,List.set_cons_succ]
 refine wpAnyH_ready (rs:=[17]) (by kernel_rfl) (by simp) (AllReadyH.cons rfl (fun K hK=>?_) AllReadyH.nil)
 go_simp
 refine HS3.mono ?_
 rintro e W4 ⟨rfl,hb4⟩
 exact⟨rfl,rfl,(kp_of F3).trans hb4⟩
theorem binary_p1 {wb r g:Nat}{n x v ka xa:Int}{t ta:ByteArray}{p1 p2 a2:Option Addr}{g1 g2 h1 h2 c1 n2 c2:Nat}{w:World}{c:Array Value}
  (h:WkAt w wb r n) (hr:RAt w r c)
  (hk1:KidAt w r g 0 ka xa ta (.slice p1 g1 h1) (.slice p2 g2 h2))
  (HK1:∀ W,Fr w.heap.size r n w W→Calls Tryz.prog 141 #[.pointer (some ⟨wb,0,none⟩),exV ka xa ta (.slice p1 g1 h1) (.slice p2 g2 h2)] W fun e w'=>e=PE v∧KP r W w'):
  Calls Tryz.prog 182 #[.pointer (some ⟨wb,0,none⟩),exV 14 x t (.slice (some ⟨g,0,none⟩) 2 c1) (.slice a2 n2 c2)] w fun e w'=>e=PE v∧KP r w w':=by
 obtain⟨W1,e1⟩:∃ W1,W1=w.alloc (.cells #[.int .i64 14,.int .i64 x,.string t,.slice (some ⟨g,0,none⟩) 2 c1,.slice a2 n2 c2] 162):=⟨_,rfl⟩
 have hb1:Below w.heap.size w W1:=by rw[e1];exact(Below.refl _ w).alloc (Nat.le_refl _) _
 have F1:Fr w.heap.size r n w W1:=Fr.same hr h.fuel hb1
 obtain⟨-,-,k0,k1,k2,k3,k4⟩:=hk1.fr F1
 simp only[Nat.zero_add]at k1 k2 k3 k4
 have HC1:=HK1 _ F1
 subst e1
 go_enter Tryz.func182,Tryz.ntmps182
 go_wp2_with fail
 refine HC1.mono ?_
 rintro e W2 ⟨rfl,hb⟩
 exact⟨rfl,rfl,(kp_of F1).trans hb⟩
theorem reckon_bin {wb r:Nat}{n m x:Int}{t:ByteArray}{v:Value}{a1 a2:Option Addr}{n1 c1 n2 c2:Nat}{w:World}{c:Array Value}(h:WkAt w wb r n)(hr:RAt w r c)(hn:0<n)
  (HN:∀ W,Fr w.heap.size r (n-1) w W→Calls Tryz.prog 182 #[.pointer (some ⟨wb,0,none⟩),exV 14 x t (.slice a1 n1 c1) (.slice a2 n2 c2)] W fun e w'=>e= .returned v∧Fr W.heap.size r m W w'):
  Calls Tryz.prog 141 #[.pointer (some ⟨wb,0,none⟩),exV 14 x t (.slice a1 n1 c1) (.slice a2 n2 c2)] w fun e w'=>e= .returned v∧Fr w.heap.size r m w w':=by
 obtain⟨hw,HB,HF,f0,f1,f2,f3,f4⟩:=box_burn h hn _ _ rfl rfl (k:=14) (x:=x) (t:=t) (v1:= .slice a1 n1 c1) (v2:= .slice a2 n2 c2)
 have HC:=HN _ HF
 go_enter Tryz.func141,Tryz.ntmps141
 go_wp2_with fail
 refine HB.mono ?_
 rintro e w' ⟨rfl,rfl⟩
 go_wp2_with fail
 refine HC.mono ?_
 rintro e w' ⟨rfl,hb⟩
 go_wp2
 go_ret
 exact⟨rfl,HF.trans h.lr hr (Below.mono hb HF.size)⟩
theorem reckon_bnp {wb r:Nat}{n x v:Int}{t:ByteArray}{a1 a2:Option Addr}{n1 c1 n2 c2:Nat}{w:World}(h:WkAt w wb r n)(hn:0<n)
  (HN:∀ W,Fr w.heap.size r (n-1) w W→Calls Tryz.prog 182 #[.pointer (some ⟨wb,0,none⟩),exV 14 x t (.slice a1 n1 c1) (.slice a2 n2 c2)] W fun e w'=>e=PE v∧KP r W w'):
  Calls Tryz.prog 141 #[.pointer (some ⟨wb,0,none⟩),exV 14 x t (.slice a1 n1 c1) (.slice a2 n2 c2)] w fun e w'=>e=PE v∧KP r w w':=by
 obtain⟨hw,HB,HF,f0,f1,f2,f3,f4⟩:=box_burn h hn _ _ rfl rfl (k:=14) (x:=x) (t:=t) (v1:= .slice a1 n1 c1) (v2:= .slice a2 n2 c2)
 have HC:=HN _ HF
 go_enter Tryz.func141,Tryz.ntmps141
 go_wp2_with fail
 refine HB.mono ?_
 rintro e w' ⟨rfl,rfl⟩
 go_wp2_with fail
 refine HC.mono ?_
 rintro e w' ⟨rfl,hb⟩
 exact⟨rfl,rfl,(kp_of HF).trans hb⟩
end Go.Proofs.YthfgpkdbclogpaaGreatDoor
