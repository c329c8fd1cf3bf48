/- The document's own Sum: one round's parts (2). -/
import Derived.Deep.RegionLaw
import Derived.Test.YtoceglbdnbnjpaaDoorTq4
namespace Go.Proofs.YtoceglbdnbnjpaaDoor
open Go.RowKit
variable (A0 A1 A2 A3 A4 A5 A6 A7 A8 A9 B0 B1 B2 B3 B4 B5 B6 B7 B8 B9 C0 C1 C2 C3 C4 C5 C6 C7 C8 C9 D0 D1 D2 D3 D4 D5 D6 D7 D8 D9 E0 E1 E2 E3 E4 E5 E6 E7 E8 E9 G0 G1 G2 G3 G4 G5 G6 G7 G8 G9 H0 H1 H2 H3 H4 H5 H6 H7 H8 H9 I0 I1 I2 I3 I4 I5 I6 I7 I8 I9 J0 J1 J2 J3 J4 J5 J6 J7 J8 J9 K0 K1 K2 K3 K4 K5 K6 K7 K8 K9 M0 M1 M2 M3 M4 M5 M6 M7 M8 M9 O0 O1 O2 O3 O4 O5 O6 O7 O8 O9 P0 P1 P2 P3 P4 P5 P6 P7 P8 P9 R0 R1 R2 R3 R4 R5 R6 R7 R8 R9 S0 S1 S2 S3 S4 S5 S6 S7 S8 S9 T0 T1 T2 T3 T4 T5 T6 T7 T8 T9 U0 U1 U2 U3 U4 U5 U6 U7 U8 U9 V0 V1 V2 V3 V4 V5 V6 V7 V8 V9 W0 W1 W2 W3 W4 W5 W6 W7 W8 W9 X0 X1 X2 X3 X4 X5 X6 X7 X8 X9 Y0 Y1 Y2 Y3 Y4 Y5 Y6 Y7 Y8 Y9 Z0 Z1 Z2 Z3 Z4 Z5 Z6 Z7 Z8 Z9 j0 j1 j2 j3 j4 j5 j6 j7 j8 j9 o0 o1 o2 o3 o4 o5 o6 o7 o8 o9 y0 y1 y2 y3 y4 y5 y6 y7 y8 y9 z0 z1 z2 z3 z4 z5 z6 z7 z8 z9 x0 x1 x2 x3 x4 x5 x6 x7 x8 x9 i0 i1 i2 i3 i4 i5 i6 i7 i8 i9 v0 v1 v2 v3 : Value)

def andN (x y : Nat) : Nat := x &&& y
theorem andN_lt (x y : Nat) (hy : y < 2 ^ 32) : andN x y < 2 ^ 32 := Nat.and_lt_two_pow _ hy
set_option maxHeartbeats 4000000 in
set_option maxRecDepth 100000 in
theorem r35 (w : World) (a b d g c : Nat) (ha : a < 2 ^ 32) (hb : b < 2 ^ 32) (hd : d < 2 ^ 32)
    (c1 : w.cell? ⟨g, 1, none⟩ = some (.int .i64 b)) (c2 : w.cell? ⟨g, 2, none⟩ = some (.int .i64 d)) (hg : g < w.heap.size) (Q0 : Exit → Act → World → Prop)
    (hexit : ∀ (Pq Pt Pv Pw Px Py Pz Rb Rc Rf Rg Rh Rj Rk Rm Rq Rt Rv Rw : Value) (w' : World), Below w.heap.size w w' → Q0 .normal ⟨#[A0,A1,A2,A3,A4,A5,A6,A7,A8,A9,B0,B1,B2,B3,B4,B5,B6,.slice (some ⟨g, 0, none⟩) 8 c,B8,.int .i64 a,C0,C1,C2,.int .i64 (majN a b d : Nat),C4,C5,C6,C7,C8,C9,D0,D1,D2,D3,D4,D5,D6,D7,D8,D9,E0,E1,E2,E3,E4,E5,E6,E7,E8,E9,G0,G1,G2,G3,G4,G5,G6,G7,G8,G9,H0,H1,H2,H3,H4,H5,H6,H7,H8,H9,I0,I1,I2,I3,I4,I5,I6,I7,I8,I9,J0,J1,J2,J3,J4,J5,J6,J7,J8,J9,K0,K1,K2,K3,K4,K5,K6,K7,K8,K9,M0,M1,M2,M3,M4,M5,M6,M7,M8,M9,O0,O1,O2,O3,O4,O5,O6,O7,O8,O9,P0,P1,P2,P3,P4,P5,P6,P7,P8,P9,R0,R1,R2,R3,R4,R5,R6,R7,R8,R9,S0,S1,S2,S3,S4,S5,S6,S7,S8,S9,T0,T1,T2,T3,T4,T5,T6,T7,T8,T9,U0,U1,U2,U3,U4,U5,U6,U7,U8,U9,V0,V1,V2,V3,V4,V5,V6,V7,V8,V9,W0,W1,W2,W3,W4,W5,W6,W7,Pq,Pt,Pv,Pw,Px,Py,Pz,Rb,Rc,Rf,Rg,Rh,Rj,Rk,Rm,Rq,Rt,Rv,Rw,Y7,Y8,Y9,Z0,Z1,Z2,Z3,Z4,Z5,Z6,Z7,Z8,Z9,j0,j1,j2,j3,j4,j5,j6,j7,j8,j9,o0,o1,o2,o3,o4,o5,o6,o7,o8,o9,y0,y1,y2,y3,y4,y5,y6,y7,y8,y9,z0,z1,z2,z3,z4,z5,z6,z7,z8,z9,x0,x1,x2,x3,x4,x5,x6,x7,x8,x9,i0,i1,i2,i3,i4,i5,i6,i7,i8,i9,v0,v1,v2,v3], []⟩ w') :
    Code.wp Tryd.prog (subC [true, true, true, true, true, true, false, true, false, false, true, false, false, true, true, true, false, true, false, false, true, false, false, true, true, true, false] (Tryd.f11.body.getD .skip)) Q0 ⟨#[A0,A1,A2,A3,A4,A5,A6,A7,A8,A9,B0,B1,B2,B3,B4,B5,B6,.slice (some ⟨g, 0, none⟩) 8 c,B8,.int .i64 a,C0,C1,C2,C3,C4,C5,C6,C7,C8,C9,D0,D1,D2,D3,D4,D5,D6,D7,D8,D9,E0,E1,E2,E3,E4,E5,E6,E7,E8,E9,G0,G1,G2,G3,G4,G5,G6,G7,G8,G9,H0,H1,H2,H3,H4,H5,H6,H7,H8,H9,I0,I1,I2,I3,I4,I5,I6,I7,I8,I9,J0,J1,J2,J3,J4,J5,J6,J7,J8,J9,K0,K1,K2,K3,K4,K5,K6,K7,K8,K9,M0,M1,M2,M3,M4,M5,M6,M7,M8,M9,O0,O1,O2,O3,O4,O5,O6,O7,O8,O9,P0,P1,P2,P3,P4,P5,P6,P7,P8,P9,R0,R1,R2,R3,R4,R5,R6,R7,R8,R9,S0,S1,S2,S3,S4,S5,S6,S7,S8,S9,T0,T1,T2,T3,T4,T5,T6,T7,T8,T9,U0,U1,U2,U3,U4,U5,U6,U7,U8,U9,V0,V1,V2,V3,V4,V5,V6,V7,V8,V9,W0,W1,W2,W3,W4,W5,W6,W7,W8,W9,X0,X1,X2,X3,X4,X5,X6,X7,X8,X9,Y0,Y1,Y2,Y3,Y4,Y5,Y6,Y7,Y8,Y9,Z0,Z1,Z2,Z3,Z4,Z5,Z6,Z7,Z8,Z9,j0,j1,j2,j3,j4,j5,j6,j7,j8,j9,o0,o1,o2,o3,o4,o5,o6,o7,o8,o9,y0,y1,y2,y3,y4,y5,y6,y7,y8,y9,z0,z1,z2,z3,z4,z5,z6,z7,z8,z9,x0,x1,x2,x3,x4,x5,x6,x7,x8,x9,i0,i1,i2,i3,i4,i5,i6,i7,i8,i9,v0,v1,v2,v3], []⟩ w := by
  have HX : Hid _ := hexit
  have HB : Hid (Below w.heap.size w w) := Below.refl _ _
  have HA : Hid (∀ (W : World) (x y : Nat), x < 2 ^ 32 → y < 2 ^ 32 → Calls Tryd.prog 33 #[.int .i64 x, .int .i64 y] W fun e' w' => e' = .returned (.int .i64 (andN x y : Nat)) ∧ w' = W) := fun W x y hx hy => And_any x y W hx hy
  have HXO : Hid (∀ (W : World) (b' : Nat), W.cell? ⟨b', 0, none⟩ = some (.int .i64 (andN a b : Nat)) → W.cell? ⟨b', 1, none⟩ = some (.int .i64 (andN a d : Nat)) → W.cell? ⟨b', 2, none⟩ = some (.int .i64 (andN b d : Nat)) → Calls Tryd.prog 30 #[.slice (some ⟨b', 0, none⟩) 3 3] W fun e' w' => e' = .returned (.int .i64 (majN a b d : Nat)) ∧ w' = W) := fun W b' => Xor_3 W b' _ _ _ (andN_lt _ _ hb) (andN_lt _ _ hd) (andN_lt _ _ hd) _ rfl
  generalize majN a b d = r at HX HXO
  have HLT : Hid (a < 2 ^ 32 ∧ b < 2 ^ 32 ∧ d < 2 ^ 32) := ⟨ha, hb, hd⟩
  have HS : Hid (∀ W : World, Below w.heap.size w W → W.cell? ⟨g, 1, none⟩ = some (.int .i64 b) ∧ W.cell? ⟨g, 2, none⟩ = some (.int .i64 d)) := fun W hW => ⟨(hW.cell (p := ⟨g, 1, none⟩) hg).trans c1, (hW.cell (p := ⟨g, 2, none⟩) hg).trans c2⟩
  clear c1 c2 hg ha hb hd
  conv => arg 2; whnf
  go_region_held3 (fun w' => w'.cell? ⟨g, 1, none⟩ = some (.int .i64 b) ∧ w'.cell? ⟨g, 2, none⟩ = some (.int .i64 d))
    (first | (refine HS.out _ ?_; repeat' (with_reducible (first | exact HB.out | refine bl_al ?_ _ | refine bl_dn ?_ _ | refine bl_dr ?_))) | fail)
    (first
      | (go_at_call 33; refine (HA.out _ _ _ (by first | exact HLT.out.1 | exact HLT.out.2.1) (by first | exact HLT.out.2.1 | exact HLT.out.2.2)).mono ?_; rintro e w' ⟨rfl, rfl⟩)
      | (go_at_call 30; refine (HXO.out _ _ (by first | exact al_atC _ _ _ _ 0 _ rfl rfl | simp [go_sem]) (by first | exact al_atC _ _ _ _ 1 _ rfl rfl | simp [go_sem]) (by first | exact al_atC _ _ _ _ 2 _ rfl rfl | simp [go_sem])).mono ?_; rintro e w' ⟨rfl, rfl⟩)
      | fail)
  all_goals exact HX.out _ _ _ _ _ _ _ _ _ _ _ _ _ _ _ _ _ _ _ _ (by repeat' (with_reducible (first | exact HB.out | refine bl_al ?_ _ | refine bl_dn ?_ _ | refine bl_dr ?_)))

set_option maxHeartbeats 4000000 in
set_option maxRecDepth 100000 in
theorem r36 (w : World) (a m : Nat) (ha : a < 2 ^ 32) (hm : m < 2 ^ 32) (Q0 : Exit → Act → World → Prop)
    (hexit : ∀ (Rx Ry Rz Sb Sc Sf Sg Sh Sj Sk : Value) (w' : World), Below w.heap.size w w' → Q0 .normal ⟨#[A0,A1,A2,A3,A4,A5,A6,A7,A8,A9,B0,B1,B2,B3,B4,B5,B6,B7,B8,.int .i64 a,C0,C1,C2,.int .i64 m,.int .i64 (big0N a + m : Nat),C5,C6,C7,C8,C9,D0,D1,D2,D3,D4,D5,D6,D7,D8,D9,E0,E1,E2,E3,E4,E5,E6,E7,E8,E9,G0,G1,G2,G3,G4,G5,G6,G7,G8,G9,H0,H1,H2,H3,H4,H5,H6,H7,H8,H9,I0,I1,I2,I3,I4,I5,I6,I7,I8,I9,J0,J1,J2,J3,J4,J5,J6,J7,J8,J9,K0,K1,K2,K3,K4,K5,K6,K7,K8,K9,M0,M1,M2,M3,M4,M5,M6,M7,M8,M9,O0,O1,O2,O3,O4,O5,O6,O7,O8,O9,P0,P1,P2,P3,P4,P5,P6,P7,P8,P9,R0,R1,R2,R3,R4,R5,R6,R7,R8,R9,S0,S1,S2,S3,S4,S5,S6,S7,S8,S9,T0,T1,T2,T3,T4,T5,T6,T7,T8,T9,U0,U1,U2,U3,U4,U5,U6,U7,U8,U9,V0,V1,V2,V3,V4,V5,V6,V7,V8,V9,W0,W1,W2,W3,W4,W5,W6,W7,W8,W9,X0,X1,X2,X3,X4,X5,X6,X7,X8,X9,Y0,Y1,Y2,Y3,Y4,Y5,Y6,Rx,Ry,Rz,Sb,Sc,Sf,Sg,Sh,Sj,Sk,Z7,Z8,Z9,j0,j1,j2,j3,j4,j5,j6,j7,j8,j9,o0,o1,o2,o3,o4,o5,o6,o7,o8,o9,y0,y1,y2,y3,y4,y5,y6,y7,y8,y9,z0,z1,z2,z3,z4,z5,z6,z7,z8,z9,x0,x1,x2,x3,x4,x5,x6,x7,x8,x9,i0,i1,i2,i3,i4,i5,i6,i7,i8,i9,v0,v1,v2,v3], []⟩ w') :
    Code.wp Tryd.prog (subC [true, true, true, true, true, true, false, true, false, false, true, false, false, true, true, true, false, true, false, false, true, false, false, true, true, true, true, false] (Tryd.f11.body.getD .skip)) Q0 ⟨#[A0,A1,A2,A3,A4,A5,A6,A7,A8,A9,B0,B1,B2,B3,B4,B5,B6,B7,B8,.int .i64 a,C0,C1,C2,.int .i64 m,C4,C5,C6,C7,C8,C9,D0,D1,D2,D3,D4,D5,D6,D7,D8,D9,E0,E1,E2,E3,E4,E5,E6,E7,E8,E9,G0,G1,G2,G3,G4,G5,G6,G7,G8,G9,H0,H1,H2,H3,H4,H5,H6,H7,H8,H9,I0,I1,I2,I3,I4,I5,I6,I7,I8,I9,J0,J1,J2,J3,J4,J5,J6,J7,J8,J9,K0,K1,K2,K3,K4,K5,K6,K7,K8,K9,M0,M1,M2,M3,M4,M5,M6,M7,M8,M9,O0,O1,O2,O3,O4,O5,O6,O7,O8,O9,P0,P1,P2,P3,P4,P5,P6,P7,P8,P9,R0,R1,R2,R3,R4,R5,R6,R7,R8,R9,S0,S1,S2,S3,S4,S5,S6,S7,S8,S9,T0,T1,T2,T3,T4,T5,T6,T7,T8,T9,U0,U1,U2,U3,U4,U5,U6,U7,U8,U9,V0,V1,V2,V3,V4,V5,V6,V7,V8,V9,W0,W1,W2,W3,W4,W5,W6,W7,W8,W9,X0,X1,X2,X3,X4,X5,X6,X7,X8,X9,Y0,Y1,Y2,Y3,Y4,Y5,Y6,Y7,Y8,Y9,Z0,Z1,Z2,Z3,Z4,Z5,Z6,Z7,Z8,Z9,j0,j1,j2,j3,j4,j5,j6,j7,j8,j9,o0,o1,o2,o3,o4,o5,o6,o7,o8,o9,y0,y1,y2,y3,y4,y5,y6,y7,y8,y9,z0,z1,z2,z3,z4,z5,z6,z7,z8,z9,x0,x1,x2,x3,x4,x5,x6,x7,x8,x9,i0,i1,i2,i3,i4,i5,i6,i7,i8,i9,v0,v1,v2,v3], []⟩ w := by
  have HX : Hid _ := hexit
  have HB : Hid (Below w.heap.size w w) := Below.refl _ _
  have bl := (big_lt a ha).2.1
  have l1 := (right_lt a 2 ha (by decide)).2
  have l2 := (right_lt a 13 ha (by decide)).2
  have l3 := (right_lt a 22 ha (by decide)).2
  have HA1 : Hid (∀ W : World, Calls Tryd.prog 31 #[.int .i64 a, .int .i64 2] W fun e' w' => e' = .returned (.int .i64 (rightN a 2 : Nat)) ∧ ∃ m, w' = W.drewN m) := fun W => Right_any a 2 W ha (by decide) (by decide)
  have HA2 : Hid (∀ W : World, Calls Tryd.prog 31 #[.int .i64 a, .int .i64 13] W fun e' w' => e' = .returned (.int .i64 (rightN a 13 : Nat)) ∧ ∃ m, w' = W.drewN m) := fun W => Right_any a 13 W ha (by decide) (by decide)
  have HA3 : Hid (∀ W : World, Calls Tryd.prog 31 #[.int .i64 a, .int .i64 22] W fun e' w' => e' = .returned (.int .i64 (rightN a 22 : Nat)) ∧ ∃ m, w' = W.drewN m) := fun W => Right_any a 22 W ha (by decide) (by decide)
  have HXO : Hid (∀ (W : World) (b : Nat), W.cell? ⟨b, 0, none⟩ = some (.int .i64 (rightN a 2 : Nat)) → W.cell? ⟨b, 1, none⟩ = some (.int .i64 (rightN a 13 : Nat)) → W.cell? ⟨b, 2, none⟩ = some (.int .i64 (rightN a 22 : Nat)) → Calls Tryd.prog 30 #[.slice (some ⟨b, 0, none⟩) 3 3] W fun e' w' => e' = .returned (.int .i64 (big0N a : Nat)) ∧ w' = W) := fun W b => Xor_3 W b _ _ _ l1 l2 l3 _ rfl
  generalize rightN a 2 = p1 at HA1 HXO
  generalize rightN a 13 = p2 at HA2 HXO
  generalize rightN a 22 = p3 at HA3 HXO
  generalize big0N a = bg at HX HXO bl
  obtain ⟨s1, hs1⟩ : ∃ s1, s1 = bg + m := ⟨_, rfl⟩
  have e1 : (bg : Int) + (m : Int) = (s1 : Int) := by omega
  rw [← hs1] at HX
  have f1 := wr60 s1 (by omega)
  have f2 : wrap64 (s1 : Int) = (s1 : Int) := by unfold wrap64; clear f1; omega
  clear hs1 ha hm bl l1 l2 l3
  conv => arg 2; whnf
  go_wp2_with fail
  refine (HA1.out _).mono ?_
  rintro e w' ⟨rfl, m1, rfl⟩
  go_wp2_with fail
  refine (HA2.out _).mono ?_
  rintro e w' ⟨rfl, m2, rfl⟩
  go_wp2_with fail
  refine (HA3.out _).mono ?_
  rintro e w' ⟨rfl, m3, rfl⟩
  go_wp2_with fail
  refine (HXO.out _ _ (al_atC _ _ _ _ 0 _ rfl rfl) (al_atC _ _ _ _ 1 _ rfl rfl) (al_atC _ _ _ _ 2 _ rfl rfl)).mono ?_
  rintro e w' ⟨rfl, rfl⟩
  go_wp2
  exact HX.out _ _ _ _ _ _ _ _ _ _ _ (by repeat' (with_reducible (first | exact HB.out | refine bl_al ?_ _ | refine bl_dn ?_ _ | refine bl_dr ?_)))

set_option maxHeartbeats 4000000 in
set_option maxRecDepth 100000 in
theorem r32 (w : World) (a e g c : Nat)
    (c0 : w.cell? ⟨g, 0, none⟩ = some (.int .i64 a)) (c4 : w.cell? ⟨g, 4, none⟩ = some (.int .i64 e)) (Q0 : Exit → Act → World → Prop)
    (hexit : ∀ (Kt Kv Kw Kx Ky Kz : Value) (w' : World), Below w.heap.size w w' → Q0 .normal ⟨#[A0,A1,A2,A3,A4,A5,A6,A7,A8,A9,B0,B1,B2,B3,B4,B5,B6,.slice (some ⟨g, 0, none⟩) 8 c,B8,.int .i64 a,.int .i64 e,C1,C2,C3,C4,C5,C6,C7,C8,C9,D0,D1,D2,D3,D4,D5,D6,D7,D8,D9,E0,E1,E2,E3,E4,E5,E6,E7,E8,E9,G0,G1,G2,G3,G4,G5,G6,G7,G8,G9,H0,H1,H2,H3,H4,H5,H6,H7,H8,H9,I0,I1,I2,I3,I4,I5,I6,I7,I8,I9,J0,J1,J2,J3,J4,J5,J6,J7,J8,J9,K0,K1,K2,K3,K4,K5,K6,K7,K8,K9,M0,M1,M2,M3,M4,M5,M6,M7,M8,M9,O0,O1,O2,O3,O4,O5,O6,O7,O8,O9,P0,P1,P2,P3,P4,P5,P6,P7,P8,P9,R0,R1,R2,R3,R4,R5,R6,R7,R8,R9,S0,S1,S2,S3,Kt,Kv,Kw,Kx,Ky,Kz,T0,T1,T2,T3,T4,T5,T6,T7,T8,T9,U0,U1,U2,U3,U4,U5,U6,U7,U8,U9,V0,V1,V2,V3,V4,V5,V6,V7,V8,V9,W0,W1,W2,W3,W4,W5,W6,W7,W8,W9,X0,X1,X2,X3,X4,X5,X6,X7,X8,X9,Y0,Y1,Y2,Y3,Y4,Y5,Y6,Y7,Y8,Y9,Z0,Z1,Z2,Z3,Z4,Z5,Z6,Z7,Z8,Z9,j0,j1,j2,j3,j4,j5,j6,j7,j8,j9,o0,o1,o2,o3,o4,o5,o6,o7,o8,o9,y0,y1,y2,y3,y4,y5,y6,y7,y8,y9,z0,z1,z2,z3,z4,z5,z6,z7,z8,z9,x0,x1,x2,x3,x4,x5,x6,x7,x8,x9,i0,i1,i2,i3,i4,i5,i6,i7,i8,i9,v0,v1,v2,v3], []⟩ w') :
    Code.wp Tryd.prog (subC [true, true, true, true, true, true, false, true, false, false, true, false, false, true, true, true, false, true, false, false, true, false, false, false] (Tryd.f11.body.getD .skip)) Q0 ⟨#[A0,A1,A2,A3,A4,A5,A6,A7,A8,A9,B0,B1,B2,B3,B4,B5,B6,.slice (some ⟨g, 0, none⟩) 8 c,B8,B9,C0,C1,C2,C3,C4,C5,C6,C7,C8,C9,D0,D1,D2,D3,D4,D5,D6,D7,D8,D9,E0,E1,E2,E3,E4,E5,E6,E7,E8,E9,G0,G1,G2,G3,G4,G5,G6,G7,G8,G9,H0,H1,H2,H3,H4,H5,H6,H7,H8,H9,I0,I1,I2,I3,I4,I5,I6,I7,I8,I9,J0,J1,J2,J3,J4,J5,J6,J7,J8,J9,K0,K1,K2,K3,K4,K5,K6,K7,K8,K9,M0,M1,M2,M3,M4,M5,M6,M7,M8,M9,O0,O1,O2,O3,O4,O5,O6,O7,O8,O9,P0,P1,P2,P3,P4,P5,P6,P7,P8,P9,R0,R1,R2,R3,R4,R5,R6,R7,R8,R9,S0,S1,S2,S3,S4,S5,S6,S7,S8,S9,T0,T1,T2,T3,T4,T5,T6,T7,T8,T9,U0,U1,U2,U3,U4,U5,U6,U7,U8,U9,V0,V1,V2,V3,V4,V5,V6,V7,V8,V9,W0,W1,W2,W3,W4,W5,W6,W7,W8,W9,X0,X1,X2,X3,X4,X5,X6,X7,X8,X9,Y0,Y1,Y2,Y3,Y4,Y5,Y6,Y7,Y8,Y9,Z0,Z1,Z2,Z3,Z4,Z5,Z6,Z7,Z8,Z9,j0,j1,j2,j3,j4,j5,j6,j7,j8,j9,o0,o1,o2,o3,o4,o5,o6,o7,o8,o9,y0,y1,y2,y3,y4,y5,y6,y7,y8,y9,z0,z1,z2,z3,z4,z5,z6,z7,z8,z9,x0,x1,x2,x3,x4,x5,x6,x7,x8,x9,i0,i1,i2,i3,i4,i5,i6,i7,i8,i9,v0,v1,v2,v3], []⟩ w := by
  have HX : Hid _ := hexit
  have HB : Hid (Below w.heap.size w w) := Below.refl _ _
  conv => arg 2; whnf
  go_quiet (fail)
  exact HX.out _ _ _ _ _ _ _ (by repeat' (with_reducible (first | exact HB.out | refine bl_al ?_ _ | refine bl_dn ?_ _ | refine bl_dr ?_)))

/-- Eight numbers in a block. -/
def VAt (w : World) (g : Nat) (q : N8) : Prop := w.cell? ⟨g, 0, none⟩ = some (.int .i64 q.a) ∧ w.cell? ⟨g, 1, none⟩ = some (.int .i64 q.b) ∧ w.cell? ⟨g, 2, none⟩ = some (.int .i64 q.c) ∧ w.cell? ⟨g, 3, none⟩ = some (.int .i64 q.d) ∧ w.cell? ⟨g, 4, none⟩ = some (.int .i64 q.e) ∧ w.cell? ⟨g, 5, none⟩ = some (.int .i64 q.f) ∧ w.cell? ⟨g, 6, none⟩ = some (.int .i64 q.g) ∧ w.cell? ⟨g, 7, none⟩ = some (.int .i64 q.h)
theorem VAt.up {w w' : World} {g : Nat} {q : N8} (h : VAt w g q) (hb : Below w.heap.size w w') (hg : g < w.heap.size) : VAt w' g q := by
  obtain ⟨h0, h1, h2, h3, h4, h5, h6, h7⟩ := h
  exact ⟨(hb.cell (p := ⟨g, 0, none⟩) hg).trans h0, (hb.cell (p := ⟨g, 1, none⟩) hg).trans h1, (hb.cell (p := ⟨g, 2, none⟩) hg).trans h2, (hb.cell (p := ⟨g, 3, none⟩) hg).trans h3, (hb.cell (p := ⟨g, 4, none⟩) hg).trans h4, (hb.cell (p := ⟨g, 5, none⟩) hg).trans h5, (hb.cell (p := ⟨g, 6, none⟩) hg).trans h6, (hb.cell (p := ⟨g, 7, none⟩) hg).trans h7⟩
theorem VAt.new (W : World) (q : N8) (b : Nat) (hb : b = W.heap.size) : VAt (W.alloc (.cells #[.int .i64 q.a, .int .i64 q.b, .int .i64 q.c, .int .i64 q.d, .int .i64 q.e, .int .i64 q.f, .int .i64 q.g, .int .i64 q.h] 3)) b q :=
  ⟨al_atC _ _ _ _ 0 _ hb rfl, al_atC _ _ _ _ 1 _ hb rfl, al_atC _ _ _ _ 2 _ hb rfl, al_atC _ _ _ _ 3 _ hb rfl, al_atC _ _ _ _ 4 _ hb rfl, al_atC _ _ _ _ 5 _ hb rfl, al_atC _ _ _ _ 6 _ hb rfl, al_atC _ _ _ _ 7 _ hb rfl⟩
theorem VAt.dr {w : World} {g : Nat} {q : N8} (h : VAt w g q) : VAt w.drew g q := h

set_option maxHeartbeats 4000000 in
set_option maxRecDepth 100000 in
theorem r37 (w : World) (q : N8) (hq : q.ok) (u x g c : Nat) (hu : u < 2 ^ 32) (hx : x < 2 ^ 33) (hv : VAt w g q) (hg : g < w.heap.size) (Q0 : Exit → Act → World → Prop)
    (hexit : ∀ (Sm Sq St Sv Sw Sx Sy Sz Tb Tc Tf Tg Th Tj Tk Tm Tq Tt Tv Tw Tx Ty Tz Ub Uc Uf Ug Uh Uj : Value) (g' : Nat) (w' : World), VAt w' g' ⟨(u + x) % 4294967296, q.a, q.b, q.c, (q.d + u) % 4294967296, q.e, q.f, q.g⟩ → g' < w'.heap.size → w.heap.size ≤ g' → Below w.heap.size w w' → Q0 .normal ⟨#[A0,A1,A2,A3,A4,A5,A6,A7,A8,A9,B0,B1,B2,B3,B4,B5,B6,.slice (some ⟨g', 0, none⟩) 8 8,B8,B9,C0,C1,.int .i64 u,C3,.int .i64 x,C5,C6,C7,C8,C9,D0,D1,D2,D3,D4,D5,D6,D7,D8,D9,E0,E1,E2,E3,E4,E5,E6,E7,E8,E9,G0,G1,G2,G3,G4,G5,G6,G7,G8,G9,H0,H1,H2,H3,H4,H5,H6,H7,H8,H9,I0,I1,I2,I3,I4,I5,I6,I7,I8,I9,J0,J1,J2,J3,J4,J5,J6,J7,J8,J9,K0,K1,K2,K3,K4,K5,K6,K7,K8,K9,M0,M1,M2,M3,M4,M5,M6,M7,M8,M9,O0,O1,O2,O3,O4,O5,O6,O7,O8,O9,P0,P1,P2,P3,P4,P5,P6,P7,P8,P9,R0,R1,R2,R3,R4,R5,R6,R7,R8,R9,S0,S1,S2,S3,S4,S5,S6,S7,S8,S9,T0,T1,T2,T3,T4,T5,T6,T7,T8,T9,U0,U1,U2,U3,U4,U5,U6,U7,U8,U9,V0,V1,V2,V3,V4,V5,V6,V7,V8,V9,W0,W1,W2,W3,W4,W5,W6,W7,W8,W9,X0,X1,X2,X3,X4,X5,X6,X7,X8,X9,Y0,Y1,Y2,Y3,Y4,Y5,Y6,Y7,Y8,Y9,Z0,Z1,Z2,Z3,Z4,Z5,Z6,Sm,Sq,St,Sv,Sw,Sx,Sy,Sz,Tb,Tc,Tf,Tg,Th,Tj,Tk,Tm,Tq,Tt,Tv,Tw,Tx,Ty,Tz,Ub,Uc,Uf,Ug,Uh,Uj,y6,y7,y8,y9,z0,z1,z2,z3,z4,z5,z6,z7,z8,z9,x0,x1,x2,x3,x4,x5,x6,x7,x8,x9,i0,i1,i2,i3,i4,i5,i6,i7,i8,i9,v0,v1,v2,v3], []⟩ w') :
    Code.wp Tryd.prog (subC [true, true, true, true, true, true, false, true, false, false, true, false, false, true, true, true, false, true, false, false, true, false, false, true, true, true, true, true] (Tryd.f11.body.getD .skip)) Q0 ⟨#[A0,A1,A2,A3,A4,A5,A6,A7,A8,A9,B0,B1,B2,B3,B4,B5,B6,.slice (some ⟨g, 0, none⟩) 8 c,B8,B9,C0,C1,.int .i64 u,C3,.int .i64 x,C5,C6,C7,C8,C9,D0,D1,D2,D3,D4,D5,D6,D7,D8,D9,E0,E1,E2,E3,E4,E5,E6,E7,E8,E9,G0,G1,G2,G3,G4,G5,G6,G7,G8,G9,H0,H1,H2,H3,H4,H5,H6,H7,H8,H9,I0,I1,I2,I3,I4,I5,I6,I7,I8,I9,J0,J1,J2,J3,J4,J5,J6,J7,J8,J9,K0,K1,K2,K3,K4,K5,K6,K7,K8,K9,M0,M1,M2,M3,M4,M5,M6,M7,M8,M9,O0,O1,O2,O3,O4,O5,O6,O7,O8,O9,P0,P1,P2,P3,P4,P5,P6,P7,P8,P9,R0,R1,R2,R3,R4,R5,R6,R7,R8,R9,S0,S1,S2,S3,S4,S5,S6,S7,S8,S9,T0,T1,T2,T3,T4,T5,T6,T7,T8,T9,U0,U1,U2,U3,U4,U5,U6,U7,U8,U9,V0,V1,V2,V3,V4,V5,V6,V7,V8,V9,W0,W1,W2,W3,W4,W5,W6,W7,W8,W9,X0,X1,X2,X3,X4,X5,X6,X7,X8,X9,Y0,Y1,Y2,Y3,Y4,Y5,Y6,Y7,Y8,Y9,Z0,Z1,Z2,Z3,Z4,Z5,Z6,Z7,Z8,Z9,j0,j1,j2,j3,j4,j5,j6,j7,j8,j9,o0,o1,o2,o3,o4,o5,o6,o7,o8,o9,y0,y1,y2,y3,y4,y5,y6,y7,y8,y9,z0,z1,z2,z3,z4,z5,z6,z7,z8,z9,x0,x1,x2,x3,x4,x5,x6,x7,x8,x9,i0,i1,i2,i3,i4,i5,i6,i7,i8,i9,v0,v1,v2,v3], []⟩ w := by
  obtain ⟨va, vb, vc, vd, ve, vf, vg, vh⟩ := q
  obtain ⟨ha, hb, hc, hd, he, hf, hgg, hh⟩ := hq
  simp only at ha hb hc hd he hf hgg hh
  simp only [VAt] at hv
  have HX : Hid _ := hexit
  have HB : Hid (Below w.heap.size w w) := Below.refl _ _
  obtain ⟨s1, hs1⟩ : ∃ s1, s1 = u + x := ⟨_, rfl⟩
  obtain ⟨s2, hs2⟩ : ∃ s2, s2 = vd + u := ⟨_, rfl⟩
  obtain ⟨m1, hm1⟩ : ∃ m1, m1 = s1 % 4294967296 := ⟨_, rfl⟩
  obtain ⟨m2, hm2⟩ : ∃ m2, m2 = s2 % 4294967296 := ⟨_, rfl⟩
  have e1 : (u : Int) + (x : Int) = (s1 : Int) := by omega
  have e2 : (vd : Int) + (u : Int) = (s2 : Int) := by omega
  have HW1 : Hid (∀ W : World, Calls Tryd.prog 32 #[.int .i64 s1] W fun e w' => e = .returned (.int .i64 (m1 : Int)) ∧ w' = W) := fun W => by rw [hm1]; exact Wrap_any s1 W
  have HW2 : Hid (∀ W : World, Calls Tryd.prog 32 #[.int .i64 s2] W fun e w' => e = .returned (.int .i64 (m2 : Int)) ∧ w' = W) := fun W => by rw [hm2]; exact Wrap_any s2 W
  rw [← hs1, ← hs2, ← hm1, ← hm2] at HX
  have f1 := wr60 s1 (by omega)
  have f2 := wr60 s2 (by omega)
  have HS : Hid (∀ W : World, Below w.heap.size w W → W.cell? ⟨g, 0, none⟩ = some (.int .i64 va) ∧ W.cell? ⟨g, 1, none⟩ = some (.int .i64 vb) ∧ W.cell? ⟨g, 2, none⟩ = some (.int .i64 vc) ∧ W.cell? ⟨g, 3, none⟩ = some (.int .i64 vd) ∧ W.cell? ⟨g, 4, none⟩ = some (.int .i64 ve) ∧ W.cell? ⟨g, 5, none⟩ = some (.int .i64 vf) ∧ W.cell? ⟨g, 6, none⟩ = some (.int .i64 vg)) := fun W hW => by
    obtain ⟨h0, h1, h2, h3, h4, h5, h6, h7⟩ := VAt.up (q := ⟨va, vb, vc, vd, ve, vf, vg, vh⟩) hv hW hg
    exact ⟨h0, h1, h2, h3, h4, h5, h6⟩
  clear hs1 hs2 hm1 hm2 ha hb hc hd he hf hgg hh hv hg hu hx
  conv => arg 2; whnf
  go_region_held3 (fun w' => w'.cell? ⟨g, 0, none⟩ = some (.int .i64 va) ∧ w'.cell? ⟨g, 1, none⟩ = some (.int .i64 vb) ∧ w'.cell? ⟨g, 2, none⟩ = some (.int .i64 vc) ∧ w'.cell? ⟨g, 3, none⟩ = some (.int .i64 vd) ∧ w'.cell? ⟨g, 4, none⟩ = some (.int .i64 ve) ∧ w'.cell? ⟨g, 5, none⟩ = some (.int .i64 vf) ∧ w'.cell? ⟨g, 6, none⟩ = some (.int .i64 vg))
    (first | (refine HS.out _ ?_; repeat' (with_reducible (first | exact HB.out | refine bl_al ?_ _ | refine bl_dn ?_ _ | refine bl_dr ?_))) | fail)
    (first
      | (go_at_call_of 32 (Value.int IntKind.i64 (s1 : Int)); refine (HW1.out _).mono ?_; rintro e w' ⟨rfl, rfl⟩)
      | (go_at_call_of 32 (Value.int IntKind.i64 (s2 : Int)); refine (HW2.out _).mono ?_; rintro e w' ⟨rfl, rfl⟩)
      | fail)
  all_goals exact HX.out _ _ _ _ _ _ _ _ _ _ _ _ _ _ _ _ _ _ _ _ _ _ _ _ _ _ _ _ _ _ _ (VAt.dr (VAt.new _ ⟨m1, va, vb, vc, m2, ve, vf, vg⟩ _ rfl)) (by simp [World.size_alloc]) (Nat.le_refl _) (by repeat' (with_reducible (first | exact HB.out | refine bl_al ?_ _ | refine bl_dn ?_ _ | refine bl_dr ?_)))
end Go.Proofs.YtoceglbdnbnjpaaDoor

/- The document's own Sum: its rounds. -/
namespace Go.Proofs.YtoceglbdnbnjpaaDoor
open Go.RowKit
variable (A0 A1 A2 A3 A4 A5 A6 A7 A8 A9 B0 B1 B2 B3 B4 B5 B6 B7 B8 B9 C0 C1 C2 C3 C4 C5 C6 C7 C8 C9 D0 D1 D2 D3 D4 D5 D6 D7 D8 D9 E0 E1 E2 E3 E4 E5 E6 E7 E8 E9 G0 G1 G2 G3 G4 G5 G6 G7 G8 G9 H0 H1 H2 H3 H4 H5 H6 H7 H8 H9 I0 I1 I2 I3 I4 I5 I6 I7 I8 I9 J0 J1 J2 J3 J4 J5 J6 J7 J8 J9 K0 K1 K2 K3 K4 K5 K6 K7 K8 K9 M0 M1 M2 M3 M4 M5 M6 M7 M8 M9 O0 O1 O2 O3 O4 O5 O6 O7 O8 O9 P0 P1 P2 P3 P4 P5 P6 P7 P8 P9 R0 R1 R2 R3 R4 R5 R6 R7 R8 R9 S0 S1 S2 S3 S4 S5 S6 S7 S8 S9 T0 T1 T2 T3 T4 T5 T6 T7 T8 T9 U0 U1 U2 U3 U4 U5 U6 U7 U8 U9 V0 V1 V2 V3 V4 V5 V6 V7 V8 V9 W0 W1 W2 W3 W4 W5 W6 W7 W8 W9 X0 X1 X2 X3 X4 X5 X6 X7 X8 X9 Y0 Y1 Y2 Y3 Y4 Y5 Y6 Y7 Y8 Y9 Z0 Z1 Z2 Z3 Z4 Z5 Z6 Z7 Z8 Z9 j0 j1 j2 j3 j4 j5 j6 j7 j8 j9 o0 o1 o2 o3 o4 o5 o6 o7 o8 o9 y0 y1 y2 y3 y4 y5 y6 y7 y8 y9 z0 z1 z2 z3 z4 z5 z6 z7 z8 z9 x0 x1 x2 x3 x4 x5 x6 x7 x8 x9 i0 i1 i2 i3 i4 i5 i6 i7 i8 i9 v0 v1 v2 v3 : Value)

theorem bl_tr {w w1 w2 : World} (h1 : Below w.heap.size w w1) (h2 : Below w1.heap.size w1 w2) : Below w.heap.size w w2 := h1.trans (h2.mono h1.size)
/-- Numbers in a block. -/
def LAt (w : World) (b : Nat) (l : List Nat) : Prop := ∀ j, j < l.length → w.cell? ⟨b, j, none⟩ = some (.int .i64 (l.getD j 0 : Nat))
theorem LAt.up {w w' : World} {b : Nat} {l : List Nat} (h : LAt w b l) (hb : Below w.heap.size w w') (hg : b < w.heap.size) : LAt w' b l := fun j hj => (hb.cell (p := ⟨b, j, none⟩) hg).trans (h j hj)
theorem roundsN_ok (wl ks : List Nat) (n : Nat) (s : N8) (h : s.ok) : (roundsN wl ks n s).ok := (rounds_nat wl ks n s h).2

theorem r36_facts (a m : Nat) (ha : a < 2 ^ 32) (hm : m < 2 ^ 32) :
    Hid (∀ W : World, Calls Tryd.prog 31 #[.int .i64 a, .int .i64 2] W fun e' w' => e' = .returned (.int .i64 (rightN a 2 : Nat)) ∧ ∃ m, w' = W.drewN m) ∧
    Hid (∀ W : World, Calls Tryd.prog 31 #[.int .i64 a, .int .i64 13] W fun e' w' => e' = .returned (.int .i64 (rightN a 13 : Nat)) ∧ ∃ m, w' = W.drewN m) ∧
    Hid (∀ W : World, Calls Tryd.prog 31 #[.int .i64 a, .int .i64 22] W fun e' w' => e' = .returned (.int .i64 (rightN a 22 : Nat)) ∧ ∃ m, w' = W.drewN m) ∧
    Hid (∀ (W : World) (b : Nat), W.cell? ⟨b, 0, none⟩ = some (.int .i64 (rightN a 2 : Nat)) → W.cell? ⟨b, 1, none⟩ = some (.int .i64 (rightN a 13 : Nat)) → W.cell? ⟨b, 2, none⟩ = some (.int .i64 (rightN a 22 : Nat)) → Calls Tryd.prog 30 #[.slice (some ⟨b, 0, none⟩) 3 3] W fun e' w' => e' = .returned (.int .i64 (big0N a : Nat)) ∧ w' = W) ∧
    big0N a + m < 2 ^ 33 := by
  have bl := (big_lt a ha).2.1
  have l1 := (right_lt a 2 ha (by decide)).2
  have l2 := (right_lt a 13 ha (by decide)).2
  have l3 := (right_lt a 22 ha (by decide)).2
  exact ⟨fun W => Right_any a 2 W ha (by decide) (by decide), fun W => Right_any a 13 W ha (by decide) (by decide), fun W => Right_any a 22 W ha (by decide) (by decide), fun W b => Xor_3 W b _ _ _ l1 l2 l3 _ rfl, by omega⟩
theorem r36_wrap (b m : Nat) (h : b + m < 2 ^ 33) : (b : Int) + (m : Int) = ((b + m : Nat) : Int) ∧ IntKind.i64.wrap ((b + m : Nat) : Int) = ((b + m : Nat) : Int) := ⟨by omega, wr60 _ (by omega)⟩

set_option maxHeartbeats 40000000 in
set_option maxRecDepth 100000 in
theorem loop6 (w : World) (q : N8) (hq : q.ok) (wl ks : List Nat) (hwl : ∀ x ∈ wl, x < 2 ^ 32) (hks : ∀ x ∈ ks, x < 2 ^ 32) (hwn : wl.length = 64) (hkn : ks.length = 64) (kb kc wb wc g c : Nat)
    (hk : LAt w kb ks) (hw : LAt w wb wl) (hkb : kb < w.heap.size) (hwb : wb < w.heap.size) (hv : VAt w g q) (hg : g < w.heap.size) (Q0 : Exit → Act → World → Prop)
    (hexit : ∀ (Bg Bh Bj Bk Bm Bq Bt Kj Kk Km Kq Kt Kv Kw Kx Ky Kz Mb Mc Mf Mg Mh Mj Mk Mm Mq Mt Mv Mw Mx My Mz Ob Oc Of Og Oh Oj Ok Om Oq Ot Ov Ow Ox Oy Oz Pb Pc Pf Pg Ph Pj Pk Pm Pq Pt Pv Pw Px Py Pz Rb Rc Rf Rg Rh Rj Rk Rm Rq Rt Rv Rw Rx Ry Rz Sb Sc Sf Sg Sh Sj Sk Sm Sq St Sv Sw Sx Sy Sz Tb Tc Tf Tg Th Tj Tk Tm Tq Tt Tv Tw Tx Ty Tz Ub Uc Uf Ug Uh Uj : Value) (g' c' : Nat) (w' : World), VAt w' g' (roundsN wl ks 64 q) → g' < w'.heap.size → (g' = g ∨ w.heap.size ≤ g') → Below w.heap.size w w' → Q0 (.exit 10) ⟨#[A0,A1,A2,A3,A4,A5,.slice (some ⟨kb, 0, none⟩) 64 kc,A7,A8,.slice (some ⟨wb, 0, none⟩) 64 wc,B0,B1,B2,B3,B4,B5,B6,.slice (some ⟨g', 0, none⟩) 8 c',Bg,Bh,Bj,Bk,Bm,Bq,Bt,C5,C6,C7,C8,C9,D0,D1,D2,D3,D4,D5,D6,D7,D8,D9,E0,E1,E2,E3,E4,E5,E6,E7,E8,E9,G0,G1,G2,G3,G4,G5,G6,G7,G8,G9,H0,H1,H2,H3,H4,H5,H6,H7,H8,H9,I0,I1,I2,I3,I4,I5,I6,I7,I8,I9,J0,J1,J2,J3,J4,J5,J6,J7,J8,J9,K0,K1,K2,K3,K4,K5,K6,K7,K8,K9,M0,M1,M2,M3,M4,M5,M6,M7,M8,M9,O0,O1,O2,O3,O4,O5,O6,O7,O8,O9,P0,P1,P2,P3,P4,P5,P6,P7,P8,P9,R0,R1,R2,R3,R4,R5,R6,R7,R8,R9,Kj,Kk,Km,Kq,Kt,Kv,Kw,Kx,Ky,Kz,Mb,Mc,Mf,Mg,Mh,Mj,Mk,Mm,Mq,Mt,Mv,Mw,Mx,My,Mz,Ob,Oc,Of,Og,Oh,Oj,Ok,Om,Oq,Ot,Ov,Ow,Ox,Oy,Oz,Pb,Pc,Pf,Pg,Ph,Pj,Pk,Pm,Pq,Pt,Pv,Pw,Px,Py,Pz,Rb,Rc,Rf,Rg,Rh,Rj,Rk,Rm,Rq,Rt,Rv,Rw,Rx,Ry,Rz,Sb,Sc,Sf,Sg,Sh,Sj,Sk,Sm,Sq,St,Sv,Sw,Sx,Sy,Sz,Tb,Tc,Tf,Tg,Th,Tj,Tk,Tm,Tq,Tt,Tv,Tw,Tx,Ty,Tz,Ub,Uc,Uf,Ug,Uh,Uj,y6,y7,y8,y9,z0,z1,z2,z3,z4,z5,z6,z7,z8,z9,x0,x1,x2,x3,x4,x5,x6,x7,x8,x9,i0,i1,i2,i3,i4,i5,i6,i7,i8,i9,v0,v1,v2,v3], []⟩ w') :
    Code.wp Tryd.prog (subC [true, true, true, true, true, true, false, true, false, false, true, false, false, true, true, true, false, true, false] (Tryd.f11.body.getD .skip)) Q0 ⟨#[A0,A1,A2,A3,A4,A5,.slice (some ⟨kb, 0, none⟩) 64 kc,A7,A8,.slice (some ⟨wb, 0, none⟩) 64 wc,B0,B1,B2,B3,B4,B5,B6,.slice (some ⟨g, 0, none⟩) 8 c,.int .i64 0,B9,C0,C1,C2,C3,C4,C5,C6,C7,C8,C9,D0,D1,D2,D3,D4,D5,D6,D7,D8,D9,E0,E1,E2,E3,E4,E5,E6,E7,E8,E9,G0,G1,G2,G3,G4,G5,G6,G7,G8,G9,H0,H1,H2,H3,H4,H5,H6,H7,H8,H9,I0,I1,I2,I3,I4,I5,I6,I7,I8,I9,J0,J1,J2,J3,J4,J5,J6,J7,J8,J9,K0,K1,K2,K3,K4,K5,K6,K7,K8,K9,M0,M1,M2,M3,M4,M5,M6,M7,M8,M9,O0,O1,O2,O3,O4,O5,O6,O7,O8,O9,P0,P1,P2,P3,P4,P5,P6,P7,P8,P9,R0,R1,R2,R3,R4,R5,R6,R7,R8,R9,S0,S1,S2,S3,S4,S5,S6,S7,S8,S9,T0,T1,T2,T3,T4,T5,T6,T7,T8,T9,U0,U1,U2,U3,U4,U5,U6,U7,U8,U9,V0,V1,V2,V3,V4,V5,V6,V7,V8,V9,W0,W1,W2,W3,W4,W5,W6,W7,W8,W9,X0,X1,X2,X3,X4,X5,X6,X7,X8,X9,Y0,Y1,Y2,Y3,Y4,Y5,Y6,Y7,Y8,Y9,Z0,Z1,Z2,Z3,Z4,Z5,Z6,Z7,Z8,Z9,j0,j1,j2,j3,j4,j5,j6,j7,j8,j9,o0,o1,o2,o3,o4,o5,o6,o7,o8,o9,y0,y1,y2,y3,y4,y5,y6,y7,y8,y9,z0,z1,z2,z3,z4,z5,z6,z7,z8,z9,x0,x1,x2,x3,x4,x5,x6,x7,x8,x9,i0,i1,i2,i3,i4,i5,i6,i7,i8,i9,v0,v1,v2,v3], []⟩ w := by
  have HX : Hid _ := hexit
  have HQ : Hid (q.ok ∧ VAt w g q ∧ g < w.heap.size) := ⟨hq, hv, hg⟩
  have HK : Hid (LAt w kb ks ∧ kb < w.heap.size ∧ (∀ x ∈ ks, x < 2 ^ 32) ∧ ks.length = 64) := ⟨hk, hkb, hks, hkn⟩
  have HW : Hid (LAt w wb wl ∧ wb < w.heap.size ∧ (∀ x ∈ wl, x < 2 ^ 32) ∧ wl.length = 64) := ⟨hw, hwb, hwl, hwn⟩
  clear hq hv hg hk hkb hks hkn hw hwb hwl hwn
  conv => arg 2; whnf
  dsimp only
  go_loopw [17, 18] (fun v i wr => ∃ (t g' c' : Nat) (r : N8), t ≤ 64 ∧ r = roundsN wl ks t q ∧ v = .slice (some ⟨g', 0, none⟩) 8 c' ∧ i = .int .i64 t ∧ VAt wr g' r ∧ g' < wr.heap.size ∧ (g' = g ∨ w.heap.size ≤ g') ∧ Below w.heap.size w wr) (fun _ i _ => 64 - (intOf i).toNat)
  case atStart => exact ⟨0, g, c, q, by omega, rfl, rfl, rfl, HQ.out.2.1, HQ.out.2.2, Or.inl rfl, Below.refl _ _⟩
  case round =>
    obtain ⟨t, g', c', r, ht, hr, rfl, rfl, hv, hg, hgo, hb⟩ := hrel
    have HGO : Hid (g' = g ∨ w.heap.size ≤ g') := hgo
    clear hgo
    have hrok : r.ok := by rw [hr]; exact roundsN_ok wl ks t q HQ.out.1
    have HV : Hid (VAt wr g' r ∧ g' < wr.heap.size ∧ Below w.heap.size w wr ∧ r.ok ∧ r = roundsN wl ks t q) := ⟨hv, hg, hb, hrok, hr⟩
    clear hv hg hb hrok hr
    by_cases hlt : t < 64
    · have hti : (t : Int) < 64 := by omega
      obtain ⟨va, vb, vc, vd, ve, vf, vg, vh⟩ := r
      have HKV : Hid (∀ W : World, Below wr.heap.size wr W → VAt W g' ⟨va, vb, vc, vd, ve, vf, vg, vh⟩ ∧ g' < W.heap.size ∧ W.cell? ⟨kb, t, none⟩ = some (.int .i64 (ks.getD t 0 : Nat)) ∧ kb < W.heap.size ∧ W.cell? ⟨wb, t, none⟩ = some (.int .i64 (wl.getD t 0 : Nat)) ∧ wb < W.heap.size) := fun W hW => by
        obtain ⟨h1, h2, h3, h4, h5⟩ := HV.out
        obtain ⟨k1, k2, k3, k4⟩ := HK.out
        obtain ⟨w1, w2, w3, w4⟩ := HW.out
        have hb := bl_tr h3 hW
        exact ⟨h1.up hW h2, Nat.lt_of_lt_of_le h2 hW.size, k1.up hb k2 t (by omega), Nat.lt_of_lt_of_le k2 hb.size, w1.up hb w2 t (by omega), Nat.lt_of_lt_of_le w2 hb.size⟩
      have hkl := get_lt ks HK.out.2.2.1 t
      have hwl := get_lt wl HW.out.2.2.1 t
      have HR : Hid (roundsN wl ks (t + 1) q = N8.step ⟨va, vb, vc, vd, ve, vf, vg, vh⟩ (ks.getD t 0) (wl.getD t 0)) := by
        show (roundsN wl ks t q).step _ _ = _
        rw [← HV.out.2.2.2.2]
      generalize ks.getD t 0 = kv at HKV HR hkl
      generalize wl.getD t 0 = wv at HKV HR hwl
      have HL : Hid (kv < 2 ^ 32 ∧ wv < 2 ^ 32) := ⟨hkl, hwl⟩
      clear hkl hwl
      go_wp2
      have v0 := (HKV.out wr (Below.refl _ _)).1
      refine r32 _ _ _ _ _ _ _ _ _ _ _ _ _ _ _ _ _ _ _ _ _ _ _ _ _ _ _ _ _ _ _ _ _ _ _ _ _ _ _ _ _ _ _ _ _ _ _ _ _ _ _ _ _ _ _ _ _ _ _ _ _ _ _ _ _ _ _ _ _ _ _ _ _ _ _ _ _ _ _ _ _ _ _ _ _ _ _ _ _ _ _ _ _ _ _ _ _ _ _ _ _ _ _ _ _ _ _ _ _ _ _ _ _ _ _ _ _ _ _ _ _ _ _ _ _ _ _ _ _ _ _ _ _ _ _ _ _ _ _ _ _ _ _ _ _ _ _ _ _ _ _ _ _ _ _ _ _ _ _ _ _ _ _ _ _ _ _ _ _ _ _ _ _ _ _ _ _ _ _ _ _ _ _ _ _ _ _ _ _ _ _ _ _ _ _ _ _ _ _ _ _ _ _ _ _ _ _ _ _ _ _ _ _ _ _ _ _ _ _ _ _ _ _ _ _ _ _ _ _ _ _ _ _ _ _ _ _ _ _ _ _ _ _ _ _ _ _ _ _ _ _ _ _ _ _ _ _ _ _ _ _ _ _ _ _ _ _ _ _ _ _ _ _ _ _ _ _ _ _ _ _ _ _ wr va ve g' c' v0.1 v0.2.2.2.2.1 _ ?_
      clear v0
      intro _ _ _ _ _ _ w1 hb1
      have H1 : Hid (Below wr.heap.size wr w1) := hb1
      clear hb1
      go_wp2
      obtain ⟨v1, g1, -⟩ := HKV.out w1 H1.out
      obtain ⟨oa, ob, oc, od, oe, of, og, oh⟩ := HV.out.2.2.2.1
      refine r33 _ _ _ _ _ _ _ _ _ _ _ _ _ _ _ _ _ _ _ _ _ _ _ _ _ _ _ _ _ _ _ _ _ _ _ _ _ _ _ _ _ _ _ _ _ _ _ _ _ _ _ _ _ _ _ _ _ _ _ _ _ _ _ _ _ _ _ _ _ _ _ _ _ _ _ _ _ _ _ _ _ _ _ _ _ _ _ _ _ _ _ _ _ _ _ _ _ _ _ _ _ _ _ _ _ _ _ _ _ _ _ _ _ _ _ _ _ _ _ _ _ _ _ _ _ _ _ _ _ _ _ _ _ _ _ _ _ _ _ _ _ _ _ _ _ _ _ _ _ _ _ _ _ _ _ _ _ _ _ _ _ _ _ _ _ _ _ _ _ _ _ _ _ _ _ _ _ _ _ _ _ _ _ _ _ _ _ _ _ _ _ _ _ _ _ _ _ _ _ _ _ _ _ _ _ _ _ _ _ _ _ _ _ _ _ _ _ _ _ _ _ _ _ _ _ _ _ _ _ _ _ _ _ _ _ _ _ _ _ _ _ _ _ _ _ _ _ _ _ _ _ _ _ _ _ _ _ _ _ _ _ _ _ _ _ _ _ _ _ _ _ _ _ _ _ _ _ _ _ _ _ _ w1 ve vf vg g' c' oe of og v1.2.2.2.2.2.1 v1.2.2.2.2.2.2.1 g1 _ ?_
      clear v1 g1 oa ob oc od oe of og oh
      intro _ _ _ _ _ _ _ _ _ _ _ _ _ w2 hb2
      have H2 : Hid (Below wr.heap.size wr w2) := bl_tr H1.out hb2
      clear hb2
      go_wp2
      obtain ⟨v1, g1, ck, kk, cw, ww⟩ := HKV.out w2 H2.out
      obtain ⟨oa, ob, oc, od, oe, of, og, oh⟩ := HV.out.2.2.2.1
      refine r34 _ _ _ _ _ _ _ _ _ _ _ _ _ _ _ _ _ _ _ _ _ _ _ _ _ _ _ _ _ _ _ _ _ _ _ _ _ _ _ _ _ _ _ _ _ _ _ _ _ _ _ _ _ _ _ _ _ _ _ _ _ _ _ _ _ _ _ _ _ _ _ _ _ _ _ _ _ _ _ _ _ _ _ _ _ _ _ _ _ _ _ _ _ _ _ _ _ _ _ _ _ _ _ _ _ _ _ _ _ _ _ _ _ _ _ _ _ _ _ _ _ _ _ _ _ _ _ _ _ _ _ _ _ _ _ _ _ _ _ _ _ _ _ _ _ _ _ _ _ _ _ _ _ _ _ _ _ _ _ _ _ _ _ _ _ _ _ _ _ _ _ _ _ _ _ _ _ _ _ _ _ _ _ _ _ _ _ _ _ _ _ _ _ _ _ _ _ _ _ _ _ _ _ _ _ _ _ _ _ _ _ _ _ _ _ _ _ _ _ _ _ _ _ _ _ _ _ _ _ _ _ _ _ _ _ _ _ _ _ _ _ _ _ _ _ _ _ _ _ _ _ _ _ _ _ _ _ _ _ _ _ _ _ _ _ _ _ _ _ _ _ _ _ _ _ _ _ _ w2 ve vh (chN ve vf vg) kv wv g' c' kb kc wb wc t oe oh (ch_nat ve vf vg oe of og).2 HL.out.1 HL.out.2 hlt v1.2.2.2.2.2.2.2 ck cw g1 kk ww _ ?_
      clear v1 g1 ck kk cw ww oa ob oc od oe of og oh
      intro _ _ _ _ _ _ _ _ _ _ _ _ _ _ _ _ _ _ _ _ _ _ _ _ _ w3 hb3
      have H3 : Hid (Below wr.heap.size wr w3) := bl_tr H2.out hb3
      clear hb3
      go_wp2
      obtain ⟨v1, g1, -⟩ := HKV.out w3 H3.out
      obtain ⟨oa, ob, oc, od, oe, of, og, oh⟩ := HV.out.2.2.2.1
      refine r35 _ _ _ _ _ _ _ _ _ _ _ _ _ _ _ _ _ _ _ _ _ _ _ _ _ _ _ _ _ _ _ _ _ _ _ _ _ _ _ _ _ _ _ _ _ _ _ _ _ _ _ _ _ _ _ _ _ _ _ _ _ _ _ _ _ _ _ _ _ _ _ _ _ _ _ _ _ _ _ _ _ _ _ _ _ _ _ _ _ _ _ _ _ _ _ _ _ _ _ _ _ _ _ _ _ _ _ _ _ _ _ _ _ _ _ _ _ _ _ _ _ _ _ _ _ _ _ _ _ _ _ _ _ _ _ _ _ _ _ _ _ _ _ _ _ _ _ _ _ _ _ _ _ _ _ _ _ _ _ _ _ _ _ _ _ _ _ _ _ _ _ _ _ _ _ _ _ _ _ _ _ _ _ _ _ _ _ _ _ _ _ _ _ _ _ _ _ _ _ _ _ _ _ _ _ _ _ _ _ _ _ _ _ _ _ _ _ _ _ _ _ _ _ _ _ _ _ _ _ _ _ _ _ _ _ _ _ _ _ _ _ _ _ _ _ _ _ _ _ _ _ _ _ _ _ _ _ _ _ _ _ _ _ _ _ _ _ _ _ _ _ _ _ _ _ _ _ _ _ _ _ _ w3 va vb vc g' c' oa ob oc v1.2.1 v1.2.2.1 g1 _ ?_
      clear v1 g1 oa ob oc od oe of og oh
      intro _ _ _ _ _ _ _ _ _ _ _ _ _ _ _ _ _ _ _ w4 hb4
      have H4 : Hid (Below wr.heap.size wr w4) := bl_tr H3.out hb4
      clear hb4
      obtain ⟨HA1, HA2, HA3, HXO, hs1⟩ := r36_facts va (majN va vb vc) HV.out.2.2.2.1.1 (maj_nat va vb vc HV.out.2.2.2.1.1 HV.out.2.2.2.1.2.1 HV.out.2.2.2.1.2.2.1).2
      generalize rightN va 2 = p1 at HA1 HXO
      generalize rightN va 13 = p2 at HA2 HXO
      generalize rightN va 22 = p3 at HA3 HXO
      have HSX : Hid (big0N va + majN va vb vc < 2 ^ 33) := hs1
      have f0 := r36_wrap (big0N va) (majN va vb vc) hs1
      have HSM : Hid (∃ s1, s1 = big0N va + majN va vb vc) := ⟨_, rfl⟩
      obtain ⟨s1, hs1'⟩ := HSM.out
      rw [← hs1'] at f0
      have HSE : Hid (s1 = big0N va + majN va vb vc) := hs1'
      generalize big0N va = bg at HXO f0
      clear hs1 hs1' HSM
      obtain ⟨f1, f2⟩ := f0
      go_wp2_with fail
      refine (HA1.out _).mono ?_
      rintro e w' ⟨rfl, m1, rfl⟩
      go_wp2_with fail
      refine (HA2.out _).mono ?_
      rintro e w' ⟨rfl, m2, rfl⟩
      go_wp2_with fail
      refine (HA3.out _).mono ?_
      rintro e w' ⟨rfl, m3, rfl⟩
      go_wp2_with fail
      refine (HXO.out _ _ (al_atC _ _ _ _ 0 _ rfl rfl) (al_atC _ _ _ _ 1 _ rfl rfl) (al_atC _ _ _ _ 2 _ rfl rfl)).mono ?_
      rintro e w' ⟨rfl, rfl⟩
      go_wp2
      have HBW : Hid (Below w4.heap.size w4 w4) := Below.refl _ _
      refine r37 _ _ _ _ _ _ _ _ _ _ _ _ _ _ _ _ _ _ _ _ _ _ _ _ _ _ _ _ _ _ _ _ _ _ _ _ _ _ _ _ _ _ _ _ _ _ _ _ _ _ _ _ _ _ _ _ _ _ _ _ _ _ _ _ _ _ _ _ _ _ _ _ _ _ _ _ _ _ _ _ _ _ _ _ _ _ _ _ _ _ _ _ _ _ _ _ _ _ _ _ _ _ _ _ _ _ _ _ _ _ _ _ _ _ _ _ _ _ _ _ _ _ _ _ _ _ _ _ _ _ _ _ _ _ _ _ _ _ _ _ _ _ _ _ _ _ _ _ _ _ _ _ _ _ _ _ _ _ _ _ _ _ _ _ _ _ _ _ _ _ _ _ _ _ _ _ _ _ _ _ _ _ _ _ _ _ _ _ _ _ _ _ _ _ _ _ _ _ _ _ _ _ _ _ _ _ _ _ _ _ _ _ _ _ _ _ _ _ _ _ _ _ _ _ _ _ _ _ _ _ _ _ _ _ _ _ _ _ _ _ _ _ _ _ _ _ _ _ _ _ _ _ _ _ _ _ _ _ _ _ _ _ _ _ _ _ _ _ _ _ _ _ _ _ _ _ _ _ _ _ _ _ ⟨va, vb, vc, vd, ve, vf, vg, vh⟩ HV.out.2.2.2.1 ((vh + big1N ve + chN ve vf vg + kv + wv) % 4294967296) s1 g' c' (Nat.mod_lt _ (by decide)) (by rw [HSE.out]; exact HSX.out) ?hv ?hg _ ?_
      case hv => exact (HKV.out _ (bl_tr H4.out (by repeat' (with_reducible (first | exact HBW.out | refine bl_al ?_ _ | refine bl_dn ?_ _ | refine bl_dr ?_))))).1
      case hg => exact (HKV.out _ (bl_tr H4.out (by repeat' (with_reducible (first | exact HBW.out | refine bl_al ?_ _ | refine bl_dn ?_ _ | refine bl_dr ?_))))).2.1
      intro _ _ _ _ _ _ _ _ _ _ _ _ _ _ _ _ _ _ _ _ _ _ _ _ _ _ _ _ _ g6 w6 hv6 hg6 hge6 hb6
      have HGE : Hid (w.heap.size ≤ g6) := Nat.le_trans (bl_tr HV.out.2.2.1 (bl_tr H4.out (by repeat' (with_reducible (first | exact HBW.out | refine bl_al ?_ _ | refine bl_dn ?_ _ | refine bl_dr ?_))))).size hge6
      clear hge6
      have H6 : Hid (Below wr.heap.size wr w6) := bl_tr (bl_tr H4.out (by repeat' (with_reducible (first | exact HBW.out | refine bl_al ?_ _ | refine bl_dn ?_ _ | refine bl_dr ?_)))) hb6
      rw [HSE.out] at hv6
      have HV6 : Hid (VAt w6 g6 (roundsN wl ks (t + 1) q)) := by rw [HR.out]; exact hv6
      clear hb6 hv6 f1 f2
      go_wp2
      refine ⟨⟨t + 1, g6, 8, _, by omega, rfl, rfl, by go_num, HV6.out, hg6, Or.inr HGE.out, bl_tr HV.out.2.2.1 H6.out⟩, by simp [intOf]; omega⟩
    · obtain rfl : t = 64 := by omega
      go_wp2
      obtain ⟨h1, h2, h3, h4, h5⟩ := HV.out
      exact HX.out _ _ _ _ _ _ _ _ _ _ _ _ _ _ _ _ _ _ _ _ _ _ _ _ _ _ _ _ _ _ _ _ _ _ _ _ _ _ _ _ _ _ _ _ _ _ _ _ _ _ _ _ _ _ _ _ _ _ _ _ _ _ _ _ _ _ _ _ _ _ _ _ _ _ _ _ _ _ _ _ _ _ _ _ _ _ _ _ _ _ _ _ _ _ _ _ _ _ _ _ _ _ _ _ _ _ _ _ _ _ _ _ _ _ _ _ (by rw [← h5]; exact h1) h2 HGO.out h3
end Go.Proofs.YtoceglbdnbnjpaaDoor

/- The document's own Sum: what is added behind the rounds. -/
namespace Go.Proofs.YtoceglbdnbnjpaaDoor
open Go.RowKit
variable (A0 A1 A2 A3 A4 A5 A6 A7 A8 A9 B0 B1 B2 B3 B4 B5 B6 B7 B8 B9 C0 C1 C2 C3 C4 C5 C6 C7 C8 C9 D0 D1 D2 D3 D4 D5 D6 D7 D8 D9 E0 E1 E2 E3 E4 E5 E6 E7 E8 E9 G0 G1 G2 G3 G4 G5 G6 G7 G8 G9 H0 H1 H2 H3 H4 H5 H6 H7 H8 H9 I0 I1 I2 I3 I4 I5 I6 I7 I8 I9 J0 J1 J2 J3 J4 J5 J6 J7 J8 J9 K0 K1 K2 K3 K4 K5 K6 K7 K8 K9 M0 M1 M2 M3 M4 M5 M6 M7 M8 M9 O0 O1 O2 O3 O4 O5 O6 O7 O8 O9 P0 P1 P2 P3 P4 P5 P6 P7 P8 P9 R0 R1 R2 R3 R4 R5 R6 R7 R8 R9 S0 S1 S2 S3 S4 S5 S6 S7 S8 S9 T0 T1 T2 T3 T4 T5 T6 T7 T8 T9 U0 U1 U2 U3 U4 U5 U6 U7 U8 U9 V0 V1 V2 V3 V4 V5 V6 V7 V8 V9 W0 W1 W2 W3 W4 W5 W6 W7 W8 W9 X0 X1 X2 X3 X4 X5 X6 X7 X8 X9 Y0 Y1 Y2 Y3 Y4 Y5 Y6 Y7 Y8 Y9 Z0 Z1 Z2 Z3 Z4 Z5 Z6 Z7 Z8 Z9 j0 j1 j2 j3 j4 j5 j6 j7 j8 j9 o0 o1 o2 o3 o4 o5 o6 o7 o8 o9 y0 y1 y2 y3 y4 y5 y6 y7 y8 y9 z0 z1 z2 z3 z4 z5 z6 z7 z8 z9 x0 x1 x2 x3 x4 x5 x6 x7 x8 x9 i0 i1 i2 i3 i4 i5 i6 i7 i8 i9 v0 v1 v2 v3 : Value)

def N8.l (q : N8) : List Nat := [q.a, q.b, q.c, q.d, q.e, q.f, q.g, q.h]
theorem N8.l_lt {q : N8} (h : q.ok) (j : Nat) : q.l.getD j 0 < 2 ^ 32 := get_lt q.l (by
  obtain ⟨h1, h2, h3, h4, h5, h6, h7, h8⟩ := h
  intro x hx
  simp [N8.l] at hx
  rcases hx with rfl | rfl | rfl | rfl | rfl | rfl | rfl | rfl <;> assumption) j
/-- Block b holds these numbers, and no more. -/
def HAt (w : World) (b : Nat) (l : List Nat) : Prop := w.heap[b]? = some (.cells (intCells l) 3 (0, 0))
theorem HAt.lat {w : World} {b : Nat} {l : List Nat} (h : HAt w b l) : LAt w b l := fun j hj => by
  rw [Lib.cell_of_heap h, List.getD_eq_getElem?_getD, List.getElem?_eq_getElem hj]
  simp [intCells, hj]
theorem HAt.fro {w : World} {b : Nat} {l : List Nat} (h : HAt w b l) (k : Nat) : w.frozen? ⟨b, k, none⟩ = false := Lib.frozen_of_heap h k
theorem HAt.up {B : Nat} {w w' : World} {b : Nat} {l : List Nat} (h : HAt w b l) (hb : Below B w w') (hB : b < B) : HAt w' b l := (hb.block b hB).trans h
theorem HAt.lt {w : World} {b : Nat} {l : List Nat} (h : HAt w b l) : b < w.heap.size := (Array.getElem?_eq_some_iff.1 h).1
theorem HAt.set {w : World} {b : Nat} {l : List Nat} (h : HAt w b l) (k v : Nat) : HAt (w.setCell ⟨b, k, none⟩ (.int .i64 (v : Int))) b (l.set k v) := by
  have := heap_setCell_same w b k _ 3 (.int .i64 (v : Int)) h
  unfold HAt intCells at *
  rw [this]
  congr 2
  apply Array.toList_inj.1
  simp [List.map_set]
theorem VAt.at {w : World} {g : Nat} {q : N8} (h : VAt w g q) (j : Nat) (hj : j < 8) : w.cell? ⟨g, j, none⟩ = some (.int .i64 (q.l.getD j 0 : Nat)) := by
  obtain ⟨h0, h1, h2, h3, h4, h5, h6, h7⟩ := h
  match j, hj with
  | 0, _ => exact h0
  | 1, _ => exact h1
  | 2, _ => exact h2
  | 3, _ => exact h3
  | 4, _ => exact h4
  | 5, _ => exact h5
  | 6, _ => exact h6
  | 7, _ => exact h7
theorem VAt.far {w : World} {g b k : Nat} {v : Value} {q : N8} (h : VAt w g q) (hne : b ≠ g) : VAt (w.setCell ⟨b, k, none⟩ v) g q := by
  obtain ⟨h0, h1, h2, h3, h4, h5, h6, h7⟩ := h
  have e := fun j => World.cell?_setCell_far w ⟨b, k, none⟩ ⟨g, j, none⟩ v hne
  exact ⟨(e 0).trans h0, (e 1).trans h1, (e 2).trans h2, (e 3).trans h3, (e 4).trans h4, (e 5).trans h5, (e 6).trans h6, (e 7).trans h7⟩
def AddedN (x y : List Nat) (j : Nat) (l : List Nat) : Prop := l.length = 8 ∧ ∀ t, l.getD t 0 = if t < j then (x.getD t 0 + y.getD t 0) % 4294967296 else x.getD t 0
theorem AddedN.zero (x y : List Nat) (h : x.length = 8) : AddedN x y 0 x := ⟨h, fun t => by rw [if_neg (by omega)]⟩
theorem AddedN.step {x y l : List Nat} {j : Nat} (h : AddedN x y j l) (hj : j < 8) : AddedN x y (j + 1) (l.set j ((l.getD j 0 + y.getD j 0) % 4294967296)) := by
  have h8 := h.1
  refine ⟨by simpa using h.1, fun t => ?_⟩
  have ht := h.2 t
  have hjj := h.2 j
  rw [if_neg (by omega)] at hjj
  by_cases e : t = j
  · subst e
    rw [if_pos (by omega), List.getD_eq_getElem?_getD, List.getElem?_set_self (by omega), Option.getD_some, hjj]
  · rw [List.getD_eq_getElem?_getD, List.getElem?_set_ne (by omega), ← List.getD_eq_getElem?_getD, ht]
    by_cases e2 : t < j
    · rw [if_pos e2, if_pos (by omega)]
    · rw [if_neg e2, if_neg (by omega)]
/-- Two states, added. -/
def addN (q r : N8) : N8 := ⟨(q.a + r.a) % 4294967296, (q.b + r.b) % 4294967296, (q.c + r.c) % 4294967296, (q.d + r.d) % 4294967296, (q.e + r.e) % 4294967296, (q.f + r.f) % 4294967296, (q.g + r.g) % 4294967296, (q.h + r.h) % 4294967296⟩
theorem AddedN.done {q r : N8} {l : List Nat} (h : AddedN q.l r.l 8 l) : l = (addN q r).l := by
  refine List.ext_getElem (by rw [h.1]; rfl) fun t h1 h2 => ?_
  have ht := h.2 t
  have h8 := h.1
  rw [if_pos (by omega), List.getD_eq_getElem?_getD, List.getElem?_eq_getElem h1, Option.getD_some] at ht
  rw [ht]
  match t, (show t < 8 by omega) with
  | 0, _ => rfl
  | 1, _ => rfl
  | 2, _ => rfl
  | 3, _ => rfl
  | 4, _ => rfl
  | 5, _ => rfl
  | 6, _ => rfl
  | 7, _ => rfl
theorem l_eight (q : N8) : q.l.length = 8 := rfl
theorem AddedN.lt {q r : N8} {j : Nat} {l : List Nat} (h : AddedN q.l r.l j l) (hq : q.ok) (t : Nat) : l.getD t 0 < 2 ^ 32 := by
  rw [h.2 t]
  split
  · exact Nat.mod_lt _ (by decide)
  · exact N8.l_lt hq t

set_option maxHeartbeats 40000000 in
set_option maxRecDepth 100000 in
theorem loop7 (w : World) (q r : N8) (hq : q.ok) (hr : r.ok) (hb hc g c : Nat) (hh : HAt w hb q.l) (hv : VAt w g r) (hne : hb ≠ g) (Q0 : Exit → Act → World → Prop)
    (hexit : ∀ (Bv Uk Um Uq Ut Uv Uw Ux Uy Uz Vb Vc Vf Vg Vh Vj Vk Vm : Value) (w' : World), HAt w' hb (addN q r).l → Below hb w w' → Q0 (.exit 12) ⟨#[A0,A1,A2,A3,A4,A5,A6,.slice (some ⟨hb, 0, none⟩) 8 hc,A8,A9,B0,B1,B2,B3,B4,B5,B6,.slice (some ⟨g, 0, none⟩) 8 c,B8,B9,C0,C1,C2,C3,C4,Bv,C6,C7,C8,C9,D0,D1,D2,D3,D4,D5,D6,D7,D8,D9,E0,E1,E2,E3,E4,E5,E6,E7,E8,E9,G0,G1,G2,G3,G4,G5,G6,G7,G8,G9,H0,H1,H2,H3,H4,H5,H6,H7,H8,H9,I0,I1,I2,I3,I4,I5,I6,I7,I8,I9,J0,J1,J2,J3,J4,J5,J6,J7,J8,J9,K0,K1,K2,K3,K4,K5,K6,K7,K8,K9,M0,M1,M2,M3,M4,M5,M6,M7,M8,M9,O0,O1,O2,O3,O4,O5,O6,O7,O8,O9,P0,P1,P2,P3,P4,P5,P6,P7,P8,P9,R0,R1,R2,R3,R4,R5,R6,R7,R8,R9,S0,S1,S2,S3,S4,S5,S6,S7,S8,S9,T0,T1,T2,T3,T4,T5,T6,T7,T8,T9,U0,U1,U2,U3,U4,U5,U6,U7,U8,U9,V0,V1,V2,V3,V4,V5,V6,V7,V8,V9,W0,W1,W2,W3,W4,W5,W6,W7,W8,W9,X0,X1,X2,X3,X4,X5,X6,X7,X8,X9,Y0,Y1,Y2,Y3,Y4,Y5,Y6,Y7,Y8,Y9,Z0,Z1,Z2,Z3,Z4,Z5,Z6,Z7,Z8,Z9,j0,j1,j2,j3,j4,j5,j6,j7,j8,j9,o0,o1,o2,o3,o4,o5,o6,o7,o8,o9,y0,y1,y2,y3,y4,y5,Uk,Um,Uq,Ut,Uv,Uw,Ux,Uy,Uz,Vb,Vc,Vf,Vg,Vh,Vj,Vk,Vm,x3,x4,x5,x6,x7,x8,x9,i0,i1,i2,i3,i4,i5,i6,i7,i8,i9,v0,v1,v2,v3], []⟩ w') :
    Code.wp Tryd.prog (subC [true, true, true, true, true, true, false, true, false, false, true, false, false, true, true, true, true, true, false] (Tryd.f11.body.getD .skip)) Q0 ⟨#[A0,A1,A2,A3,A4,A5,A6,.slice (some ⟨hb, 0, none⟩) 8 hc,A8,A9,B0,B1,B2,B3,B4,B5,B6,.slice (some ⟨g, 0, none⟩) 8 c,B8,B9,C0,C1,C2,C3,C4,.int .i64 0,C6,C7,C8,C9,D0,D1,D2,D3,D4,D5,D6,D7,D8,D9,E0,E1,E2,E3,E4,E5,E6,E7,E8,E9,G0,G1,G2,G3,G4,G5,G6,G7,G8,G9,H0,H1,H2,H3,H4,H5,H6,H7,H8,H9,I0,I1,I2,I3,I4,I5,I6,I7,I8,I9,J0,J1,J2,J3,J4,J5,J6,J7,J8,J9,K0,K1,K2,K3,K4,K5,K6,K7,K8,K9,M0,M1,M2,M3,M4,M5,M6,M7,M8,M9,O0,O1,O2,O3,O4,O5,O6,O7,O8,O9,P0,P1,P2,P3,P4,P5,P6,P7,P8,P9,R0,R1,R2,R3,R4,R5,R6,R7,R8,R9,S0,S1,S2,S3,S4,S5,S6,S7,S8,S9,T0,T1,T2,T3,T4,T5,T6,T7,T8,T9,U0,U1,U2,U3,U4,U5,U6,U7,U8,U9,V0,V1,V2,V3,V4,V5,V6,V7,V8,V9,W0,W1,W2,W3,W4,W5,W6,W7,W8,W9,X0,X1,X2,X3,X4,X5,X6,X7,X8,X9,Y0,Y1,Y2,Y3,Y4,Y5,Y6,Y7,Y8,Y9,Z0,Z1,Z2,Z3,Z4,Z5,Z6,Z7,Z8,Z9,j0,j1,j2,j3,j4,j5,j6,j7,j8,j9,o0,o1,o2,o3,o4,o5,o6,o7,o8,o9,y0,y1,y2,y3,y4,y5,y6,y7,y8,y9,z0,z1,z2,z3,z4,z5,z6,z7,z8,z9,x0,x1,x2,x3,x4,x5,x6,x7,x8,x9,i0,i1,i2,i3,i4,i5,i6,i7,i8,i9,v0,v1,v2,v3], []⟩ w := by
  have HX : Hid _ := hexit
  have HQ : Hid (q.ok ∧ r.ok ∧ hb ≠ g ∧ HAt w hb q.l ∧ VAt w g r) := ⟨hq, hr, hne, hh, hv⟩
  clear hq hr hne hh hv
  conv => arg 2; whnf
  dsimp only
  go_loopw [25] (fun i wr => ∃ (j : Nat) (l : List Nat), j ≤ 8 ∧ i = .int .i64 j ∧ AddedN q.l r.l j l ∧ HAt wr hb l ∧ VAt wr g r ∧ Below hb w wr) (fun i _ => 8 - (intOf i).toNat)
  case atStart => exact ⟨0, q.l, by omega, rfl, AddedN.zero _ _ rfl, HQ.out.2.2.2.1, HQ.out.2.2.2.2, Below.refl _ _⟩
  case round =>
    obtain ⟨j, l, hj, rfl, had, hh, hv, hbl⟩ := hrel
    have HV : Hid (AddedN q.l r.l j l ∧ HAt wr hb l ∧ VAt wr g r ∧ Below hb w wr) := ⟨had, hh, hv, hbl⟩
    clear had hh hv hbl
    by_cases hlt : j < 8
    · have hji : (j : Int) < 8 := by omega
      have c1 := HV.out.2.1.lat j (by rw [HV.out.1.1]; exact hlt)
      have c2 := HV.out.2.2.1.at j hlt
      have f0 := HV.out.2.1.fro j
      have l1 := AddedN.lt HV.out.1 HQ.out.1 j
      have l2 := N8.l_lt HQ.out.2.1 j
      have HN : Hid (AddedN q.l r.l (j + 1) (l.set j ((l.getD j 0 + r.l.getD j 0) % 4294967296))) := HV.out.1.step hlt
      generalize l.getD j 0 = x at c1 l1 HN
      generalize r.l.getD j 0 = y at c2 l2 HN
      obtain ⟨s, hs⟩ : ∃ s, s = x + y := ⟨_, rfl⟩
      obtain ⟨m, hm⟩ : ∃ m, m = s % 4294967296 := ⟨_, rfl⟩
      rw [← hs, ← hm] at HN
      have e1 : (x : Int) + (y : Int) = (s : Int) := by omega
      have HW : Hid (∀ W : World, Calls Tryd.prog 32 #[.int .i64 s] W fun e w' => e = .returned (.int .i64 (m : Int)) ∧ w' = W) := fun W => by rw [hm]; exact Wrap_any s W
      have f1 := wr60 s (by omega)
      clear hm hs l1 l2
      go_wp2
      refine wp_region_noPanic ?_
      go_region_with (go_at_call 32; refine (HW.out _).mono ?_; rintro e w' ⟨rfl, rfl⟩)
      all_goals clear f1
      all_goals refine NoPanic.normal ?_
      all_goals go_wp2
      all_goals refine ⟨⟨j + 1, _, by omega, by go_num, HN.out, HV.out.2.1.set j m, HV.out.2.2.1.far HQ.out.2.2.1, (HV.out.2.2.2.setCell (p := ⟨hb, j, none⟩) (Nat.le_refl _) _).drew⟩, by simp [intOf]; omega⟩
    · obtain rfl : j = 8 := by omega
      go_wp2
      obtain ⟨h1, h2, h3, h4⟩ := HV.out
      exact HX.out _ _ _ _ _ _ _ _ _ _ _ _ _ _ _ _ _ _ _ (by rw [← h1.done]; exact h2) h4
end Go.Proofs.YtoceglbdnbnjpaaDoor

/- The document's own Sum: the words of a block. -/
namespace Go.Proofs.YtoceglbdnbnjpaaDoor
open Go.RowKit
variable (A0 A1 A2 A3 A4 A5 A6 A7 A8 A9 B0 B1 B2 B3 B4 B5 B6 B7 B8 B9 C0 C1 C2 C3 C4 C5 C6 C7 C8 C9 D0 D1 D2 D3 D4 D5 D6 D7 D8 D9 E0 E1 E2 E3 E4 E5 E6 E7 E8 E9 G0 G1 G2 G3 G4 G5 G6 G7 G8 G9 H0 H1 H2 H3 H4 H5 H6 H7 H8 H9 I0 I1 I2 I3 I4 I5 I6 I7 I8 I9 J0 J1 J2 J3 J4 J5 J6 J7 J8 J9 K0 K1 K2 K3 K4 K5 K6 K7 K8 K9 M0 M1 M2 M3 M4 M5 M6 M7 M8 M9 O0 O1 O2 O3 O4 O5 O6 O7 O8 O9 P0 P1 P2 P3 P4 P5 P6 P7 P8 P9 R0 R1 R2 R3 R4 R5 R6 R7 R8 R9 S0 S1 S2 S3 S4 S5 S6 S7 S8 S9 T0 T1 T2 T3 T4 T5 T6 T7 T8 T9 U0 U1 U2 U3 U4 U5 U6 U7 U8 U9 V0 V1 V2 V3 V4 V5 V6 V7 V8 V9 W0 W1 W2 W3 W4 W5 W6 W7 W8 W9 X0 X1 X2 X3 X4 X5 X6 X7 X8 X9 Y0 Y1 Y2 Y3 Y4 Y5 Y6 Y7 Y8 Y9 Z0 Z1 Z2 Z3 Z4 Z5 Z6 Z7 Z8 Z9 j0 j1 j2 j3 j4 j5 j6 j7 j8 j9 o0 o1 o2 o3 o4 o5 o6 o7 o8 o9 y0 y1 y2 y3 y4 y5 y6 y7 y8 y9 z0 z1 z2 z3 z4 z5 z6 z7 z8 z9 x0 x1 x2 x3 x4 x5 x6 x7 x8 x9 i0 i1 i2 i3 i4 i5 i6 i7 i8 i9 v0 v1 v2 v3 : Value)

theorem infI : (Tryd.prog.info? 3).map (fun i => (i.zero, i.size, i.bytes)) = some (some (.int .i64 0), 1, 8) := by kernel_rfl
/-- Numbers, as cells in a row. -/
def ics (l : List Nat) : List Value := l.map fun (n : Nat) => Value.int .i64 (n : Int)
theorem ics_get (l : List Nat) (j : Nat) (hj : j < l.length) : (ics l)[j]? = some (.int .i64 (l.getD j 0 : Nat)) := by
  rw [List.getD_eq_getElem?_getD, List.getElem?_eq_getElem hj]
  simp [ics, hj]

theorem step_call {P : Program} {ops : Array Oper} {o : Oper} {a : Act} {w : World} {K : Act → World → Prop} {Q : Exit → Act → World → Prop} {E : Prop} (hg : o.guard = none) (h : Oper.wp P o a w K Q) : if Region.wanted o (yielded ops a.tmps) = true then Oper.wp P o a w K Q else E := by
  have hw : Region.wanted o (yielded ops a.tmps) = true := by simp [Region.wanted, hg]
  rw [if_pos hw]
  exact h

set_option maxHeartbeats 4000000 in
set_option maxRecDepth 100000 in
theorem r27 (w0 w : World) (t g cap s0 s1 : Nat) (l : List Nat) (ht : 16 ≤ t) (ht2 : t < 64) (hl : l.length = t) (h32 : ∀ x ∈ l, x < 2 ^ 32) (h0 : s0 < 2 ^ 32) (h1 : s1 < 2 ^ 32)
    (hown : w.ownsRow w0.heap.size 3 1 (.slice (some ⟨g, 0, none⟩) t cap) t (ics l)) (hb : Below w0.heap.size w0 w) (Q0 : Exit → Act → World → Prop)
    (hexit : ∀ (Iy Iz Jb Jc Jf Jg Jh Jj Jk Jm Jq Jt Jv Jw Jx Jy Jz Kb Kc : Value) (g' cap' : Nat) (w' : World), w'.ownsRow w0.heap.size 3 1 (.slice (some ⟨g', 0, none⟩) (t + 1) cap') (t + 1) (ics (l ++ [(l.getD (t - 16) 0 + s0 + l.getD (t - 7) 0 + s1) % 4294967296])) → Below w0.heap.size w0 w' → Q0 .normal ⟨#[A0,A1,A2,A3,A4,A5,A6,A7,A8,.slice (some ⟨g', 0, none⟩) (t + 1) cap',.int .i64 t,B1,B2,B3,B4,.int .i64 s0,.int .i64 s1,B7,B8,B9,C0,C1,C2,C3,C4,C5,C6,C7,C8,C9,D0,D1,D2,D3,D4,D5,D6,D7,D8,D9,E0,E1,E2,E3,E4,E5,E6,E7,E8,E9,G0,G1,G2,G3,G4,G5,G6,G7,G8,G9,H0,H1,H2,H3,H4,H5,H6,H7,H8,H9,I0,I1,I2,I3,I4,I5,I6,I7,I8,I9,J0,J1,J2,J3,J4,J5,J6,J7,J8,J9,K0,K1,K2,K3,K4,K5,K6,K7,K8,K9,M0,M1,M2,M3,M4,M5,M6,M7,M8,M9,O0,O1,O2,O3,O4,O5,O6,O7,Iy,Iz,Jb,Jc,Jf,Jg,Jh,Jj,Jk,Jm,Jq,Jt,Jv,Jw,Jx,Jy,Jz,Kb,Kc,R7,R8,R9,S0,S1,S2,S3,S4,S5,S6,S7,S8,S9,T0,T1,T2,T3,T4,T5,T6,T7,T8,T9,U0,U1,U2,U3,U4,U5,U6,U7,U8,U9,V0,V1,V2,V3,V4,V5,V6,V7,V8,V9,W0,W1,W2,W3,W4,W5,W6,W7,W8,W9,X0,X1,X2,X3,X4,X5,X6,X7,X8,X9,Y0,Y1,Y2,Y3,Y4,Y5,Y6,Y7,Y8,Y9,Z0,Z1,Z2,Z3,Z4,Z5,Z6,Z7,Z8,Z9,j0,j1,j2,j3,j4,j5,j6,j7,j8,j9,o0,o1,o2,o3,o4,o5,o6,o7,o8,o9,y0,y1,y2,y3,y4,y5,y6,y7,y8,y9,z0,z1,z2,z3,z4,z5,z6,z7,z8,z9,x0,x1,x2,x3,x4,x5,x6,x7,x8,x9,i0,i1,i2,i3,i4,i5,i6,i7,i8,i9,v0,v1,v2,v3], []⟩ w') :
    Code.wp Tryd.prog (subC [true, true, true, true, true, true, false, true, false, false, true, false, false, true, false, true, false, false, true, false, false, true, true, true, true] (Tryd.f11.body.getD .skip)) Q0 ⟨#[A0,A1,A2,A3,A4,A5,A6,A7,A8,.slice (some ⟨g, 0, none⟩) t cap,.int .i64 t,B1,B2,B3,B4,.int .i64 s0,.int .i64 s1,B7,B8,B9,C0,C1,C2,C3,C4,C5,C6,C7,C8,C9,D0,D1,D2,D3,D4,D5,D6,D7,D8,D9,E0,E1,E2,E3,E4,E5,E6,E7,E8,E9,G0,G1,G2,G3,G4,G5,G6,G7,G8,G9,H0,H1,H2,H3,H4,H5,H6,H7,H8,H9,I0,I1,I2,I3,I4,I5,I6,I7,I8,I9,J0,J1,J2,J3,J4,J5,J6,J7,J8,J9,K0,K1,K2,K3,K4,K5,K6,K7,K8,K9,M0,M1,M2,M3,M4,M5,M6,M7,M8,M9,O0,O1,O2,O3,O4,O5,O6,O7,O8,O9,P0,P1,P2,P3,P4,P5,P6,P7,P8,P9,R0,R1,R2,R3,R4,R5,R6,R7,R8,R9,S0,S1,S2,S3,S4,S5,S6,S7,S8,S9,T0,T1,T2,T3,T4,T5,T6,T7,T8,T9,U0,U1,U2,U3,U4,U5,U6,U7,U8,U9,V0,V1,V2,V3,V4,V5,V6,V7,V8,V9,W0,W1,W2,W3,W4,W5,W6,W7,W8,W9,X0,X1,X2,X3,X4,X5,X6,X7,X8,X9,Y0,Y1,Y2,Y3,Y4,Y5,Y6,Y7,Y8,Y9,Z0,Z1,Z2,Z3,Z4,Z5,Z6,Z7,Z8,Z9,j0,j1,j2,j3,j4,j5,j6,j7,j8,j9,o0,o1,o2,o3,o4,o5,o6,o7,o8,o9,y0,y1,y2,y3,y4,y5,y6,y7,y8,y9,z0,z1,z2,z3,z4,z5,z6,z7,z8,z9,x0,x1,x2,x3,x4,x5,x6,x7,x8,x9,i0,i1,i2,i3,i4,i5,i6,i7,i8,i9,v0,v1,v2,v3], []⟩ w := by
  obtain ⟨i0, hi, hz0, hz1, hz2⟩ := info_p infI
  have HX : Hid _ := hexit
  have HO : Hid (w.ownsRow w0.heap.size 3 1 (.slice (some ⟨g, 0, none⟩) t cap) t (ics l)) := hown
  have HB : Hid (Below w0.heap.size w0 w) := hb
  have c1 : w.cell? ⟨g, t - 16, none⟩ = some (.int .i64 (l.getD (t - 16) 0 : Nat)) := (hown.cellAt (t - 16) (by omega)).trans (ics_get l _ (by omega))
  have c2 : w.cell? ⟨g, t - 7, none⟩ = some (.int .i64 (l.getD (t - 7) 0 : Nat)) := (hown.cellAt (t - 7) (by omega)).trans (ics_get l _ (by omega))
  have l1 := get_lt l h32 (t - 16)
  have l2 := get_lt l h32 (t - 7)
  clear hown hb
  generalize l.getD (t - 16) 0 = x at c1 HX l1
  generalize l.getD (t - 7) 0 = y at c2 HX l2
  obtain ⟨i16, h16⟩ : ∃ i16, i16 = t - 16 := ⟨_, rfl⟩
  obtain ⟨i7, h7⟩ : ∃ i7, i7 = t - 7 := ⟨_, rfl⟩
  rw [← h16] at c1
  rw [← h7] at c2
  have e16 : (t : Int) - 16 = (i16 : Int) := by omega
  have e7 : (t : Int) - 7 = (i7 : Int) := by omega
  have d16 : (i16 : Int) < (t : Int) := by omega
  have d7 : (i7 : Int) < (t : Int) := by omega
  obtain ⟨a1, ha1⟩ : ∃ a1, a1 = x + s0 := ⟨_, rfl⟩
  obtain ⟨a2, ha2⟩ : ∃ a2, a2 = a1 + y := ⟨_, rfl⟩
  obtain ⟨a3, ha3⟩ : ∃ a3, a3 = a2 + s1 := ⟨_, rfl⟩
  obtain ⟨m, hm⟩ : ∃ m, m = a3 % 4294967296 := ⟨_, rfl⟩
  rw [← ha1, ← ha2, ← ha3, ← hm] at HX
  have e1 : (x : Int) + (s0 : Int) = (a1 : Int) := by omega
  have e2 : (a1 : Int) + (y : Int) = (a2 : Int) := by omega
  have e3 : (a2 : Int) + (s1 : Int) = (a3 : Int) := by omega
  have HW : Hid (∀ W : World, Calls Tryd.prog 32 #[.int .i64 a3] W fun e w' => e = .returned (.int .i64 (m : Int)) ∧ w' = W) := fun W => by rw [hm]; exact Wrap_any a3 W
  have q1 : t + 1 ≤ maxLen := by unfold maxLen; omega
  have q2 : (t + 1) * 8 ≤ 140737488355328 := by omega
  have hti : (t : Int) < 64 := by omega
  have q3 : w0.heap.size ≤ ((w.alloc (.cells #[.int .i64 (m : Int)] 3)).drew).heap.size := by show w0.heap.size ≤ (w.alloc (.cells #[.int .i64 (m : Int)] 3)).heap.size; rw [World.size_alloc]; have := HB.out.size; omega
  have q4 : ((w.alloc (.cells #[.int .i64 (m : Int)] 3)).drew).heap.size = w.heap.size + 1 := by show (w.alloc (.cells #[.int .i64 (m : Int)] 3)).heap.size = _; rw [World.size_alloc]
  have HOW : Hid (((w.alloc (.cells #[.int .i64 (m : Int)] 3)).drew).ownsRow w0.heap.size 3 1 (.slice (some ⟨g, 0, none⟩) t cap) t (ics l)) := HO.out.alloc _
  have HNW : Hid (∀ (j : Nat) (u : Value), [Value.int .i64 (m : Int)][j]? = some u → ((w.alloc (.cells #[.int .i64 (m : Int)] 3)).drew).cell? ((⟨w.heap.size, 0, none⟩ : Addr).add j) = some u) := by
    intro j u hj
    match j, hj with
    | 0, hj =>
      simp at hj
      subst hj
      exact al_atC w _ _ _ 0 _ rfl rfl
  have hone : ∀ u ∈ [Value.int .i64 (m : Int)], u.oneCell' = true := by intro u hu; simp at hu; subst hu; rfl
  have f1 := wr60 a1 (by omega)
  have f2 := wr60 a2 (by omega)
  have f3 := wr60 a3 (by omega)
  have f4 := wr60 i16 (by omega)
  have f5 := wr60 i7 (by omega)
  clear ha1 ha2 ha3 hm h16 h7 l1 l2 h0 h1 h32 hl ht ht2
  conv => arg 2; whnf
  refine wp_region_noPanic ?_
  go_region_law (first
      | ((refine step_append_lies ((w.alloc (.cells #[.int .i64 (m : Int)] 3)).drew) (by rfl) (Operand.tmp 118) (Operand.tmp 135) 31 (by rfl) w0.heap.size 3 i0 (.int .i64 0) 1 8 Tryd.underlying31 hi hz0 hz1 hz2 rfl (by decide) (.slice (some ⟨g, 0, none⟩) t cap) t (ics l) (by rfl) HOW.out ⟨w.heap.size, 0, none⟩ 1 1 [.int .i64 (m : Int)] (by rfl) rfl HNW.out hone (by decide) q1 q2 q3 (w.heap.size + 1) q4 ?_; intro g' cap' w1 hown1 hgrow hat hltg))
      | (refine step_call (by rfl) ?_; go_simp; go_at_call 32; refine (HW.out _).mono ?_; rintro e w' ⟨rfl, rfl⟩)
      | fail)
  all_goals exact HX.out _ _ _ _ _ _ _ _ _ _ _ _ _ _ _ _ _ _ _ _ _ _ (by rw [show ics (l ++ [m]) = ics l ++ [.int .i64 (m : Int)] from by simp [ics]]; exact hown1) (((HB.out.alloc HB.out.size _).drew).grown hgrow q3 (fun j hj => (HO.out.lt j hj).1))
end Go.Proofs.YtoceglbdnbnjpaaDoor

/- The document's own Sum: the words of a block (2). -/
namespace Go.Proofs.YtoceglbdnbnjpaaDoor
open Go.RowKit
variable (A0 A1 A2 A3 A4 A5 A6 A7 A8 A9 B0 B1 B2 B3 B4 B5 B6 B7 B8 B9 C0 C1 C2 C3 C4 C5 C6 C7 C8 C9 D0 D1 D2 D3 D4 D5 D6 D7 D8 D9 E0 E1 E2 E3 E4 E5 E6 E7 E8 E9 G0 G1 G2 G3 G4 G5 G6 G7 G8 G9 H0 H1 H2 H3 H4 H5 H6 H7 H8 H9 I0 I1 I2 I3 I4 I5 I6 I7 I8 I9 J0 J1 J2 J3 J4 J5 J6 J7 J8 J9 K0 K1 K2 K3 K4 K5 K6 K7 K8 K9 M0 M1 M2 M3 M4 M5 M6 M7 M8 M9 O0 O1 O2 O3 O4 O5 O6 O7 O8 O9 P0 P1 P2 P3 P4 P5 P6 P7 P8 P9 R0 R1 R2 R3 R4 R5 R6 R7 R8 R9 S0 S1 S2 S3 S4 S5 S6 S7 S8 S9 T0 T1 T2 T3 T4 T5 T6 T7 T8 T9 U0 U1 U2 U3 U4 U5 U6 U7 U8 U9 V0 V1 V2 V3 V4 V5 V6 V7 V8 V9 W0 W1 W2 W3 W4 W5 W6 W7 W8 W9 X0 X1 X2 X3 X4 X5 X6 X7 X8 X9 Y0 Y1 Y2 Y3 Y4 Y5 Y6 Y7 Y8 Y9 Z0 Z1 Z2 Z3 Z4 Z5 Z6 Z7 Z8 Z9 j0 j1 j2 j3 j4 j5 j6 j7 j8 j9 o0 o1 o2 o3 o4 o5 o6 o7 o8 o9 y0 y1 y2 y3 y4 y5 y6 y7 y8 y9 z0 z1 z2 z3 z4 z5 z6 z7 z8 z9 x0 x1 x2 x3 x4 x5 x6 x7 x8 x9 i0 i1 i2 i3 i4 i5 i6 i7 i8 i9 v0 v1 v2 v3 : Value)

/-- Bytes in a block. -/
def PAt (w : World) (g : Nat) (P : List UInt8) : Prop := ∀ j, j < P.length → w.cell? ⟨g, j, none⟩ = some (.int .u8 ((P.getD j 0).toNat : Nat))
theorem PAt.up {B : Nat} {w w' : World} {g : Nat} {P : List UInt8} (h : PAt w g P) (hb : Below B w w') (hg : g < B) : PAt w' g P := fun j hj => (hb.cell (p := ⟨g, j, none⟩) hg).trans (h j hj)
theorem byte_blk (P : List UInt8) (b k : Nat) (hk : k < 64) : byteN (blk P b) k = (P.getD (64 * b + k) 0).toNat := by
  unfold byteN blk
  rw [List.getD_eq_getElem?_getD, List.getD_eq_getElem?_getD]
  simp [hk]
/-- So many bytes, the greatest first. -/
def beF (s : ByteArray) (o : Nat) : Nat → Nat
  | 0 => 0
  | m + 1 => 256 * beF s o m + byteN s (o + m)
theorem byteN_lt (s : ByteArray) (k : Nat) : byteN s k < 256 := (s.data.toList.getD k 0).toNat_lt
theorem beF_lt (s : ByteArray) (o m : Nat) (hm : m ≤ 4) : beF s o m < 2 ^ 32 := by
  have h0 := byteN_lt s o
  have h1 := byteN_lt s (o + 1)
  have h2 := byteN_lt s (o + 2)
  have h3 := byteN_lt s (o + 3)
  match m, hm with
  | 0, _ => show 0 < 2 ^ 32; decide
  | 1, _ => simp only [beF, Nat.add_zero]; omega
  | 2, _ => simp only [beF, Nat.add_zero]; omega
  | 3, _ => simp only [beF, Nat.add_zero]; omega
  | 4, _ => simp only [beF, Nat.add_zero]; omega
theorem beF_four (s : ByteArray) (o : Nat) : beF s o 4 = be4N (byteN s o) (byteN s (o + 1)) (byteN s (o + 2)) (byteN s (o + 3)) := by
  simp only [beF, be4N, Nat.add_zero]
  omega
theorem wr61 (n : Nat) (h : n < 2 ^ 62) : IntKind.i64.wrap (n : Int) = (n : Int) := by rw [IntKind.wrap_i64]; omega
theorem wsN_len (s : ByteArray) (t : Nat) : (wsN s t).length = t := by
  induction t with
  | zero => rfl
  | succ t ih => simp [wsN, ih]
theorem sig0_facts (x : Nat) (hx : x < 2 ^ 32) :
    Hid (∀ W : World, Calls Tryd.prog 31 #[.int .i64 x, .int .i64 7] W fun e' w' => e' = .returned (.int .i64 (rightN x 7 : Nat)) ∧ ∃ m, w' = W.drewN m) ∧
    Hid (∀ W : World, Calls Tryd.prog 31 #[.int .i64 x, .int .i64 18] W fun e' w' => e' = .returned (.int .i64 (rightN x 18 : Nat)) ∧ ∃ m, w' = W.drewN m) ∧
    Hid (∀ (W : World) (b : Nat), W.cell? ⟨b, 0, none⟩ = some (.int .i64 (rightN x 7 : Nat)) → W.cell? ⟨b, 1, none⟩ = some (.int .i64 (rightN x 18 : Nat)) → W.cell? ⟨b, 2, none⟩ = some (.int .i64 (x / 8 : Nat)) → Calls Tryd.prog 30 #[.slice (some ⟨b, 0, none⟩) 3 3] W fun e' w' => e' = .returned (.int .i64 (sig0N x : Nat)) ∧ w' = W) := by
  have l1 := (right_lt x 7 hx (by decide)).2
  have l2 := (right_lt x 18 hx (by decide)).2
  exact ⟨fun W => Right_any x 7 W hx (by decide) (by decide), fun W => Right_any x 18 W hx (by decide) (by decide), fun W b => Xor_3 W b _ _ _ l1 l2 (by omega) _ rfl⟩
theorem sig1_facts (x : Nat) (hx : x < 2 ^ 32) :
    Hid (∀ W : World, Calls Tryd.prog 31 #[.int .i64 x, .int .i64 17] W fun e' w' => e' = .returned (.int .i64 (rightN x 17 : Nat)) ∧ ∃ m, w' = W.drewN m) ∧
    Hid (∀ W : World, Calls Tryd.prog 31 #[.int .i64 x, .int .i64 19] W fun e' w' => e' = .returned (.int .i64 (rightN x 19 : Nat)) ∧ ∃ m, w' = W.drewN m) ∧
    Hid (∀ (W : World) (b : Nat), W.cell? ⟨b, 0, none⟩ = some (.int .i64 (rightN x 17 : Nat)) → W.cell? ⟨b, 1, none⟩ = some (.int .i64 (rightN x 19 : Nat)) → W.cell? ⟨b, 2, none⟩ = some (.int .i64 (x / 1024 : Nat)) → Calls Tryd.prog 30 #[.slice (some ⟨b, 0, none⟩) 3 3] W fun e' w' => e' = .returned (.int .i64 (sig1N x : Nat)) ∧ w' = W) := by
  have l1 := (right_lt x 17 hx (by decide)).2
  have l2 := (right_lt x 19 hx (by decide)).2
  exact ⟨fun W => Right_any x 17 W hx (by decide) (by decide), fun W => Right_any x 19 W hx (by decide) (by decide), fun W b => Xor_3 W b _ _ _ l1 l2 (by omega) _ rfl⟩
theorem w8_nat (x d : Nat) (hd : d = x / 8) (hx : x < 2 ^ 32) : wrap64 ((x : Int) / 8) = (d : Int) := by unfold wrap64; omega
theorem w10_nat (x d : Nat) (hd : d = x / 1024) (hx : x < 2 ^ 32) : wrap64 ((x : Int) / 1024) = (d : Int) := by unfold wrap64; omega
theorem sz1 (W : World) (o : Obj) (k n : Nat) : W.heap.size + 1 = (((W.drewN k).alloc o).drewN n).heap.size := by
  show _ = ((W.drewN k).alloc o).heap.size
  rw [World.size_alloc]
  rfl
theorem ows_dn {w : World} {base : Nat} {e : TypeId} {size : Nat} {v : Value} {n : Nat} {xs : List Value} (h : w.ownsRow base e size v n xs) (k : Nat) : (w.drewN k).ownsRow base e size v n xs := h
theorem ows_dr {w : World} {base : Nat} {e : TypeId} {size : Nat} {v : Value} {n : Nat} {xs : List Value} (h : w.ownsRow base e size v n xs) : w.drew.ownsRow base e size v n xs := h
theorem bl0_al {B : Nat} {a w : World} (h : Below B a w) (hB : B ≤ a.heap.size) (o : Obj) : Below B a (w.alloc o) := h.alloc (Nat.le_trans hB h.size) o

set_option maxHeartbeats 40000000 in
set_option maxRecDepth 100000 in
theorem loop4 (w : World) (P : List UInt8) (gp pc b : Nat) (hP : PAt w gp P) (hg : gp < w.heap.size) (hpl : P.length < 2 ^ 50) (hb64 : 64 * b + 64 ≤ P.length) (Q0 : Exit → Act → World → Prop)
    (hexit : ∀ (Av Aw Ax Ay Az Bb Bc Ej Ek Em Eq Et Ev Ew Ex Ey Ez Gb Gc Gf Gg Gh Gj Gk Gm Gq Gt Gv Gw Gx Gy Gz Hb Hc Hf Hg Hh Hj Hk Hm Hq Ht Hv Hw Hx Hy Hz Ib Ic If Ig Ih Ij Ik Im Iq It Iv Iw Ix Iy Iz Jb Jc Jf Jg Jh Jj Jk Jm Jq Jt Jv Jw Jx Jy Jz Kb Kc : Value) (g' c' : Nat) (w' : World), LAt w' g' (wsN (blk P b) 64) → g' < w'.heap.size → Below w.heap.size w w' → Q0 (.exit 6) ⟨#[A0,A1,A2,.slice (some ⟨gp, 0, none⟩) P.length pc,A4,A5,A6,A7,.int .i64 (64 * b : Nat),.slice (some ⟨g', 0, none⟩) 64 c',Av,Aw,Ax,Ay,Az,Bb,Bc,B7,B8,B9,C0,C1,C2,C3,C4,C5,C6,C7,C8,C9,D0,D1,D2,D3,D4,D5,D6,D7,D8,D9,E0,E1,E2,E3,E4,E5,E6,E7,E8,E9,G0,G1,G2,G3,G4,G5,G6,G7,G8,G9,H0,H1,H2,H3,H4,Ej,Ek,Em,Eq,Et,Ev,Ew,Ex,Ey,Ez,Gb,Gc,Gf,Gg,Gh,Gj,Gk,Gm,Gq,Gt,Gv,Gw,Gx,Gy,Gz,Hb,Hc,Hf,Hg,Hh,Hj,Hk,Hm,Hq,Ht,Hv,Hw,Hx,Hy,Hz,Ib,Ic,If,Ig,Ih,Ij,Ik,Im,Iq,It,Iv,Iw,Ix,Iy,Iz,Jb,Jc,Jf,Jg,Jh,Jj,Jk,Jm,Jq,Jt,Jv,Jw,Jx,Jy,Jz,Kb,Kc,R7,R8,R9,S0,S1,S2,S3,S4,S5,S6,S7,S8,S9,T0,T1,T2,T3,T4,T5,T6,T7,T8,T9,U0,U1,U2,U3,U4,U5,U6,U7,U8,U9,V0,V1,V2,V3,V4,V5,V6,V7,V8,V9,W0,W1,W2,W3,W4,W5,W6,W7,W8,W9,X0,X1,X2,X3,X4,X5,X6,X7,X8,X9,Y0,Y1,Y2,Y3,Y4,Y5,Y6,Y7,Y8,Y9,Z0,Z1,Z2,Z3,Z4,Z5,Z6,Z7,Z8,Z9,j0,j1,j2,j3,j4,j5,j6,j7,j8,j9,o0,o1,o2,o3,o4,o5,o6,o7,o8,o9,y0,y1,y2,y3,y4,y5,y6,y7,y8,y9,z0,z1,z2,z3,z4,z5,z6,z7,z8,z9,x0,x1,x2,x3,x4,x5,x6,x7,x8,x9,i0,i1,i2,i3,i4,i5,i6,i7,i8,i9,v0,v1,v2,v3], []⟩ w') :
    Code.wp Tryd.prog (subC [true, true, true, true, true, true, false, true, false, false, true, false, false, true, false, true, false] (Tryd.f11.body.getD .skip)) Q0 ⟨#[A0,A1,A2,.slice (some ⟨gp, 0, none⟩) P.length pc,A4,A5,A6,A7,.int .i64 (64 * b : Nat),.slice none 0 0,.int .i64 0,B1,B2,B3,B4,B5,B6,B7,B8,B9,C0,C1,C2,C3,C4,C5,C6,C7,C8,C9,D0,D1,D2,D3,D4,D5,D6,D7,D8,D9,E0,E1,E2,E3,E4,E5,E6,E7,E8,E9,G0,G1,G2,G3,G4,G5,G6,G7,G8,G9,H0,H1,H2,H3,H4,H5,H6,H7,H8,H9,I0,I1,I2,I3,I4,I5,I6,I7,I8,I9,J0,J1,J2,J3,J4,J5,J6,J7,J8,J9,K0,K1,K2,K3,K4,K5,K6,K7,K8,K9,M0,M1,M2,M3,M4,M5,M6,M7,M8,M9,O0,O1,O2,O3,O4,O5,O6,O7,O8,O9,P0,P1,P2,P3,P4,P5,P6,P7,P8,P9,R0,R1,R2,R3,R4,R5,R6,R7,R8,R9,S0,S1,S2,S3,S4,S5,S6,S7,S8,S9,T0,T1,T2,T3,T4,T5,T6,T7,T8,T9,U0,U1,U2,U3,U4,U5,U6,U7,U8,U9,V0,V1,V2,V3,V4,V5,V6,V7,V8,V9,W0,W1,W2,W3,W4,W5,W6,W7,W8,W9,X0,X1,X2,X3,X4,X5,X6,X7,X8,X9,Y0,Y1,Y2,Y3,Y4,Y5,Y6,Y7,Y8,Y9,Z0,Z1,Z2,Z3,Z4,Z5,Z6,Z7,Z8,Z9,j0,j1,j2,j3,j4,j5,j6,j7,j8,j9,o0,o1,o2,o3,o4,o5,o6,o7,o8,o9,y0,y1,y2,y3,y4,y5,y6,y7,y8,y9,z0,z1,z2,z3,z4,z5,z6,z7,z8,z9,x0,x1,x2,x3,x4,x5,x6,x7,x8,x9,i0,i1,i2,i3,i4,i5,i6,i7,i8,i9,v0,v1,v2,v3], []⟩ w := by
  obtain ⟨i0, hi, hz0, hz1, hz2⟩ := info_p infI
  have HX : Hid _ := hexit
  obtain ⟨at0, hat⟩ : ∃ at0, at0 = 64 * b := ⟨_, rfl⟩
  rw [← hat] at HX
  rw [← hat]
  obtain ⟨pn, hpn⟩ : ∃ pn, pn = P.length := ⟨_, rfl⟩
  rw [← hpn] at HX
  rw [← hpn]
  have HP : Hid (PAt w gp P ∧ gp < w.heap.size ∧ at0 = 64 * b ∧ pn = P.length ∧ pn < 2 ^ 50 ∧ at0 + 64 ≤ pn) := ⟨hP, hg, hat, hpn, by rw [hpn]; exact hpl, by rw [hat, hpn]; exact hb64⟩
  clear hP hg hpl hb64 hat hpn
  conv => arg 2; whnf
  dsimp only
  go_loopw [9, 10] (fun v i wr => ∃ t : Nat, t ≤ 64 ∧ i = .int .i64 t ∧ wr.ownsRow w.heap.size 3 1 v t (ics (wsN (blk P b) t)) ∧ Below w.heap.size w wr) (fun _ i _ => 64 - (intOf i).toNat)
  case atStart => exact ⟨0, by omega, rfl, World.ownsRow_nil _ _ _ _, Below.refl _ _⟩
  case round =>
    obtain ⟨t, ht, rfl, hown, hbl⟩ := hrel
    have HV : Hid (wr.ownsRow w.heap.size 3 1 u9 t (ics (wsN (blk P b) t)) ∧ Below w.heap.size w wr) := ⟨hown, hbl⟩
    clear hown hbl
    by_cases hlt : t < 64
    · have hti : (t : Int) < 64 := by omega
      by_cases h16 : t < 16
      · have h16i : (t : Int) < 16 := by omega
        go_wp2
        go_loop [11, 12] (fun n i => ∃ m : Nat, m ≤ 4 ∧ i = .int .i64 m ∧ n = .int .i64 (beF (blk P b) (4 * t) m : Nat)) (fun _ i => 4 - (intOf i).toNat)
        case atStart => exact ⟨0, by omega, rfl, rfl⟩
        case round =>
          obtain ⟨m, hm, rfl, rfl⟩ := hrel
          by_cases hm4 : m < 4
          · have hmi : (m : Int) < 4 := by omega
            have hbf := beF_lt (blk P b) (4 * t) m hm
            have hbl := byteN_lt (blk P b) (4 * t + m)
            obtain ⟨o3, ho3⟩ : ∃ o3, o3 = at0 + 4 * t + m := ⟨_, rfl⟩
            have hpo := HP.out.2.2.2.2
            have c0 : wr.cell? ⟨gp, o3, none⟩ = some (.int .u8 (byteN (blk P b) (4 * t + m) : Nat)) := by
              obtain ⟨h1, h2, h3, h4, h5, h6⟩ := HP.out
              rw [byte_blk P b _ (by omega), show 64 * b + (4 * t + m) = o3 from by omega]
              exact h1.up HV.out.2 h2 o3 (by omega)
            have HN : Hid (beF (blk P b) (4 * t) (m + 1) = 256 * beF (blk P b) (4 * t) m + byteN (blk P b) (4 * t + m)) := rfl
            generalize byteN (blk P b) (4 * t + m) = cb at c0 HN hbl
            generalize beF (blk P b) (4 * t) m = n at HN hbf
            obtain ⟨z, hz⟩ : ∃ z, z = 4 * t := ⟨_, rfl⟩
            obtain ⟨o2, ho2⟩ : ∃ o2, o2 = at0 + z := ⟨_, rfl⟩
            obtain ⟨n2, hn2⟩ : ∃ n2, n2 = 256 * n := ⟨_, rfl⟩
            obtain ⟨n3, hn3⟩ : ∃ n3, n3 = n2 + cb := ⟨_, rfl⟩
            rw [← hn2, ← hn3] at HN
            have e1 : 4 * (t : Int) = (z : Int) := by omega
            have e2 : (at0 : Int) + (z : Int) = (o2 : Int) := by omega
            have e3 : (o2 : Int) + (m : Int) = (o3 : Int) := by omega
            have e4 : 256 * (n : Int) = (n2 : Int) := by omega
            have e5 : (n2 : Int) + (cb : Int) = (n3 : Int) := by omega
            have d3 : (o3 : Int) < (pn : Int) := by omega
            have f1 := wr61 z (by omega)
            have f2 := wr61 o2 (by omega)
            have f3 := wr61 o3 (by omega)
            have f4 := wr61 n2 (by omega)
            have f5 := wr61 n3 (by omega)
            have f6 := wr61 cb (by omega)
            clear hz ho2 ho3 hn2 hn3 hbf hbl hpo
            go_wp2
            refine ⟨⟨m + 1, by omega, by go_num, by rw [HN.out]⟩, by simp [intOf]; omega⟩
          · obtain rfl : m = 4 := by omega
            have hbf := beF_lt (blk P b) (4 * t) 4 (by omega)
            have HN : Hid (wsN (blk P b) (t + 1) = wsN (blk P b) t ++ [beF (blk P b) (4 * t) 4]) := by
              show wsN (blk P b) t ++ [wnextN (blk P b) (wsN (blk P b) t) t] = _
              unfold wnextN
              rw [if_pos h16, beF_four]
            generalize beF (blk P b) (4 * t) 4 = n at HN hbf
            go_wp2_with (at_builtin; refine wpList_append_own _ rfl _ _ 31 rfl w.heap.size 3 i0 (.int .i64 0) 1 8 Tryd.underlying31 hi hz0 hz1 hz2 rfl (by decide) _ _ _ rfl (HV.out.1.alloc _) ⟨_, 0, none⟩ 1 1 [.int .i64 (n : Int)] rfl rfl ?c1 ?c2 ?c3 ?c4 ?c5 ?_)
            case c2 => rfl
            case c3 => unfold maxLen; omega
            case c4 => omega
            case c5 => have := HV.out.2.size; omega
            intro v' w4 hown4 hg4 _
            have HB4 : Hid (Below w.heap.size w w4) := (HV.out.2.alloc HV.out.2.size _).grown hg4 (by have := HV.out.2.size; rw [World.size_alloc]; omega) (fun j hj => (HV.out.1.lt j hj).1)
            have HO4 : Hid (w4.ownsRow w.heap.size 3 1 v' (t + 1) (ics (wsN (blk P b) (t + 1)))) := by
              rw [HN.out, show ics (wsN (blk P b) t ++ [n]) = ics (wsN (blk P b) t) ++ [.int .i64 (n : Int)] from by simp [ics]]
              exact hown4
            clear hown4 hg4
            go_wp2
            refine ⟨⟨t + 1, by omega, by go_num, HO4.out, HB4.out⟩, by simp [intOf]; omega⟩
      · have h16i : (16 : Int) ≤ (t : Int) := by omega
        have HT16 : Hid (16 ≤ t) := by show 16 ≤ t; omega
        have HLT : Hid (∀ x ∈ wsN (blk P b) t, x < 2 ^ 32) := (ws_nat (blk P b) t).2
        obtain ⟨g, cap, hug, hgb, hgs⟩ := HV.out.1.form (by omega)
        subst hug
        have c1 : wr.cell? ⟨g, t - 15, none⟩ = some (.int .i64 ((wsN (blk P b) t).getD (t - 15) 0 : Nat)) := (HV.out.1.cellAt (t - 15) (by omega)).trans (ics_get _ _ (by rw [wsN_len]; omega))
        have c2 : wr.cell? ⟨g, t - 2, none⟩ = some (.int .i64 ((wsN (blk P b) t).getD (t - 2) 0 : Nat)) := (HV.out.1.cellAt (t - 2) (by omega)).trans (ics_get _ _ (by rw [wsN_len]; omega))
        have l1 := get_lt _ HLT.out (t - 15)
        have l2 := get_lt _ HLT.out (t - 2)
        have HN : Hid (wsN (blk P b) (t + 1) = wsN (blk P b) t ++ [((wsN (blk P b) t).getD (t - 16) 0 + sig0N ((wsN (blk P b) t).getD (t - 15) 0) + (wsN (blk P b) t).getD (t - 7) 0 + sig1N ((wsN (blk P b) t).getD (t - 2) 0)) % 4294967296]) := by
          show wsN (blk P b) t ++ [wnextN (blk P b) (wsN (blk P b) t) t] = _
          unfold wnextN
          rw [if_neg h16]
        have HLN : Hid ((wsN (blk P b) t).length = t) := wsN_len _ _
        generalize (wsN (blk P b) t).getD (t - 15) 0 = x at c1 l1 HN
        generalize (wsN (blk P b) t).getD (t - 2) 0 = y at c2 l2 HN
        obtain ⟨i15, h15⟩ : ∃ i15, i15 = t - 15 := ⟨_, rfl⟩
        obtain ⟨i2, h2⟩ : ∃ i2, i2 = t - 2 := ⟨_, rfl⟩
        rw [← h15] at c1
        rw [← h2] at c2
        have e15 : (t : Int) - 15 = (i15 : Int) := by omega
        have e2 : (t : Int) - 2 = (i2 : Int) := by omega
        have d15 : (i15 : Int) < (t : Int) := by omega
        have d2 : (i2 : Int) < (t : Int) := by omega
        obtain ⟨HA1, HA2, HXO⟩ := sig0_facts x l1
        obtain ⟨HB1, HB2, HYO⟩ := sig1_facts y l2
        have HS : Hid (sig0N x < 2 ^ 32 ∧ sig1N y < 2 ^ 32) := ⟨(sig0_nat x l1).2, (sig1_nat y l2).2⟩
        generalize rightN x 7 = p1 at HA1 HXO
        generalize rightN x 18 = p2 at HA2 HXO
        generalize rightN y 17 = r1 at HB1 HYO
        generalize rightN y 19 = r2 at HB2 HYO
        generalize sig0N x = s0 at HXO HN HS
        generalize sig1N y = s1 at HYO HN HS
        obtain ⟨x8, hx8⟩ : ∃ x8, x8 = x / 8 := ⟨_, rfl⟩
        obtain ⟨y10, hy10⟩ : ∃ y10, y10 = y / 1024 := ⟨_, rfl⟩
        rw [← hx8] at HXO
        rw [← hy10] at HYO
        have HW8 : Hid (wrap64 ((x : Int) / 8) = (x8 : Int)) := w8_nat x x8 hx8 l1
        have HW10 : Hid (wrap64 ((y : Int) / 1024) = (y10 : Int)) := w10_nat y y10 hy10 l2
        have f1 := wr60 i15 (by omega)
        have f2 := wr60 i2 (by omega)
        clear hx8 hy10 h15 h2 l1 l2
        go_wp2
        go_quiet (fail)
        go_wp2_with fail
        refine (HA1.out _).mono ?_
        rintro e w' ⟨rfl, m1, rfl⟩
        go_wp2_with fail
        refine (HA2.out _).mono ?_
        rintro e w' ⟨rfl, m2, rfl⟩
        go_wp2_with fail
        refine (HXO.out _ _ (al_atC _ _ _ _ 0 _ rfl rfl) (al_atC _ _ _ _ 1 _ rfl rfl) (al_atC _ _ _ _ 2 _ rfl (congrArg (fun z => some (Value.int .i64 z)) HW8.out))).mono ?_
        rintro e w' ⟨rfl, rfl⟩
        go_wp2_with fail
        refine (HB1.out _).mono ?_
        rintro e w' ⟨rfl, m3, rfl⟩
        go_wp2_with fail
        refine (HB2.out _).mono ?_
        rintro e w' ⟨rfl, m4, rfl⟩
        go_wp2_with fail
        refine (HYO.out _ _ (al_atC _ _ _ _ 0 _ ?z1 rfl) (al_atC _ _ _ _ 1 _ ?z2 rfl) (al_atC _ _ _ _ 2 _ ?z3 (congrArg (fun z => some (Value.int .i64 z)) HW10.out))).mono ?_
        case z1 => exact sz1 _ _ _ _
        case z2 => exact sz1 _ _ _ _
        case z3 => exact sz1 _ _ _ _
        rintro e w' ⟨rfl, rfl⟩
        go_wp2
        refine r27 _ _ _ _ _ _ _ _ _ _ _ _ _ _ _ _ _ _ _ _ _ _ _ _ _ _ _ _ _ _ _ _ _ _ _ _ _ _ _ _ _ _ _ _ _ _ _ _ _ _ _ _ _ _ _ _ _ _ _ _ _ _ _ _ _ _ _ _ _ _ _ _ _ _ _ _ _ _ _ _ _ _ _ _ _ _ _ _ _ _ _ _ _ _ _ _ _ _ _ _ _ _ _ _ _ _ _ _ _ _ _ _ _ _ _ _ _ _ _ _ _ _ _ _ _ _ _ _ _ _ _ _ _ _ _ _ _ _ _ _ _ _ _ _ _ _ _ _ _ _ _ _ _ _ _ _ _ _ _ _ _ _ _ _ _ _ _ _ _ _ _ _ _ _ _ _ _ _ _ _ _ _ _ _ _ _ _ _ _ _ _ _ _ _ _ _ _ _ _ _ _ _ _ _ _ _ _ _ _ _ _ _ _ _ _ _ _ _ _ _ _ _ _ _ _ _ _ _ _ _ _ _ _ _ _ _ _ _ _ _ _ _ _ _ _ _ _ _ _ _ _ _ _ _ _ _ _ _ _ _ _ _ _ _ _ _ _ _ _ _ _ _ _ _ _ _ _ _ _ _ w _ t g cap s0 s1 (wsN (blk P b) t) HT16.out hlt HLN.out HLT.out HS.out.1 HS.out.2 ?hown ?hbl _ ?_
        case hown => repeat' (with_reducible (first | exact HV.out.1 | refine World.ownsRow.alloc ?_ _ | refine ows_dn ?_ _ | refine ows_dr ?_))
        case hbl => repeat' (with_reducible (first | exact HV.out.2 | refine bl_al ?_ _ | refine bl_dn ?_ _ | refine bl_dr ?_))
        intro _ _ _ _ _ _ _ _ _ _ _ _ _ _ _ _ _ _ _ g' cap' w5 hown5 hb5
        have H5 : Hid (w5.ownsRow w.heap.size 3 1 (.slice (some ⟨g', 0, none⟩) (t + 1) cap') (t + 1) (ics (wsN (blk P b) (t + 1))) ∧ Below w.heap.size w w5) := ⟨by rw [HN.out]; exact hown5, hb5⟩
        clear hown5 hb5 f1 f2
        go_wp2
        refine ⟨⟨t + 1, by omega, by go_num, H5.out.1, H5.out.2⟩, by simp [intOf]; omega⟩
    · obtain rfl : t = 64 := by omega
      obtain ⟨g, cap, hug, hgb, hgs⟩ := HV.out.1.form (by omega)
      subst hug
      go_wp2
      exact HX.out _ _ _ _ _ _ _ _ _ _ _ _ _ _ _ _ _ _ _ _ _ _ _ _ _ _ _ _ _ _ _ _ _ _ _ _ _ _ _ _ _ _ _ _ _ _ _ _ _ _ _ _ _ _ _ _ _ _ _ _ _ _ _ _ _ _ _ _ _ _ _ _ _ _ _ _ _ _ _ _ _ _ (fun j hj => by rw [wsN_len] at hj; exact (HV.out.1.cellAt j (by omega)).trans (ics_get _ _ (by rw [wsN_len]; omega))) hgs HV.out.2
end Go.Proofs.YtoceglbdnbnjpaaDoor

/- The document's own Sum: block by block. -/
namespace Go.Proofs.YtoceglbdnbnjpaaDoor
open Go.RowKit
variable (A0 A1 A2 A3 A4 A5 A6 A7 A8 A9 B0 B1 B2 B3 B4 B5 B6 B7 B8 B9 C0 C1 C2 C3 C4 C5 C6 C7 C8 C9 D0 D1 D2 D3 D4 D5 D6 D7 D8 D9 E0 E1 E2 E3 E4 E5 E6 E7 E8 E9 G0 G1 G2 G3 G4 G5 G6 G7 G8 G9 H0 H1 H2 H3 H4 H5 H6 H7 H8 H9 I0 I1 I2 I3 I4 I5 I6 I7 I8 I9 J0 J1 J2 J3 J4 J5 J6 J7 J8 J9 K0 K1 K2 K3 K4 K5 K6 K7 K8 K9 M0 M1 M2 M3 M4 M5 M6 M7 M8 M9 O0 O1 O2 O3 O4 O5 O6 O7 O8 O9 P0 P1 P2 P3 P4 P5 P6 P7 P8 P9 R0 R1 R2 R3 R4 R5 R6 R7 R8 R9 S0 S1 S2 S3 S4 S5 S6 S7 S8 S9 T0 T1 T2 T3 T4 T5 T6 T7 T8 T9 U0 U1 U2 U3 U4 U5 U6 U7 U8 U9 V0 V1 V2 V3 V4 V5 V6 V7 V8 V9 W0 W1 W2 W3 W4 W5 W6 W7 W8 W9 X0 X1 X2 X3 X4 X5 X6 X7 X8 X9 Y0 Y1 Y2 Y3 Y4 Y5 Y6 Y7 Y8 Y9 Z0 Z1 Z2 Z3 Z4 Z5 Z6 Z7 Z8 Z9 j0 j1 j2 j3 j4 j5 j6 j7 j8 j9 o0 o1 o2 o3 o4 o5 o6 o7 o8 o9 y0 y1 y2 y3 y4 y5 y6 y7 y8 y9 z0 z1 z2 z3 z4 z5 z6 z7 z8 z9 x0 x1 x2 x3 x4 x5 x6 x7 x8 x9 i0 i1 i2 i3 i4 i5 i6 i7 i8 i9 v0 v1 v2 v3 : Value)

theorem LAt.upB {B : Nat} {w w' : World} {b : Nat} {l : List Nat} (h : LAt w b l) (hb : Below B w w') (hg : b < B) : LAt w' b l := fun j hj => (hb.cell (p := ⟨b, j, none⟩) hg).trans (h j hj)
theorem mix_add (q : N8) (s : ByteArray) (ks : List Nat) : mixN q s ks = addN q (roundsN (wsN s 64) ks 64 q) := rfl
theorem v_of_row {w : World} {B g cap : Nat} {q : N8} (h : w.ownsRow B 3 1 (.slice (some ⟨g, 0, none⟩) 8 cap) 8 (ics q.l)) : VAt w g q :=
  ⟨h.cellAt 0 (by decide), h.cellAt 1 (by decide), h.cellAt 2 (by decide), h.cellAt 3 (by decide), h.cellAt 4 (by decide), h.cellAt 5 (by decide), h.cellAt 6 (by decide), h.cellAt 7 (by decide)⟩
theorem ics_one (l : List Nat) : ∀ u ∈ ics l, u.oneCell' = true := fun u hu => by
  obtain ⟨n, _, rfl⟩ := List.mem_map.1 hu
  rfl
theorem ics_len (l : List Nat) : (ics l).length = l.length := by simp [ics]
theorem add0C (b j : Nat) : (⟨b, 0, none⟩ : Addr).add j = ⟨b, j, none⟩ := by
  unfold Addr.add
  split <;> simp_all
/-- Blocks below hb, and block hb itself, are as they were. -/
theorem HAt.up2 {w w' : World} {b : Nat} {l : List Nat} (h : HAt w b l) (hb : Below w.heap.size w w') : HAt w' b l := h.up hb h.lt

set_option maxHeartbeats 40000000 in
set_option maxRecDepth 100000 in
theorem loop3 (w : World) (P : List UInt8) (ks : List Nat) (q : N8) (N gp pc kb kc hb hc : Nat) (hq : q.ok) (hks : ∀ x ∈ ks, x < 2 ^ 32) (hkn : ks.length = 64) (hP : PAt w gp P) (hk : LAt w kb ks) (hh : HAt w hb q.l) (hgp : gp < hb) (hkb : kb < hb) (hpl : P.length < 2 ^ 50) (hN : P.length = 64 * N) (Q0 : Exit → Act → World → Prop)
    (hexit : ∀ (Aq At Av Aw Ax Ay Az Bb Bc Bf Bg Bh Bj Bk Bm Bq Bt Bv Dz Eb Ec Ef Eg Eh Ej Ek Em Eq Et Ev Ew Ex Ey Ez Gb Gc Gf Gg Gh Gj Gk Gm Gq Gt Gv Gw Gx Gy Gz Hb Hc Hf Hg Hh Hj Hk Hm Hq Ht Hv Hw Hx Hy Hz Ib Ic If Ig Ih Ij Ik Im Iq It Iv Iw Ix Iy Iz Jb Jc Jf Jg Jh Jj Jk Jm Jq Jt Jv Jw Jx Jy Jz Kb Kc Kf Kg Kh Kj Kk Km Kq Kt Kv Kw Kx Ky Kz Mb Mc Mf Mg Mh Mj Mk Mm Mq Mt Mv Mw Mx My Mz Ob Oc Of Og Oh Oj Ok Om Oq Ot Ov Ow Ox Oy Oz Pb Pc Pf Pg Ph Pj Pk Pm Pq Pt Pv Pw Px Py Pz Rb Rc Rf Rg Rh Rj Rk Rm Rq Rt Rv Rw Rx Ry Rz Sb Sc Sf Sg Sh Sj Sk Sm Sq St Sv Sw Sx Sy Sz Tb Tc Tf Tg Th Tj Tk Tm Tq Tt Tv Tw Tx Ty Tz Ub Uc Uf Ug Uh Uj Uk Um Uq Ut Uv Uw Ux Uy Uz Vb Vc Vf Vg Vh Vj Vk Vm : Value) (w' : World), HAt w' hb (stF P ks 0 q N).l → Below hb w w' → Q0 (.exit 4) ⟨#[A0,A1,A2,.slice (some ⟨gp, 0, none⟩) P.length pc,A4,A5,.slice (some ⟨kb, 0, none⟩) 64 kc,.slice (some ⟨hb, 0, none⟩) 8 hc,Aq,At,Av,Aw,Ax,Ay,Az,Bb,Bc,Bf,Bg,Bh,Bj,Bk,Bm,Bq,Bt,Bv,C6,C7,C8,C9,D0,D1,D2,D3,D4,D5,D6,D7,D8,D9,E0,E1,E2,E3,E4,E5,E6,E7,E8,E9,G0,G1,G2,G3,G4,G5,G6,G7,G8,Dz,Eb,Ec,Ef,Eg,Eh,Ej,Ek,Em,Eq,Et,Ev,Ew,Ex,Ey,Ez,Gb,Gc,Gf,Gg,Gh,Gj,Gk,Gm,Gq,Gt,Gv,Gw,Gx,Gy,Gz,Hb,Hc,Hf,Hg,Hh,Hj,Hk,Hm,Hq,Ht,Hv,Hw,Hx,Hy,Hz,Ib,Ic,If,Ig,Ih,Ij,Ik,Im,Iq,It,Iv,Iw,Ix,Iy,Iz,Jb,Jc,Jf,Jg,Jh,Jj,Jk,Jm,Jq,Jt,Jv,Jw,Jx,Jy,Jz,Kb,Kc,Kf,Kg,Kh,Kj,Kk,Km,Kq,Kt,Kv,Kw,Kx,Ky,Kz,Mb,Mc,Mf,Mg,Mh,Mj,Mk,Mm,Mq,Mt,Mv,Mw,Mx,My,Mz,Ob,Oc,Of,Og,Oh,Oj,Ok,Om,Oq,Ot,Ov,Ow,Ox,Oy,Oz,Pb,Pc,Pf,Pg,Ph,Pj,Pk,Pm,Pq,Pt,Pv,Pw,Px,Py,Pz,Rb,Rc,Rf,Rg,Rh,Rj,Rk,Rm,Rq,Rt,Rv,Rw,Rx,Ry,Rz,Sb,Sc,Sf,Sg,Sh,Sj,Sk,Sm,Sq,St,Sv,Sw,Sx,Sy,Sz,Tb,Tc,Tf,Tg,Th,Tj,Tk,Tm,Tq,Tt,Tv,Tw,Tx,Ty,Tz,Ub,Uc,Uf,Ug,Uh,Uj,Uk,Um,Uq,Ut,Uv,Uw,Ux,Uy,Uz,Vb,Vc,Vf,Vg,Vh,Vj,Vk,Vm,x3,x4,x5,x6,x7,x8,x9,i0,i1,i2,i3,i4,i5,i6,i7,i8,i9,v0,v1,v2,v3], []⟩ w') :
    Code.wp Tryd.prog (subC [true, true, true, true, true, true, false, true, false] (Tryd.f11.body.getD .skip)) Q0 ⟨#[A0,A1,A2,.slice (some ⟨gp, 0, none⟩) P.length pc,A4,A5,.slice (some ⟨kb, 0, none⟩) 64 kc,.slice (some ⟨hb, 0, none⟩) 8 hc,.int .i64 0,A9,B0,B1,B2,B3,B4,B5,B6,B7,B8,B9,C0,C1,C2,C3,C4,C5,C6,C7,C8,C9,D0,D1,D2,D3,D4,D5,D6,D7,D8,D9,E0,E1,E2,E3,E4,E5,E6,E7,E8,E9,G0,G1,G2,G3,G4,G5,G6,G7,G8,G9,H0,H1,H2,H3,H4,H5,H6,H7,H8,H9,I0,I1,I2,I3,I4,I5,I6,I7,I8,I9,J0,J1,J2,J3,J4,J5,J6,J7,J8,J9,K0,K1,K2,K3,K4,K5,K6,K7,K8,K9,M0,M1,M2,M3,M4,M5,M6,M7,M8,M9,O0,O1,O2,O3,O4,O5,O6,O7,O8,O9,P0,P1,P2,P3,P4,P5,P6,P7,P8,P9,R0,R1,R2,R3,R4,R5,R6,R7,R8,R9,S0,S1,S2,S3,S4,S5,S6,S7,S8,S9,T0,T1,T2,T3,T4,T5,T6,T7,T8,T9,U0,U1,U2,U3,U4,U5,U6,U7,U8,U9,V0,V1,V2,V3,V4,V5,V6,V7,V8,V9,W0,W1,W2,W3,W4,W5,W6,W7,W8,W9,X0,X1,X2,X3,X4,X5,X6,X7,X8,X9,Y0,Y1,Y2,Y3,Y4,Y5,Y6,Y7,Y8,Y9,Z0,Z1,Z2,Z3,Z4,Z5,Z6,Z7,Z8,Z9,j0,j1,j2,j3,j4,j5,j6,j7,j8,j9,o0,o1,o2,o3,o4,o5,o6,o7,o8,o9,y0,y1,y2,y3,y4,y5,y6,y7,y8,y9,z0,z1,z2,z3,z4,z5,z6,z7,z8,z9,x0,x1,x2,x3,x4,x5,x6,x7,x8,x9,i0,i1,i2,i3,i4,i5,i6,i7,i8,i9,v0,v1,v2,v3], []⟩ w := by
  obtain ⟨i0, hi, hz0, hz1, hz2⟩ := info_p infI
  have HX : Hid _ := hexit
  have HP : Hid (PAt w gp P ∧ gp < hb ∧ P.length < 2 ^ 50 ∧ P.length = 64 * N) := ⟨hP, hgp, hpl, hN⟩
  have HK : Hid (LAt w kb ks ∧ kb < hb ∧ (∀ x ∈ ks, x < 2 ^ 32) ∧ ks.length = 64) := ⟨hk, hkb, hks, hkn⟩
  have HH : Hid (HAt w hb q.l ∧ q.ok) := ⟨hh, hq⟩
  have hNi : 64 * (N : Int) = (P.length : Int) := by omega
  have hpi : (P.length : Int) < 1125899906842624 := by omega
  clear hP hgp hpl hk hkb hks hkn hh hq hN
  conv => arg 2; whnf
  dsimp only
  go_loopw [8] (fun i wr => ∃ n : Nat, n ≤ N ∧ i = .int .i64 (64 * n : Nat) ∧ HAt wr hb (stF P ks 0 q n).l ∧ Below hb w wr) (fun i _ => 64 * N - (intOf i).toNat)
  case atStart => exact ⟨0, by omega, rfl, HH.out.1, Below.refl _ _⟩
  case round =>
    obtain ⟨n, hn, rfl, hh, hbl⟩ := hrel
    have HV : Hid (HAt wr hb (stF P ks 0 q n).l ∧ Below hb w wr ∧ (stF P ks 0 q n).ok) := ⟨hh, hbl, stF_ok P ks 0 q HH.out.2 n⟩
    clear hh hbl
    by_cases hlt : n < N
    · have hni : 64 * (n : Int) < (P.length : Int) := by omega
      have HNX : Hid (stF P ks 0 q (n + 1) = addN (stF P ks 0 q n) (roundsN (wsN (blk P n) 64) ks 64 (stF P ks 0 q n))) := by
        show mixN (stF P ks 0 q n) (blk P (0 + n)) ks = _
        rw [Nat.zero_add, mix_add]
      generalize stF P ks 0 q n = s at HV HNX
      have HNN : Hid (64 * n + 64 ≤ P.length ∧ n + 1 ≤ N) := by
        have := HP.out.2.2.2
        show _ ∧ _
        omega
      go_wp2
      refine loop4 _ _ _ _ _ _ _ _ _ _ _ _ _ _ _ _ _ _ _ _ _ _ _ _ _ _ _ _ _ _ _ _ _ _ _ _ _ _ _ _ _ _ _ _ _ _ _ _ _ _ _ _ _ _ _ _ _ _ _ _ _ _ _ _ _ _ _ _ _ _ _ _ _ _ _ _ _ _ _ _ _ _ _ _ _ _ _ _ _ _ _ _ _ _ _ _ _ _ _ _ _ _ _ _ _ _ _ _ _ _ _ _ _ _ _ _ _ _ _ _ _ _ _ _ _ _ _ _ _ _ _ _ _ _ _ _ _ _ _ _ _ _ _ _ _ _ _ _ _ _ _ _ _ _ _ _ _ _ _ _ _ _ _ _ _ _ _ _ _ _ _ _ _ _ _ _ _ _ _ _ _ _ _ _ _ _ _ _ _ _ _ _ _ _ _ _ _ _ _ _ _ _ _ _ _ _ _ _ _ _ _ _ _ _ _ _ _ _ _ _ _ _ _ _ _ _ _ _ _ _ _ _ _ _ _ _ _ _ _ _ _ _ _ _ _ _ _ _ _ _ _ _ _ _ _ _ _ _ _ _ _ _ _ _ _ _ _ _ _ _ _ _ _ _ _ _ _ _ _ _ wr P gp pc n (HP.out.1.up HV.out.2.1 HP.out.2.1) (Nat.lt_trans HP.out.2.1 HV.out.1.lt) HP.out.2.2.1 HNN.out.1 _ ?_
      intro _ _ _ _ _ _ _ _ _ _ _ _ _ _ _ _ _ _ _ _ _ _ _ _ _ _ _ _ _ _ _ _ _ _ _ _ _ _ _ _ _ _ _ _ _ _ _ _ _ _ _ _ _ _ _ _ _ _ _ _ _ _ _ _ _ _ _ _ _ _ _ _ _ _ _ _ _ _ _ g1 c1 w1 hw1 hg1 hb1
      have H1 : Hid (LAt w1 g1 (wsN (blk P n) 64) ∧ g1 < w1.heap.size ∧ HAt w1 hb s.l ∧ Below hb w w1) := ⟨hw1, hg1, HV.out.1.up2 hb1, HV.out.2.1.trans (hb1.mono (Nat.le_of_lt HV.out.1.lt))⟩
      clear hw1 hg1 hb1
      have HW1 : Hid (∀ x ∈ wsN (blk P n) 64, x < 2 ^ 32) := (ws_nat (blk P n) 64).2
      have HW2 : Hid ((wsN (blk P n) 64).length = 64) := wsN_len _ _
      generalize wsN (blk P n) 64 = wl at H1 HW1 HW2 HNX
      have HOE : Hid ((w1.alloc (.cells #[] 3)).ownsRow w1.heap.size 3 1 (.slice (some ⟨w1.heap.size, 0, none⟩) 0 0) 0 []) := World.ownsRow_lit w1 #[] 0 (Nat.le_refl _) (by unfold maxLen; omega) rfl
      have HCE : Hid (∀ j u, (ics s.l)[j]? = some u → (w1.alloc (.cells #[] 3)).cell? ((⟨hb, 0, none⟩ : Addr).add j) = some u) := fun j u hj => by
        have hj8 : j < s.l.length := by
          have := (List.getElem?_eq_some_iff.1 hj).1
          rwa [ics_len] at this
        rw [ics_get _ _ hj8] at hj
        injection hj with hj
        rw [← hj]
        have := (H1.out.2.2.1.up2 (bl_al (Below.refl _ _) (.cells #[] 3))).lat j hj8
        rw [add0C]
        exact this
      go_wp2_with (at_builtin; refine wpList_append_own _ rfl _ _ 31 rfl w1.heap.size 3 i0 (.int .i64 0) 1 8 Tryd.underlying31 hi hz0 hz1 hz2 rfl (by decide) _ _ _ rfl HOE.out ⟨hb, 0, none⟩ 8 hc (ics s.l) rfl rfl HCE.out (ics_one _) ?c3 ?c4 ?c5 ?_)
      case c3 => unfold maxLen; omega
      case c4 => decide
      case c5 => rw [World.size_alloc]; omega
      intro v' w2 hown2 hg2 _
      have HB2 : Hid (Below w1.heap.size w1 w2) := ((Below.refl _ _).alloc (Nat.le_refl _) _).grown hg2 (by rw [World.size_alloc]; omega) (fun j hj => (HOE.out.lt j hj).1)
      have hown3 : w2.ownsRow w1.heap.size 3 1 v' 8 (ics s.l) := hown2
      clear hown2 hg2 HCE HOE
      obtain ⟨g2, cap2, rfl, hgb2, hgs2⟩ := hown3.form (by omega)
      have H2 : Hid (VAt w2 g2 s ∧ g2 < w2.heap.size ∧ w1.heap.size ≤ g2) := ⟨v_of_row hown3, hgs2, hgb2⟩
      clear hown3 hgs2 hgb2
      have H2K : Hid (LAt w2 kb ks ∧ LAt w2 g1 wl ∧ kb < w2.heap.size ∧ g1 < w2.heap.size ∧ HAt w2 hb s.l ∧ Below hb w w2) := by
        obtain ⟨h1, h2, h3, h4⟩ := H1.out
        have hz := HB2.out.size
        have hl := h3.lt
        have hk := HK.out.2.1
        exact ⟨(HK.out.1.upB h4 hk).up HB2.out (by omega), h1.up HB2.out h2, by omega, by omega, h3.up2 HB2.out, h4.trans (HB2.out.mono (by omega))⟩
      go_wp2
      refine loop6 _ _ _ _ _ _ _ _ _ _ _ _ _ _ _ _ _ _ _ _ _ _ _ _ _ _ _ _ _ _ _ _ _ _ _ _ _ _ _ _ _ _ _ _ _ _ _ _ _ _ _ _ _ _ _ _ _ _ _ _ _ _ _ _ _ _ _ _ _ _ _ _ _ _ _ _ _ _ _ _ _ _ _ _ _ _ _ _ _ _ _ _ _ _ _ _ _ _ _ _ _ _ _ _ _ _ _ _ _ _ _ _ _ _ _ _ _ _ _ _ _ _ _ _ _ _ _ _ _ _ _ _ _ _ _ _ _ _ _ _ _ _ _ _ _ _ _ _ _ _ _ _ _ _ _ _ _ _ _ _ _ _ _ _ _ _ _ _ _ _ _ _ _ _ _ _ _ _ _ _ _ _ _ _ _ _ _ _ _ _ _ _ _ _ _ _ _ _ _ _ _ _ _ _ _ _ _ _ _ _ _ _ _ _ _ _ _ _ _ _ _ _ _ _ _ _ _ _ _ _ _ _ _ _ _ _ _ _ _ _ _ _ _ _ _ _ _ _ _ _ _ _ _ _ _ _ _ _ _ _ _ _ _ _ _ _ _ _ _ _ _ _ _ _ _ _ _ _ _ _ w2 s HV.out.2.2 wl ks HW1.out HK.out.2.2.1 HW2.out HK.out.2.2.2 kb kc g1 c1 g2 cap2 H2K.out.1 H2K.out.2.1 H2K.out.2.2.1 H2K.out.2.2.2.1 H2.out.1 H2.out.2.1 _ ?_
      intro _ _ _ _ _ _ _ _ _ _ _ _ _ _ _ _ _ _ _ _ _ _ _ _ _ _ _ _ _ _ _ _ _ _ _ _ _ _ _ _ _ _ _ _ _ _ _ _ _ _ _ _ _ _ _ _ _ _ _ _ _ _ _ _ _ _ _ _ _ _ _ _ _ _ _ _ _ _ _ _ _ _ _ _ _ _ _ _ _ _ _ _ _ _ _ _ _ _ _ _ _ _ _ _ _ _ _ _ _ _ _ _ _ g3 c3 w3 hv3 hg3 hgo3 hb3
      have H3 : Hid (VAt w3 g3 (roundsN wl ks 64 s) ∧ HAt w3 hb s.l ∧ hb ≠ g3 ∧ Below hb w w3) := by
        have hl := H1.out.2.2.1.lt
        have hz := HB2.out.size
        refine ⟨hv3, H2K.out.2.2.2.2.1.up2 hb3, ?_, H2K.out.2.2.2.2.2.trans (hb3.mono (by omega))⟩
        have := H2.out.2.2
        rcases hgo3 with h | h <;> omega
      clear hv3 hg3 hgo3 hb3
      have HRO : Hid ((roundsN wl ks 64 s).ok) := roundsN_ok wl ks 64 s HV.out.2.2
      generalize roundsN wl ks 64 s = r at H3 HRO HNX
      go_wp2
      refine loop7 _ _ _ _ _ _ _ _ _ _ _ _ _ _ _ _ _ _ _ _ _ _ _ _ _ _ _ _ _ _ _ _ _ _ _ _ _ _ _ _ _ _ _ _ _ _ _ _ _ _ _ _ _ _ _ _ _ _ _ _ _ _ _ _ _ _ _ _ _ _ _ _ _ _ _ _ _ _ _ _ _ _ _ _ _ _ _ _ _ _ _ _ _ _ _ _ _ _ _ _ _ _ _ _ _ _ _ _ _ _ _ _ _ _ _ _ _ _ _ _ _ _ _ _ _ _ _ _ _ _ _ _ _ _ _ _ _ _ _ _ _ _ _ _ _ _ _ _ _ _ _ _ _ _ _ _ _ _ _ _ _ _ _ _ _ _ _ _ _ _ _ _ _ _ _ _ _ _ _ _ _ _ _ _ _ _ _ _ _ _ _ _ _ _ _ _ _ _ _ _ _ _ _ _ _ _ _ _ _ _ _ _ _ _ _ _ _ _ _ _ _ _ _ _ _ _ _ _ _ _ _ _ _ _ _ _ _ _ _ _ _ _ _ _ _ _ _ _ _ _ _ _ _ _ _ _ _ _ _ _ _ _ _ _ _ _ _ _ _ _ _ _ _ _ _ _ _ _ _ _ _ w3 s r HV.out.2.2 HRO.out hb hc g3 c3 H3.out.2.1 H3.out.1 H3.out.2.2.1 _ ?_
      intro _ _ _ _ _ _ _ _ _ _ _ _ _ _ _ _ _ _ w4 hh4 hb4
      have H4 : Hid (HAt w4 hb (stF P ks 0 q (n + 1)).l ∧ Below hb w w4) := ⟨by rw [HNX.out]; exact hh4, H3.out.2.2.2.trans hb4⟩
      clear hh4 hb4
      go_wp2
      refine ⟨⟨n + 1, HNN.out.2, ?_, H4.out.1, H4.out.2⟩, ?_⟩
      · exact congrArg (Value.int .i64) (by omega)
      · simp only [intOf]
        omega
    · obtain rfl : n = N := by omega
      go_wp2
      exact HX.out _ _ _ _ _ _ _ _ _ _ _ _ _ _ _ _ _ _ _ _ _ _ _ _ _ _ _ _ _ _ _ _ _ _ _ _ _ _ _ _ _ _ _ _ _ _ _ _ _ _ _ _ _ _ _ _ _ _ _ _ _ _ _ _ _ _ _ _ _ _ _ _ _ _ _ _ _ _ _ _ _ _ _ _ _ _ _ _ _ _ _ _ _ _ _ _ _ _ _ _ _ _ _ _ _ _ _ _ _ _ _ _ _ _ _ _ _ _ _ _ _ _ _ _ _ _ _ _ _ _ _ _ _ _ _ _ _ _ _ _ _ _ _ _ _ _ _ _ _ _ _ _ _ _ _ _ _ _ _ _ _ _ _ _ _ _ _ _ _ _ _ _ _ _ _ _ _ _ _ _ _ _ _ _ _ _ _ _ _ _ _ _ _ _ _ _ _ _ _ _ _ _ _ _ _ _ _ _ _ _ _ _ _ _ _ _ _ _ _ _ _ _ _ HV.out.1 HV.out.2.1
end Go.Proofs.YtoceglbdnbnjpaaDoor

/- The document's own Sum: its digits. -/
namespace Go.Proofs.YtoceglbdnbnjpaaDoor
open Go.RowKit
variable (A0 A1 A2 A3 A4 A5 A6 A7 A8 A9 B0 B1 B2 B3 B4 B5 B6 B7 B8 B9 C0 C1 C2 C3 C4 C5 C6 C7 C8 C9 D0 D1 D2 D3 D4 D5 D6 D7 D8 D9 E0 E1 E2 E3 E4 E5 E6 E7 E8 E9 G0 G1 G2 G3 G4 G5 G6 G7 G8 G9 H0 H1 H2 H3 H4 H5 H6 H7 H8 H9 I0 I1 I2 I3 I4 I5 I6 I7 I8 I9 J0 J1 J2 J3 J4 J5 J6 J7 J8 J9 K0 K1 K2 K3 K4 K5 K6 K7 K8 K9 M0 M1 M2 M3 M4 M5 M6 M7 M8 M9 O0 O1 O2 O3 O4 O5 O6 O7 O8 O9 P0 P1 P2 P3 P4 P5 P6 P7 P8 P9 R0 R1 R2 R3 R4 R5 R6 R7 R8 R9 S0 S1 S2 S3 S4 S5 S6 S7 S8 S9 T0 T1 T2 T3 T4 T5 T6 T7 T8 T9 U0 U1 U2 U3 U4 U5 U6 U7 U8 U9 V0 V1 V2 V3 V4 V5 V6 V7 V8 V9 W0 W1 W2 W3 W4 W5 W6 W7 W8 W9 X0 X1 X2 X3 X4 X5 X6 X7 X8 X9 Y0 Y1 Y2 Y3 Y4 Y5 Y6 Y7 Y8 Y9 Z0 Z1 Z2 Z3 Z4 Z5 Z6 Z7 Z8 Z9 j0 j1 j2 j3 j4 j5 j6 j7 j8 j9 o0 o1 o2 o3 o4 o5 o6 o7 o8 o9 y0 y1 y2 y3 y4 y5 y6 y7 y8 y9 z0 z1 z2 z3 z4 z5 z6 z7 z8 z9 x0 x1 x2 x3 x4 x5 x6 x7 x8 x9 i0 i1 i2 i3 i4 i5 i6 i7 i8 i9 v0 v1 v2 v3 : Value)

theorem hexd_hexC : ∀ n, n < 16 → hexd n = hexC n := by decide
theorem digit_facts (x jn p d r : Nat) (hx : x < 2 ^ 32) (hp : p = 2 ^ (4 * jn)) (hd : d = x / p) (hr : r = d % 16) :
    ((p : Int) == 0) = false ∧ ¬ (p : Int) = 0 ∧ ¬ p = 0 ∧ (x : Int) / (p : Int) = (d : Int) ∧ (x : Int).tdiv (p : Int) = (d : Int) ∧ IntKind.i64.wrap (d : Int) = (d : Int) ∧ (d : Int) % 16 = (r : Int) ∧ (d : Int).tmod 16 = (r : Int) ∧ IntKind.i64.wrap (r : Int) = (r : Int) := by
  have hp0 : 0 < p := by rw [hp]; exact Nat.two_pow_pos _
  have hdl : d < 4294967296 := by rw [hd]; exact Nat.lt_of_le_of_lt (Nat.div_le_self _ _) hx
  exact ⟨beq_eq_false_iff_ne.2 (by omega), by omega, by omega, by rw [hd]; push_cast; rfl, by rw [hd]; exact tdivN x p, wr62 d hdl, by omega, by rw [hr]; exact tmodN d 16, wr62 r (by omega)⟩

set_option maxHeartbeats 4000000 in
set_option maxRecDepth 100000 in
theorem r49 (w : World) (hb hc i jn x : Nat) (b1 b3 : ByteArray) (hi : i < 8) (hj : jn ≤ 7) (hx : x < 2 ^ 32) (c0 : w.cell? ⟨hb, i, none⟩ = some (.int .i64 x))
    (hadd : ∀ W : World, (Op.stringOp .add b1 ⟨#[UInt8.ofNat (hexC (x / 2 ^ (4 * jn) % 16))]⟩).run Tryd.prog W = .ok (.string b3) W) (Q0 : Exit → Act → World → Prop)
    (hexit : ∀ (Wc Wf Wg Wh Wj Wk Wm Wq Wt Wv Ww Wx : Value) (n : Nat), Q0 .normal ⟨#[A0,A1,A2,A3,A4,A5,A6,.slice (some ⟨hb, 0, none⟩) 8 hc,A8,A9,B0,B1,B2,B3,B4,B5,B6,B7,B8,B9,C0,C1,C2,C3,C4,C5,.string b3,.int .i64 i,.int .i64 jn,C9,D0,D1,D2,D3,D4,D5,D6,D7,D8,D9,E0,E1,E2,E3,E4,E5,E6,E7,E8,E9,G0,G1,G2,G3,G4,G5,G6,G7,G8,G9,H0,H1,H2,H3,H4,H5,H6,H7,H8,H9,I0,I1,I2,I3,I4,I5,I6,I7,I8,I9,J0,J1,J2,J3,J4,J5,J6,J7,J8,J9,K0,K1,K2,K3,K4,K5,K6,K7,K8,K9,M0,M1,M2,M3,M4,M5,M6,M7,M8,M9,O0,O1,O2,O3,O4,O5,O6,O7,O8,O9,P0,P1,P2,P3,P4,P5,P6,P7,P8,P9,R0,R1,R2,R3,R4,R5,R6,R7,R8,R9,S0,S1,S2,S3,S4,S5,S6,S7,S8,S9,T0,T1,T2,T3,T4,T5,T6,T7,T8,T9,U0,U1,U2,U3,U4,U5,U6,U7,U8,U9,V0,V1,V2,V3,V4,V5,V6,V7,V8,V9,W0,W1,W2,W3,W4,W5,W6,W7,W8,W9,X0,X1,X2,X3,X4,X5,X6,X7,X8,X9,Y0,Y1,Y2,Y3,Y4,Y5,Y6,Y7,Y8,Y9,Z0,Z1,Z2,Z3,Z4,Z5,Z6,Z7,Z8,Z9,j0,j1,j2,j3,j4,j5,j6,j7,j8,j9,o0,o1,o2,o3,o4,o5,o6,o7,o8,o9,y0,y1,y2,y3,y4,y5,y6,y7,y8,y9,z0,z1,z2,z3,z4,z5,z6,z7,z8,z9,x0,x1,x2,x3,x4,x5,x6,x7,x8,x9,i0,Wc,Wf,Wg,Wh,Wj,Wk,Wm,Wq,Wt,Wv,Ww,Wx,v3], []⟩ (w.drewN n)) :
    Code.wp Tryd.prog (subC [true, true, true, true, true, true, true, true, false, true, false, false, true, false, false, true, false, false, true, false, false] (Tryd.f11.body.getD .skip)) Q0 ⟨#[A0,A1,A2,A3,A4,A5,A6,.slice (some ⟨hb, 0, none⟩) 8 hc,A8,A9,B0,B1,B2,B3,B4,B5,B6,B7,B8,B9,C0,C1,C2,C3,C4,C5,.string b1,.int .i64 i,.int .i64 jn,C9,D0,D1,D2,D3,D4,D5,D6,D7,D8,D9,E0,E1,E2,E3,E4,E5,E6,E7,E8,E9,G0,G1,G2,G3,G4,G5,G6,G7,G8,G9,H0,H1,H2,H3,H4,H5,H6,H7,H8,H9,I0,I1,I2,I3,I4,I5,I6,I7,I8,I9,J0,J1,J2,J3,J4,J5,J6,J7,J8,J9,K0,K1,K2,K3,K4,K5,K6,K7,K8,K9,M0,M1,M2,M3,M4,M5,M6,M7,M8,M9,O0,O1,O2,O3,O4,O5,O6,O7,O8,O9,P0,P1,P2,P3,P4,P5,P6,P7,P8,P9,R0,R1,R2,R3,R4,R5,R6,R7,R8,R9,S0,S1,S2,S3,S4,S5,S6,S7,S8,S9,T0,T1,T2,T3,T4,T5,T6,T7,T8,T9,U0,U1,U2,U3,U4,U5,U6,U7,U8,U9,V0,V1,V2,V3,V4,V5,V6,V7,V8,V9,W0,W1,W2,W3,W4,W5,W6,W7,W8,W9,X0,X1,X2,X3,X4,X5,X6,X7,X8,X9,Y0,Y1,Y2,Y3,Y4,Y5,Y6,Y7,Y8,Y9,Z0,Z1,Z2,Z3,Z4,Z5,Z6,Z7,Z8,Z9,j0,j1,j2,j3,j4,j5,j6,j7,j8,j9,o0,o1,o2,o3,o4,o5,o6,o7,o8,o9,y0,y1,y2,y3,y4,y5,y6,y7,y8,y9,z0,z1,z2,z3,z4,z5,z6,z7,z8,z9,x0,x1,x2,x3,x4,x5,x6,x7,x8,x9,i0,i1,i2,i3,i4,i5,i6,i7,i8,i9,v0,v1,v2,v3], []⟩ w := by
  have HX : Hid _ := hexit
  have hii : (i : Int) < 8 := by omega
  obtain ⟨p, hp⟩ : ∃ p, p = 2 ^ (4 * jn) := ⟨_, rfl⟩
  rw [← hp] at hadd
  obtain ⟨d, hd⟩ : ∃ d, d = x / p := ⟨_, rfl⟩
  obtain ⟨r, hr⟩ : ∃ r, r = d % 16 := ⟨_, rfl⟩
  rw [← hd, ← hr] at hadd
  obtain ⟨z, hz⟩ : ∃ z, z = 4 * jn := ⟨_, rfl⟩
  have hr16 : r < 16 := by omega
  have HP : Hid (∀ W : World, Calls Tryd.prog 27 #[.int .i64 z] W fun e w' => e = .returned (.int .i64 (p : Nat)) ∧ w' = W) := fun W => by rw [hp, ← hz]; exact Pow2_any z W (by omega)
  have HH : Hid (∀ W : World, Calls Tryd.prog 34 #[.int .i64 r] W fun e w' => e = .returned (.string ⟨#[UInt8.ofNat (hexC r)]⟩) ∧ w' = W) := fun W => by rw [← hexd_hexC r hr16]; exact hexDigit_any r W hr16
  generalize (⟨#[UInt8.ofNat (hexC r)]⟩ : ByteArray) = b2 at hadd HH
  have e1 : 4 * (jn : Int) = (z : Int) := by omega
  have f0 := wr62 z (by omega)
  obtain ⟨d1, d2, d3, d4, d5, d6, d7, d8, d9⟩ := digit_facts x jn p d r hx hp hd hr
  clear hp hd hr hz hr16 hx hj hi
  conv => arg 2; whnf
  go_quiet (first
    | (go_at_call 27; refine Calls.quiet_of_same (HP.out _))
    | (go_at_call 34; refine Calls.quiet_of_same (HH.out _)))
  exact HX.out _ _ _ _ _ _ _ _ _ _ _ _ _

theorem addc (l : List UInt8) (c : UInt8) (h : l.length + 1 ≤ 9223372036854775807) (W : World) : (Op.stringOp .add ⟨l.toArray⟩ ⟨#[c]⟩).run Tryd.prog W = .ok (.string ⟨(l ++ [c]).toArray⟩) W := by
  refine (run_string_add_sum (w := W) _ _ (by rw [show (⟨l.toArray⟩ : ByteArray).size = l.length from by show l.toArray.size = _; simp, show (⟨#[c]⟩ : ByteArray).size = 1 from rfl]; exact h)).trans ?_
  rw [show (⟨#[c]⟩ : ByteArray) = ⟨[c].toArray⟩ from rfl, ByteArray.mk_append_mk]
/-- The digits of the first i numbers. -/
def preD (l : List Nat) (i : Nat) : List UInt8 := (l.take i).flatMap fun x => (List.range 8).map (digN x)
theorem preD_next (l : List Nat) (i : Nat) (h : i < l.length) : preD l (i + 1) = preD l i ++ (List.range 8).map (digN (l.getD i 0)) := by
  unfold preD
  rw [List.take_succ_eq_append_getElem h, List.flatMap_append, List.getD_eq_getElem?_getD, List.getElem?_eq_getElem h]
  simp
theorem flat8 (l : List Nat) : (l.flatMap fun x => (List.range 8).map (digN x)).length = 8 * l.length := by
  induction l with
  | nil => rfl
  | cons a l ih => rw [List.flatMap_cons, List.length_append, ih, List.length_map, List.length_range, List.length_cons]; omega
theorem preD_len (l : List Nat) (i : Nat) (h : i ≤ 8) : (preD l i).length ≤ 64 := by
  unfold preD
  rw [flat8, List.length_take]
  omega

set_option maxHeartbeats 40000000 in
set_option maxRecDepth 100000 in
theorem loop8 (w : World) (q : N8) (hq : q.ok) (hb hc : Nat) (hh : HAt w hb q.l) (Q0 : Exit → Act → World → Prop)
    (hexit : ∀ (Bx By Vq Vt Vv Vw Vx Vy Vz Wb Wc Wf Wg Wh Wj Wk Wm Wq Wt Wv Ww Wx : Value) (w' : World), Below w.heap.size w w' → Q0 (.exit 14) ⟨#[A0,A1,A2,A3,A4,A5,A6,.slice (some ⟨hb, 0, none⟩) 8 hc,A8,A9,B0,B1,B2,B3,B4,B5,B6,B7,B8,B9,C0,C1,C2,C3,C4,C5,.string ⟨(digsN q).toArray⟩,Bx,By,C9,D0,D1,D2,D3,D4,D5,D6,D7,D8,D9,E0,E1,E2,E3,E4,E5,E6,E7,E8,E9,G0,G1,G2,G3,G4,G5,G6,G7,G8,G9,H0,H1,H2,H3,H4,H5,H6,H7,H8,H9,I0,I1,I2,I3,I4,I5,I6,I7,I8,I9,J0,J1,J2,J3,J4,J5,J6,J7,J8,J9,K0,K1,K2,K3,K4,K5,K6,K7,K8,K9,M0,M1,M2,M3,M4,M5,M6,M7,M8,M9,O0,O1,O2,O3,O4,O5,O6,O7,O8,O9,P0,P1,P2,P3,P4,P5,P6,P7,P8,P9,R0,R1,R2,R3,R4,R5,R6,R7,R8,R9,S0,S1,S2,S3,S4,S5,S6,S7,S8,S9,T0,T1,T2,T3,T4,T5,T6,T7,T8,T9,U0,U1,U2,U3,U4,U5,U6,U7,U8,U9,V0,V1,V2,V3,V4,V5,V6,V7,V8,V9,W0,W1,W2,W3,W4,W5,W6,W7,W8,W9,X0,X1,X2,X3,X4,X5,X6,X7,X8,X9,Y0,Y1,Y2,Y3,Y4,Y5,Y6,Y7,Y8,Y9,Z0,Z1,Z2,Z3,Z4,Z5,Z6,Z7,Z8,Z9,j0,j1,j2,j3,j4,j5,j6,j7,j8,j9,o0,o1,o2,o3,o4,o5,o6,o7,o8,o9,y0,y1,y2,y3,y4,y5,y6,y7,y8,y9,z0,z1,z2,z3,z4,z5,z6,z7,z8,z9,x0,x1,x2,Vq,Vt,Vv,Vw,Vx,Vy,Vz,Wb,Wc,Wf,Wg,Wh,Wj,Wk,Wm,Wq,Wt,Wv,Ww,Wx,v3], []⟩ w') :
    Code.wp Tryd.prog (subC [true, true, true, true, true, true, true, true, false, true, false] (Tryd.f11.body.getD .skip)) Q0 ⟨#[A0,A1,A2,A3,A4,A5,A6,.slice (some ⟨hb, 0, none⟩) 8 hc,A8,A9,B0,B1,B2,B3,B4,B5,B6,B7,B8,B9,C0,C1,C2,C3,C4,C5,.string ⟨#[]⟩,.int .i64 0,C8,C9,D0,D1,D2,D3,D4,D5,D6,D7,D8,D9,E0,E1,E2,E3,E4,E5,E6,E7,E8,E9,G0,G1,G2,G3,G4,G5,G6,G7,G8,G9,H0,H1,H2,H3,H4,H5,H6,H7,H8,H9,I0,I1,I2,I3,I4,I5,I6,I7,I8,I9,J0,J1,J2,J3,J4,J5,J6,J7,J8,J9,K0,K1,K2,K3,K4,K5,K6,K7,K8,K9,M0,M1,M2,M3,M4,M5,M6,M7,M8,M9,O0,O1,O2,O3,O4,O5,O6,O7,O8,O9,P0,P1,P2,P3,P4,P5,P6,P7,P8,P9,R0,R1,R2,R3,R4,R5,R6,R7,R8,R9,S0,S1,S2,S3,S4,S5,S6,S7,S8,S9,T0,T1,T2,T3,T4,T5,T6,T7,T8,T9,U0,U1,U2,U3,U4,U5,U6,U7,U8,U9,V0,V1,V2,V3,V4,V5,V6,V7,V8,V9,W0,W1,W2,W3,W4,W5,W6,W7,W8,W9,X0,X1,X2,X3,X4,X5,X6,X7,X8,X9,Y0,Y1,Y2,Y3,Y4,Y5,Y6,Y7,Y8,Y9,Z0,Z1,Z2,Z3,Z4,Z5,Z6,Z7,Z8,Z9,j0,j1,j2,j3,j4,j5,j6,j7,j8,j9,o0,o1,o2,o3,o4,o5,o6,o7,o8,o9,y0,y1,y2,y3,y4,y5,y6,y7,y8,y9,z0,z1,z2,z3,z4,z5,z6,z7,z8,z9,x0,x1,x2,x3,x4,x5,x6,x7,x8,x9,i0,i1,i2,i3,i4,i5,i6,i7,i8,i9,v0,v1,v2,v3], []⟩ w := by
  have HX : Hid _ := hexit
  have HD : Hid (digsN q = preD q.l 8) := rfl
  have HH : Hid (HAt w hb q.l ∧ q.ok ∧ q.l.length = 8) := ⟨hh, hq, rfl⟩
  have HQ : Hid (∀ i, q.l.getD i 0 < 2 ^ 32) := fun i => N8.l_lt hq i
  rw [HD.out] at HX
  clear hh hq HD
  generalize q.l = ql at HX HH HQ
  conv => arg 2; whnf
  dsimp only
  go_loopw [26, 27] (fun v i wr => ∃ k : Nat, k ≤ 8 ∧ i = .int .i64 k ∧ v = .string ⟨(preD ql k).toArray⟩ ∧ Below w.heap.size w wr) (fun _ i _ => 8 - (intOf i).toNat)
  case atStart => exact ⟨0, by omega, rfl, rfl, Below.refl _ _⟩
  case round =>
    obtain ⟨k, hk, rfl, rfl, hbl⟩ := hrel
    have HV : Hid (Below w.heap.size w wr) := hbl
    clear hbl
    by_cases hlt : k < 8
    · have hki : (k : Int) < 8 := by omega
      have HPL : Hid ((preD ql k).length ≤ 64) := preD_len ql k hk
      have HPN : Hid (preD ql (k + 1) = preD ql k ++ (List.range 8).map (digN (ql.getD k 0))) := preD_next ql k (by rw [HH.out.2.2]; exact hlt)
      have HC : Hid (∀ W : World, Below w.heap.size w W → W.cell? ⟨hb, k, none⟩ = some (.int .i64 (ql.getD k 0 : Nat))) := fun W hW => (HH.out.1.up2 hW).lat k (by rw [HH.out.2.2]; exact hlt)
      have HXL : Hid (ql.getD k 0 < 2 ^ 32) := HQ.out k
      generalize ql.getD k 0 = x at HPN HC HXL
      generalize preD ql k = pre at HPL HPN
      go_wp2
      go_loopw [26, 28] (fun v j wy => ∃ m : Nat, m ≤ 8 ∧ j = .int .i64 (7 - (m : Int)) ∧ v = .string ⟨(pre ++ (List.range m).map (digN x)).toArray⟩ ∧ Below w.heap.size w wy) (fun _ j _ => (intOf j + 1).toNat)
      case atStart => exact ⟨0, by omega, rfl, by simp, HV.out⟩
      case round =>
        clear HV
        obtain ⟨m, hm, rfl, rfl, hbl⟩ := hrel
        have HV : Hid (Below w.heap.size w _) := hbl
        clear hbl
        by_cases hm8 : m < 8
        · obtain ⟨jn, hjn⟩ : ∃ jn : Nat, jn = 7 - m := ⟨_, rfl⟩
          have e1 : (7 : Int) - (m : Int) = (jn : Int) := by omega
          have HJ : Hid (jn = 7 - m ∧ jn ≤ 7 ∧ (jn : Int) - 1 = 7 - ((m + 1 : Nat) : Int)) := ⟨hjn, by omega, by omega⟩
          have HA : Hid (∀ W : World, (Op.stringOp .add ⟨(pre ++ (List.range m).map (digN x)).toArray⟩ ⟨#[UInt8.ofNat (hexC (x / 2 ^ (4 * jn) % 16))]⟩).run Tryd.prog W = .ok (.string ⟨(pre ++ (List.range (m + 1)).map (digN x)).toArray⟩) W) := fun W => by
            rw [addc _ _ (by have := HPL.out; simp; omega) W]
            have : digN x m = UInt8.ofNat (hexC (x / 2 ^ (4 * jn) % 16)) := by
              unfold digN
              rw [show 28 - 4 * m = 4 * jn from by omega]
            rw [← this, List.range_succ, List.map_append, List.append_assoc]
            rfl
          clear hjn
          rw [e1]
          go_wp2
          refine r49 _ _ _ _ _ _ _ _ _ _ _ _ _ _ _ _ _ _ _ _ _ _ _ _ _ _ _ _ _ _ _ _ _ _ _ _ _ _ _ _ _ _ _ _ _ _ _ _ _ _ _ _ _ _ _ _ _ _ _ _ _ _ _ _ _ _ _ _ _ _ _ _ _ _ _ _ _ _ _ _ _ _ _ _ _ _ _ _ _ _ _ _ _ _ _ _ _ _ _ _ _ _ _ _ _ _ _ _ _ _ _ _ _ _ _ _ _ _ _ _ _ _ _ _ _ _ _ _ _ _ _ _ _ _ _ _ _ _ _ _ _ _ _ _ _ _ _ _ _ _ _ _ _ _ _ _ _ _ _ _ _ _ _ _ _ _ _ _ _ _ _ _ _ _ _ _ _ _ _ _ _ _ _ _ _ _ _ _ _ _ _ _ _ _ _ _ _ _ _ _ _ _ _ _ _ _ _ _ _ _ _ _ _ _ _ _ _ _ _ _ _ _ _ _ _ _ _ _ _ _ _ _ _ _ _ _ _ _ _ _ _ _ _ _ _ _ _ _ _ _ _ _ _ _ _ _ _ _ _ _ _ _ _ _ _ _ _ _ _ _ _ _ _ _ _ _ _ _ _ _ _ hb hc k jn x _ ⟨(pre ++ (List.range (m + 1)).map (digN x)).toArray⟩ hlt HJ.out.2.1 HXL.out (HC.out _ HV.out) HA.out _ ?_
          intro _ _ _ _ _ _ _ _ _ _ _ _ nn
          go_wp2
          refine ⟨⟨m + 1, by omega, congrArg (Value.int .i64) HJ.out.2.2, rfl, bl_dn HV.out _⟩, ?_⟩
          simp only [intOf]
          omega
        · obtain rfl : m = 8 := by omega
          go_wp2
          refine ⟨⟨k + 1, by omega, by go_num, by rw [HPN.out], HV.out⟩, by simp [intOf]; omega⟩
    · obtain rfl : k = 8 := by omega
      go_wp2
      exact HX.out _ _ _ _ _ _ _ _ _ _ _ _ _ _ _ _ _ _ _ _ _ _ _ HV.out
end Go.Proofs.YtoceglbdnbnjpaaDoor
