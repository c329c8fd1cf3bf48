/- CasPlays: one deed: what is known of a text. -/
import Derived.Test.YtoceglbdnbnjpaaDoorCpDM
import Derived.StillTailTactics
namespace Go.Proofs.YtoceglbdnbnjpaaDoor
open Go.RowKit Go.Shelf
variable {A0 A1 A2 A3 A4 A5 A6 A7 A8 A9 B0 B1 B2 B3 B4 B5 B6 B7 B8 B9 C0 C1 C2 C3 C4 C5 C6 C7 C8 C9 D0 D1 D2 D3 D4 D5 D6 D7 D8 D9 E0 E1 E2 E3 E4 E5 E6 E7 E8 E9 G0 G1 G2 G3 G4 G5 G6 G7 G8 G9 H0 H1 H2 H3 H4 H5 H6 H7 H8 H9 I0 I1 I2 I3 I4 I5 I6 I7 I8 I9 J0 J1 J2 J3 J4 J5 J6 J7 J8 J9 K0 K1 K2 K3 K4 K5 K6 K7 K8 K9 M0 M1 M2 M3 M4 M5 M6 M7 M8 M9 N0 N1 N2 N3 N4 N5 N6 N7 N8 N9 O0 O1 O2 O3 O4 O5 O6 O7 O8 O9 P0 P1 P2 P3 P4 P5 P6 P7 P8 P9 R0 R1 R2 R3 R4 R5 R6 R7 R8 R9 S0 S1 S2 S3 S4 S5 S6 S7 S8 S9 T0 T1 T2 T3 T4 T5 T6 T7 T8 T9 U0 U1 U2 U3 U4 U5 U6 U7 U8 U9 V0 V1 V2 V3 V4 V5 V6 V7 V8 V9 W0 W1 W2 W3 W4 W5 W6 W7 W8 W9 X0 X1 X2 X3 X4 X5 X6 X7 X8 X9 Y0 Y1 Y2 Y3 Y4 Y5 Y6 Y7 Y8 Y9 Z0 Z1 Z2 Z3 Z4 Z5 Z6 Z7 Z8 Z9 j0 j1 j2 j3 j4 j5 j6 j7 j8 j9 o0 o1 o2 o3 o4 o5 o6 o7 o8 o9 y0 y1 y2 y3 y4 y5 y6 y7 y8 y9 z0 z1 z2 z3 z4 z5 z6 z7 z8 z9 x0 x1 x2 x3 x4 x5 x6 x7 x8 x9 i0 i1 i2 i3 i4 i5 i6 : Value}

set_option maxHeartbeats 8000000 in
set_option maxRecDepth 100000 in
theorem sw4 {B P M R rm n g o jj ln cap : Nat} {E : List Ent} {t : Dd} {d : ByteArray} {av wq : Int} {w : World} (h : SwI B P M R rm n g (o + jj * 4) E t d av wq w) (hc : chs t.kd 6 = 4) (hj : jj < ln) (Q0 : Exit → Act → World → Prop)
    (hexit : ∀ (Ay Az Bb Bc Bf Bg Bh Bj Bk Bm Im Iq It Iv Iw Ix Iy Iz Jb Jc Jf Jg Jh Jj Jk Jm Jq Jt Jv Jw Jx Jy Jz Kb Kc Kf Kg Kh Kj Kk Km Kq Kt Kv Kw Kx Ky Kz Mb Mc Mf Mg Mh Mj Mk Mm Mq Mt Mv Mw Mx My Mz Nb Nc Nf Ng Nh Nj Nk Nm Nq Nt Nv Nw Nx Ny Nz Ob Oc Of Og Oh Oj Ok Om Oq Ot Ov Ow Ox Oy Oz Pb Pc Pf Pg Ph Pj Pk Pm Pq Pt Pv Pw Px Py Pz Rb Rc Rf Rg Rh Rj Rk Rm Rq Rt Rv Rw Rx Ry Rz Sb Sc Sf Sg Sh Sj Sk Sm Sq St Sv Sw Sx Sy Sz Tb Tc Tf Tg Th Tj Tk Tm Tq Tt Tv Tw Tx Ty Tz Ub Uc Uf Ug Uh Uj Uk Um Uq Ut Uv Uw Ux Uy : Value) (w' : World), SwO B P M R rm n w w' → Q0 .normal ⟨#[A0,.slice (some ⟨g, o, none⟩) ln cap,A2,A3,A4,kp P,A6,.pointer (some ⟨R, 0, none⟩),A8,A9,.int .i64 (jj : Int),.string d,.int .i64 av,Ay,Az,Bb,Bc,Bf,Bg,Bh,Bj,Bk,Bm,C3,C4,C5,C6,C7,C8,C9,D0,D1,D2,D3,D4,D5,D6,D7,D8,D9,E0,E1,E2,E3,E4,E5,E6,E7,E8,E9,G0,G1,G2,G3,G4,G5,G6,G7,G8,G9,H0,H1,H2,H3,H4,H5,H6,H7,H8,H9,I0,I1,I2,I3,I4,I5,I6,I7,I8,I9,J0,J1,J2,J3,J4,J5,J6,J7,J8,J9,K0,K1,K2,K3,K4,K5,K6,K7,K8,K9,M0,M1,M2,M3,M4,M5,M6,M7,M8,M9,N0,N1,Im,Iq,It,Iv,Iw,Ix,Iy,Iz,Jb,Jc,Jf,Jg,Jh,Jj,Jk,Jm,Jq,Jt,Jv,Jw,Jx,Jy,Jz,Kb,Kc,Kf,Kg,Kh,Kj,Kk,Km,Kq,Kt,Kv,Kw,Kx,Ky,Kz,Mb,Mc,Mf,Mg,Mh,Mj,Mk,Mm,Mq,Mt,Mv,Mw,Mx,My,Mz,Nb,Nc,Nf,Ng,Nh,Nj,Nk,Nm,Nq,Nt,Nv,Nw,Nx,Ny,Nz,Ob,Oc,Of,Og,Oh,Oj,Ok,Om,Oq,Ot,Ov,Ow,Ox,Oy,Oz,Pb,Pc,Pf,Pg,Ph,Pj,Pk,Pm,Pq,Pt,Pv,Pw,Px,Py,Pz,Rb,Rc,Rf,Rg,Rh,Rj,Rk,Rm,Rq,Rt,Rv,Rw,Rx,Ry,Rz,Sb,Sc,Sf,Sg,Sh,Sj,Sk,Sm,Sq,St,Sv,Sw,Sx,Sy,Sz,Tb,Tc,Tf,Tg,Th,Tj,Tk,Tm,Tq,Tt,Tv,Tw,Tx,Ty,Tz,Ub,Uc,Uf,Ug,Uh,Uj,Uk,Um,Uq,Ut,Uv,Uw,Ux,Uy,z9,x0,x1,x2,x3,x4,x5,x6,x7,x8,x9,i0,i1,i2,i3,i4,i5,i6], []⟩ w') :
    Code.wp Tryd.prog (subC [true, true, true, true, true, true, true, true, true, false, true, false, false, true, false, false, true, true, true, true, false] (Tryd.f3.body.getD .skip)) Q0 ⟨#[A0,.slice (some ⟨g, o, none⟩) ln cap,A2,A3,A4,kp P,A6,.pointer (some ⟨R, 0, none⟩),A8,A9,.int .i64 (jj : Int),.string d,.int .i64 av,.int .i64 wq,B4,B5,B6,B7,B8,B9,C0,C1,C2,C3,C4,C5,C6,C7,C8,C9,D0,D1,D2,D3,D4,D5,D6,D7,D8,D9,E0,E1,E2,E3,E4,E5,E6,E7,E8,E9,G0,G1,G2,G3,G4,G5,G6,G7,G8,G9,H0,H1,H2,H3,H4,H5,H6,H7,H8,H9,I0,I1,I2,I3,I4,I5,I6,I7,I8,I9,J0,J1,J2,J3,J4,J5,J6,J7,J8,J9,K0,K1,K2,K3,K4,K5,K6,K7,K8,K9,M0,M1,M2,M3,M4,M5,M6,M7,M8,M9,N0,N1,N2,N3,N4,N5,N6,N7,N8,N9,O0,O1,O2,O3,O4,O5,O6,O7,O8,O9,P0,P1,P2,P3,P4,P5,P6,P7,P8,P9,R0,R1,R2,R3,R4,R5,R6,R7,R8,R9,S0,S1,S2,S3,S4,S5,S6,S7,S8,S9,T0,T1,T2,T3,T4,T5,T6,T7,T8,T9,U0,U1,U2,U3,U4,U5,U6,U7,U8,U9,V0,V1,V2,V3,V4,V5,V6,V7,V8,V9,W0,W1,W2,W3,W4,W5,W6,W7,W8,W9,X0,X1,X2,X3,X4,X5,X6,X7,X8,X9,Y0,Y1,Y2,Y3,Y4,Y5,Y6,Y7,Y8,Y9,Z0,Z1,Z2,Z3,Z4,Z5,Z6,Z7,Z8,Z9,j0,j1,j2,j3,j4,j5,j6,j7,j8,j9,o0,o1,o2,o3,o4,o5,o6,o7,o8,o9,y0,y1,y2,y3,y4,y5,y6,y7,y8,y9,z0,z1,z2,z3,z4,z5,z6,z7,z8,z9,x0,x1,x2,x3,x4,x5,x6,x7,x8,x9,i0,i1,i2,i3,i4,i5,i6], []⟩ w := by
  have HX : Hid (∀ (Ay Az Bb Bc Bf Bg Bh Bj Bk Bm Im Iq It Iv Iw Ix Iy Iz Jb Jc Jf Jg Jh Jj Jk Jm Jq Jt Jv Jw Jx Jy Jz Kb Kc Kf Kg Kh Kj Kk Km Kq Kt Kv Kw Kx Ky Kz Mb Mc Mf Mg Mh Mj Mk Mm Mq Mt Mv Mw Mx My Mz Nb Nc Nf Ng Nh Nj Nk Nm Nq Nt Nv Nw Nx Ny Nz Ob Oc Of Og Oh Oj Ok Om Oq Ot Ov Ow Ox Oy Oz Pb Pc Pf Pg Ph Pj Pk Pm Pq Pt Pv Pw Px Py Pz Rb Rc Rf Rg Rh Rj Rk Rm Rq Rt Rv Rw Rx Ry Rz Sb Sc Sf Sg Sh Sj Sk Sm Sq St Sv Sw Sx Sy Sz Tb Tc Tf Tg Th Tj Tk Tm Tq Tt Tv Tw Tx Ty Tz Ub Uc Uf Ug Uh Uj Uk Um Uq Ut Uv Uw Ux Uy : Value) (w' : World), SwO B P M R rm n w w' → Q0 .normal ⟨#[A0,.slice (some ⟨g, o, none⟩) ln cap,A2,A3,A4,kp P,A6,.pointer (some ⟨R, 0, none⟩),A8,A9,.int .i64 (jj : Int),.string d,.int .i64 av,Ay,Az,Bb,Bc,Bf,Bg,Bh,Bj,Bk,Bm,C3,C4,C5,C6,C7,C8,C9,D0,D1,D2,D3,D4,D5,D6,D7,D8,D9,E0,E1,E2,E3,E4,E5,E6,E7,E8,E9,G0,G1,G2,G3,G4,G5,G6,G7,G8,G9,H0,H1,H2,H3,H4,H5,H6,H7,H8,H9,I0,I1,I2,I3,I4,I5,I6,I7,I8,I9,J0,J1,J2,J3,J4,J5,J6,J7,J8,J9,K0,K1,K2,K3,K4,K5,K6,K7,K8,K9,M0,M1,M2,M3,M4,M5,M6,M7,M8,M9,N0,N1,Im,Iq,It,Iv,Iw,Ix,Iy,Iz,Jb,Jc,Jf,Jg,Jh,Jj,Jk,Jm,Jq,Jt,Jv,Jw,Jx,Jy,Jz,Kb,Kc,Kf,Kg,Kh,Kj,Kk,Km,Kq,Kt,Kv,Kw,Kx,Ky,Kz,Mb,Mc,Mf,Mg,Mh,Mj,Mk,Mm,Mq,Mt,Mv,Mw,Mx,My,Mz,Nb,Nc,Nf,Ng,Nh,Nj,Nk,Nm,Nq,Nt,Nv,Nw,Nx,Ny,Nz,Ob,Oc,Of,Og,Oh,Oj,Ok,Om,Oq,Ot,Ov,Ow,Ox,Oy,Oz,Pb,Pc,Pf,Pg,Ph,Pj,Pk,Pm,Pq,Pt,Pv,Pw,Px,Py,Pz,Rb,Rc,Rf,Rg,Rh,Rj,Rk,Rm,Rq,Rt,Rv,Rw,Rx,Ry,Rz,Sb,Sc,Sf,Sg,Sh,Sj,Sk,Sm,Sq,St,Sv,Sw,Sx,Sy,Sz,Tb,Tc,Tf,Tg,Th,Tj,Tk,Tm,Tq,Tt,Tv,Tw,Tx,Ty,Tz,Ub,Uc,Uf,Ug,Uh,Uj,Uk,Um,Uq,Ut,Uv,Uw,Ux,Uy,z9,x0,x1,x2,x3,x4,x5,x6,x7,x8,x9,i0,i1,i2,i3,i4,i5,i6], []⟩ w') := hexit
  have HC : Hid (∀ W, Calls Tryd.prog 9 #[.int .i64 t.kd, .int .i64 6] W fun e w' => e = .returned (.int .i64 4) ∧ w' = W) := fun W => h.choose 4 hc W
  have HI : Hid (SwI B P M R rm n g (o + jj * 4) E t d av wq w) := h
  obtain ⟨k0, k1, k2, k3⟩ := h.cl w (Below.refl _ _)
  have hji : (jj : Int) < (ln : Int) := by omega
  conv => arg 2; whnf
  clear hexit hc hj
  have HO : Hid (∀ W, Below w.heap.size w W → SwO B P M R rm n w W) := fun W hW => ⟨⟨E, (h.kb.up hW).more (by omega)⟩, hW.mono h.kb.size⟩
  rcases h.wh with ⟨rfl, rfl, hd⟩ | ⟨rfl, rfl, hd, hnn⟩ | ⟨rfl, i, rfl, hi, hd⟩
  · have HF : Hid (Calls Tryd.prog 21 #[kp P, .string d] w fun r w' => r = .returned (.tuple #[.agg #[.bool false, .int .i64 0, .int .i64 0], .int .i64 1]) ∧ Below w.heap.size w w') := Find_bad d hd
    clear h HI k1 k2 k3 hd
    generalize t.kd = kd at k0 HC
    go_wp2_with (first
      | (go_at_call 9; refine (HC.out _).mono ?_; rintro e w' ⟨rfl, hw⟩; subst w')
      | (go_at_call 21; refine HF.out.mono ?_; rintro e w1 ⟨rfl, hb1⟩)
      | fail)
    refine HX.out _ _ _ _ _ _ _ _ _ _ _ _ _ _ _ _ _ _ _ _ _ _ _ _ _ _ _ _ _ _ _ _ _ _ _ _ _ _ _ _ _ _ _ _ _ _ _ _ _ _ _ _ _ _ _ _ _ _ _ _ _ _ _ _ _ _ _ _ _ _ _ _ _ _ _ _ _ _ _ _ _ _ _ _ _ _ _ _ _ _ _ _ _ _ _ _ _ _ _ _ _ _ _ _ _ _ _ _ _ _ _ _ _ _ _ _ _ _ _ _ _ _ _ _ _ _ _ _ _ _ _ _ _ _ _ _ _ _ _ _ _ _ _ _ _ _ _ _ _ _ _ _ _ _ _ _ _ _ _ _ _ _ _ _ _ _ _ _ (HO.out _ ?_)
    exact ((hb1.alloc (Nat.le_trans (Nat.le_refl _) hb1.size) _).alloc (by simp; have := hb1.size; omega) _)
  · have HF : Hid (Calls Tryd.prog 21 #[kp P, .string d] w fun r w' => r = .returned (.tuple #[.agg #[.bool false, .int .i64 0, .int .i64 0], .int .i64 0]) ∧ Below w.heap.size w w') := by
      obtain ⟨tn, I, tv, pv, q1, _⟩ := h.kb
      exact Find_no d fun W hW => look_no (q1.up hW) hnn hd
    clear h HI k1 k2 k3 hd hnn
    generalize t.kd = kd at k0 HC
    go_wp2_with (first
      | (go_at_call 9; refine (HC.out _).mono ?_; rintro e w' ⟨rfl, hw⟩; subst w')
      | (go_at_call 21; refine HF.out.mono ?_; rintro e w1 ⟨rfl, hb1⟩)
      | fail)
    refine HX.out _ _ _ _ _ _ _ _ _ _ _ _ _ _ _ _ _ _ _ _ _ _ _ _ _ _ _ _ _ _ _ _ _ _ _ _ _ _ _ _ _ _ _ _ _ _ _ _ _ _ _ _ _ _ _ _ _ _ _ _ _ _ _ _ _ _ _ _ _ _ _ _ _ _ _ _ _ _ _ _ _ _ _ _ _ _ _ _ _ _ _ _ _ _ _ _ _ _ _ _ _ _ _ _ _ _ _ _ _ _ _ _ _ _ _ _ _ _ _ _ _ _ _ _ _ _ _ _ _ _ _ _ _ _ _ _ _ _ _ _ _ _ _ _ _ _ _ _ _ _ _ _ _ _ _ _ _ _ _ _ _ _ _ _ _ _ _ _ (HO.out _ ?_)
    exact ((hb1.alloc (Nat.le_trans (Nat.le_refl _) hb1.size) _).alloc (by simp; have := hb1.size; omega) _)
  · have hip : i < (prs E).length := by rw [prs_len]; exact hi
    have HF : Hid (Calls Tryd.prog 21 #[kp P, .string d] w fun r w' => r = .returned (.tuple #[.agg #[.bool true, .int .i64 ((E[i]).tx.size : Int), .int .i64 ((E[i]).pins : Int)], .int .i64 0]) ∧ Below w.heap.size w w') := by
      have hdo := h.kb.dok
      obtain ⟨tn, I, tv, pv, q1, _⟩ := h.kb
      rw [← hd]
      exact Find_yes q1 (List.getElem_mem hi) (hdo _ (List.getElem_mem hi))
    have HR : Hid (∀ W, Below w.heap.size w W → ∃ gt ct gp cp, W.cell? ⟨R, 1, none⟩ = some (.slice (some ⟨gt, 0, none⟩) E.length ct) ∧ W.cell? ⟨gt, i, none⟩ = some (.string (E[i]).tx) ∧ W.cell? ⟨R, 2, none⟩ = some (.slice (some ⟨gp, 0, none⟩) E.length cp) ∧ W.cell? ⟨gp, i, none⟩ = some (.int .i64 ((E[i]).pins : Int))) := fun W hW => by
      obtain ⟨gt, ct, gp, cp, r1, r2, r3, r4⟩ := (h.kb.up hW).row i hip
      rw [prs_get E i hi] at r2 r4
      rw [prs_len] at r1 r3
      exact ⟨gt, ct, gp, cp, r1, r2, r3, r4⟩
    have hin : (i : Int) < (E.length : Int) := by omega
    have hi0 : (0 : Int) ≤ (i : Int) := by omega
    clear h hd HI hip k1 k2 k3
    generalize (E[i]).pins = q at HF HR
    generalize (E[i]).tx = x at HF HR
    clear hi
    generalize E.length = en at HR hin
    generalize t.kd = kd at k0 HC
    go_wp2_with (first
      | (go_at_call 9; refine (HC.out _).mono ?_; rintro e w' ⟨rfl, hw⟩; subst w')
      | (go_at_call 21; refine HF.out.mono ?_; rintro e w1 ⟨rfl, hb1⟩; clear k0)
      | fail)
    have hbA : Below w.heap.size w ((w1.alloc (.cells #[.bool true, .int .i64 (x.size : Int), .int .i64 (q : Int)] 47)).alloc (.cells #[.bool false, .int .i64 0, .int .i64 0] 47)) := (hb1.alloc hb1.size _).alloc (by simp; have := hb1.size; omega) _
    obtain ⟨V, hV⟩ : ∃ V, V = ((w1.alloc (.cells #[.bool true, .int .i64 (x.size : Int), .int .i64 (q : Int)] 47)).alloc (.cells #[.bool false, .int .i64 0, .int .i64 0] 47)).drew := ⟨_, rfl⟩
    have HV : Hid (V = ((w1.alloc (.cells #[.bool true, .int .i64 (x.size : Int), .int .i64 (q : Int)] 47)).alloc (.cells #[.bool false, .int .i64 0, .int .i64 0] 47)).drew) := hV
    have hbV : Below w.heap.size w V := by rw [hV]; exact hbA.drew
    obtain ⟨gt, ct, gp, cp, r1, r2, r3, r4⟩ := HR.out _ hbV
    have HBV : Hid (Below w.heap.size w V) := hbV
    have HB1 : Hid (Below w.heap.size w w1) := hb1
    clear hbA HR hbV hb1 HC HF
    refine wp_region_still_tail 16 (by kernel_rfl) (by kernel_rfl) ?_
    simp only [List.take_succ_cons, List.take_zero, List.drop_succ_cons, List.drop_zero]
    change wpStill _ _ ((w1.alloc (.cells #[.bool true, .int .i64 (x.size : Int), .int .i64 (q : Int)] 47)).alloc (.cells #[.bool false, .int .i64 0, .int .i64 0] 47)).drew (fun a' => wpList _ _ _ _ a' ((w1.alloc (.cells #[.bool true, .int .i64 (x.size : Int), .int .i64 (q : Int)] 47)).alloc (.cells #[.bool false, .int .i64 0, .int .i64 0] 47)).drew) _ _
    rw [← hV]
    clear hV
    repeat still_step
    refine wpStill_nil ?_
    rw [HV.out]
    clear r1 r2 r3 r4 HBV HV
    go_wp2
    refine HX.out _ _ _ _ _ _ _ _ _ _ _ _ _ _ _ _ _ _ _ _ _ _ _ _ _ _ _ _ _ _ _ _ _ _ _ _ _ _ _ _ _ _ _ _ _ _ _ _ _ _ _ _ _ _ _ _ _ _ _ _ _ _ _ _ _ _ _ _ _ _ _ _ _ _ _ _ _ _ _ _ _ _ _ _ _ _ _ _ _ _ _ _ _ _ _ _ _ _ _ _ _ _ _ _ _ _ _ _ _ _ _ _ _ _ _ _ _ _ _ _ _ _ _ _ _ _ _ _ _ _ _ _ _ _ _ _ _ _ _ _ _ _ _ _ _ _ _ _ _ _ _ _ _ _ _ _ _ _ _ _ _ _ _ _ _ _ _ _ (HO.out _ ?_)
    exact ((HB1.out.alloc HB1.out.size _).alloc (by simp; have := HB1.out.size; omega) _).drew
end Go.Proofs.YtoceglbdnbnjpaaDoor
