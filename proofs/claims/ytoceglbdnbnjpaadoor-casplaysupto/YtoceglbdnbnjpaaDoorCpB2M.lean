/- CasPlays: one deed: a text is pinned. -/
import Derived.Test.YtoceglbdnbnjpaaDoorCpDM
namespace Go.Proofs.YtoceglbdnbnjpaaDoor
open Go.RowKit Go.Shelf
variable {A0 A1 A2 A3 A4 A5 A6 A7 A8 A9 B0 B1 B2 B3 B4 B5 B6 B7 B8 B9 C0 C1 C2 C3 C4 C5 C6 C7 C8 C9 D0 D1 D2 D3 D4 D5 D6 D7 D8 D9 E0 E1 E2 E3 E4 E5 E6 E7 E8 E9 G0 G1 G2 G3 G4 G5 G6 G7 G8 G9 H0 H1 H2 H3 H4 H5 H6 H7 H8 H9 I0 I1 I2 I3 I4 I5 I6 I7 I8 I9 J0 J1 J2 J3 J4 J5 J6 J7 J8 J9 K0 K1 K2 K3 K4 K5 K6 K7 K8 K9 M0 M1 M2 M3 M4 M5 M6 M7 M8 M9 N0 N1 N2 N3 N4 N5 N6 N7 N8 N9 O0 O1 O2 O3 O4 O5 O6 O7 O8 O9 P0 P1 P2 P3 P4 P5 P6 P7 P8 P9 R0 R1 R2 R3 R4 R5 R6 R7 R8 R9 S0 S1 S2 S3 S4 S5 S6 S7 S8 S9 T0 T1 T2 T3 T4 T5 T6 T7 T8 T9 U0 U1 U2 U3 U4 U5 U6 U7 U8 U9 V0 V1 V2 V3 V4 V5 V6 V7 V8 V9 W0 W1 W2 W3 W4 W5 W6 W7 W8 W9 X0 X1 X2 X3 X4 X5 X6 X7 X8 X9 Y0 Y1 Y2 Y3 Y4 Y5 Y6 Y7 Y8 Y9 Z0 Z1 Z2 Z3 Z4 Z5 Z6 Z7 Z8 Z9 j0 j1 j2 j3 j4 j5 j6 j7 j8 j9 o0 o1 o2 o3 o4 o5 o6 o7 o8 o9 y0 y1 y2 y3 y4 y5 y6 y7 y8 y9 z0 z1 z2 z3 z4 z5 z6 z7 z8 z9 x0 x1 x2 x3 x4 x5 x6 x7 x8 x9 i0 i1 i2 i3 i4 i5 i6 : Value}

set_option maxHeartbeats 8000000 in
set_option maxRecDepth 100000 in
theorem sw2 {B P M R rm n g o jj ln cap : Nat} {E : List Ent} {t : Dd} {d : ByteArray} {av wq : Int} {w : World} (h : SwI B P M R rm n g (o + jj * 4) E t d av wq w) (hc : chs t.kd 6 = 2) (hj : jj < ln) (Q0 : Exit → Act → World → Prop)
    (hexit : ∀ (Ay Az Bb Bc Bf Bg Bh Bj Bk Bm Im Iq It Iv Iw Ix Iy Iz Jb Jc Jf Jg Jh Jj Jk Jm Jq Jt Jv Jw Jx Jy Jz Kb Kc Kf Kg Kh Kj Kk Km Kq Kt Kv Kw Kx Ky Kz Mb Mc Mf Mg Mh Mj Mk Mm Mq Mt Mv Mw Mx My Mz Nb Nc Nf Ng Nh Nj Nk Nm Nq Nt Nv Nw Nx Ny Nz Ob Oc Of Og Oh Oj Ok Om Oq Ot Ov Ow Ox Oy Oz Pb Pc Pf Pg Ph Pj Pk Pm Pq Pt Pv Pw Px Py Pz Rb Rc Rf Rg Rh Rj Rk Rm Rq Rt Rv Rw Rx Ry Rz Sb Sc Sf Sg Sh Sj Sk Sm Sq St Sv Sw Sx Sy Sz Tb Tc Tf Tg Th Tj Tk Tm Tq Tt Tv Tw Tx Ty Tz Ub Uc Uf Ug Uh Uj Uk Um Uq Ut Uv Uw Ux Uy : Value) (w' : World), SwO B P M R rm n w w' → Q0 .normal ⟨#[A0,.slice (some ⟨g, o, none⟩) ln cap,A2,A3,A4,kp P,A6,.pointer (some ⟨R, 0, none⟩),A8,A9,.int .i64 (jj : Int),.string d,.int .i64 av,Ay,Az,Bb,Bc,Bf,Bg,Bh,Bj,Bk,Bm,C3,C4,C5,C6,C7,C8,C9,D0,D1,D2,D3,D4,D5,D6,D7,D8,D9,E0,E1,E2,E3,E4,E5,E6,E7,E8,E9,G0,G1,G2,G3,G4,G5,G6,G7,G8,G9,H0,H1,H2,H3,H4,H5,H6,H7,H8,H9,I0,I1,I2,I3,I4,I5,I6,I7,I8,I9,J0,J1,J2,J3,J4,J5,J6,J7,J8,J9,K0,K1,K2,K3,K4,K5,K6,K7,K8,K9,M0,M1,M2,M3,M4,M5,M6,M7,M8,M9,N0,N1,Im,Iq,It,Iv,Iw,Ix,Iy,Iz,Jb,Jc,Jf,Jg,Jh,Jj,Jk,Jm,Jq,Jt,Jv,Jw,Jx,Jy,Jz,Kb,Kc,Kf,Kg,Kh,Kj,Kk,Km,Kq,Kt,Kv,Kw,Kx,Ky,Kz,Mb,Mc,Mf,Mg,Mh,Mj,Mk,Mm,Mq,Mt,Mv,Mw,Mx,My,Mz,Nb,Nc,Nf,Ng,Nh,Nj,Nk,Nm,Nq,Nt,Nv,Nw,Nx,Ny,Nz,Ob,Oc,Of,Og,Oh,Oj,Ok,Om,Oq,Ot,Ov,Ow,Ox,Oy,Oz,Pb,Pc,Pf,Pg,Ph,Pj,Pk,Pm,Pq,Pt,Pv,Pw,Px,Py,Pz,Rb,Rc,Rf,Rg,Rh,Rj,Rk,Rm,Rq,Rt,Rv,Rw,Rx,Ry,Rz,Sb,Sc,Sf,Sg,Sh,Sj,Sk,Sm,Sq,St,Sv,Sw,Sx,Sy,Sz,Tb,Tc,Tf,Tg,Th,Tj,Tk,Tm,Tq,Tt,Tv,Tw,Tx,Ty,Tz,Ub,Uc,Uf,Ug,Uh,Uj,Uk,Um,Uq,Ut,Uv,Uw,Ux,Uy,z9,x0,x1,x2,x3,x4,x5,x6,x7,x8,x9,i0,i1,i2,i3,i4,i5,i6], []⟩ w') :
    Code.wp Tryd.prog (subC [true, true, true, true, true, true, true, true, true, false, true, false, false, true, false, false, true, true, true, true, false] (Tryd.f3.body.getD .skip)) Q0 ⟨#[A0,.slice (some ⟨g, o, none⟩) ln cap,A2,A3,A4,kp P,A6,.pointer (some ⟨R, 0, none⟩),A8,A9,.int .i64 (jj : Int),.string d,.int .i64 av,.int .i64 wq,B4,B5,B6,B7,B8,B9,C0,C1,C2,C3,C4,C5,C6,C7,C8,C9,D0,D1,D2,D3,D4,D5,D6,D7,D8,D9,E0,E1,E2,E3,E4,E5,E6,E7,E8,E9,G0,G1,G2,G3,G4,G5,G6,G7,G8,G9,H0,H1,H2,H3,H4,H5,H6,H7,H8,H9,I0,I1,I2,I3,I4,I5,I6,I7,I8,I9,J0,J1,J2,J3,J4,J5,J6,J7,J8,J9,K0,K1,K2,K3,K4,K5,K6,K7,K8,K9,M0,M1,M2,M3,M4,M5,M6,M7,M8,M9,N0,N1,N2,N3,N4,N5,N6,N7,N8,N9,O0,O1,O2,O3,O4,O5,O6,O7,O8,O9,P0,P1,P2,P3,P4,P5,P6,P7,P8,P9,R0,R1,R2,R3,R4,R5,R6,R7,R8,R9,S0,S1,S2,S3,S4,S5,S6,S7,S8,S9,T0,T1,T2,T3,T4,T5,T6,T7,T8,T9,U0,U1,U2,U3,U4,U5,U6,U7,U8,U9,V0,V1,V2,V3,V4,V5,V6,V7,V8,V9,W0,W1,W2,W3,W4,W5,W6,W7,W8,W9,X0,X1,X2,X3,X4,X5,X6,X7,X8,X9,Y0,Y1,Y2,Y3,Y4,Y5,Y6,Y7,Y8,Y9,Z0,Z1,Z2,Z3,Z4,Z5,Z6,Z7,Z8,Z9,j0,j1,j2,j3,j4,j5,j6,j7,j8,j9,o0,o1,o2,o3,o4,o5,o6,o7,o8,o9,y0,y1,y2,y3,y4,y5,y6,y7,y8,y9,z0,z1,z2,z3,z4,z5,z6,z7,z8,z9,x0,x1,x2,x3,x4,x5,x6,x7,x8,x9,i0,i1,i2,i3,i4,i5,i6], []⟩ w := by
  have HX : Hid (∀ (Ay Az Bb Bc Bf Bg Bh Bj Bk Bm Im Iq It Iv Iw Ix Iy Iz Jb Jc Jf Jg Jh Jj Jk Jm Jq Jt Jv Jw Jx Jy Jz Kb Kc Kf Kg Kh Kj Kk Km Kq Kt Kv Kw Kx Ky Kz Mb Mc Mf Mg Mh Mj Mk Mm Mq Mt Mv Mw Mx My Mz Nb Nc Nf Ng Nh Nj Nk Nm Nq Nt Nv Nw Nx Ny Nz Ob Oc Of Og Oh Oj Ok Om Oq Ot Ov Ow Ox Oy Oz Pb Pc Pf Pg Ph Pj Pk Pm Pq Pt Pv Pw Px Py Pz Rb Rc Rf Rg Rh Rj Rk Rm Rq Rt Rv Rw Rx Ry Rz Sb Sc Sf Sg Sh Sj Sk Sm Sq St Sv Sw Sx Sy Sz Tb Tc Tf Tg Th Tj Tk Tm Tq Tt Tv Tw Tx Ty Tz Ub Uc Uf Ug Uh Uj Uk Um Uq Ut Uv Uw Ux Uy : Value) (w' : World), SwO B P M R rm n w w' → Q0 .normal ⟨#[A0,.slice (some ⟨g, o, none⟩) ln cap,A2,A3,A4,kp P,A6,.pointer (some ⟨R, 0, none⟩),A8,A9,.int .i64 (jj : Int),.string d,.int .i64 av,Ay,Az,Bb,Bc,Bf,Bg,Bh,Bj,Bk,Bm,C3,C4,C5,C6,C7,C8,C9,D0,D1,D2,D3,D4,D5,D6,D7,D8,D9,E0,E1,E2,E3,E4,E5,E6,E7,E8,E9,G0,G1,G2,G3,G4,G5,G6,G7,G8,G9,H0,H1,H2,H3,H4,H5,H6,H7,H8,H9,I0,I1,I2,I3,I4,I5,I6,I7,I8,I9,J0,J1,J2,J3,J4,J5,J6,J7,J8,J9,K0,K1,K2,K3,K4,K5,K6,K7,K8,K9,M0,M1,M2,M3,M4,M5,M6,M7,M8,M9,N0,N1,Im,Iq,It,Iv,Iw,Ix,Iy,Iz,Jb,Jc,Jf,Jg,Jh,Jj,Jk,Jm,Jq,Jt,Jv,Jw,Jx,Jy,Jz,Kb,Kc,Kf,Kg,Kh,Kj,Kk,Km,Kq,Kt,Kv,Kw,Kx,Ky,Kz,Mb,Mc,Mf,Mg,Mh,Mj,Mk,Mm,Mq,Mt,Mv,Mw,Mx,My,Mz,Nb,Nc,Nf,Ng,Nh,Nj,Nk,Nm,Nq,Nt,Nv,Nw,Nx,Ny,Nz,Ob,Oc,Of,Og,Oh,Oj,Ok,Om,Oq,Ot,Ov,Ow,Ox,Oy,Oz,Pb,Pc,Pf,Pg,Ph,Pj,Pk,Pm,Pq,Pt,Pv,Pw,Px,Py,Pz,Rb,Rc,Rf,Rg,Rh,Rj,Rk,Rm,Rq,Rt,Rv,Rw,Rx,Ry,Rz,Sb,Sc,Sf,Sg,Sh,Sj,Sk,Sm,Sq,St,Sv,Sw,Sx,Sy,Sz,Tb,Tc,Tf,Tg,Th,Tj,Tk,Tm,Tq,Tt,Tv,Tw,Tx,Ty,Tz,Ub,Uc,Uf,Ug,Uh,Uj,Uk,Um,Uq,Ut,Uv,Uw,Ux,Uy,z9,x0,x1,x2,x3,x4,x5,x6,x7,x8,x9,i0,i1,i2,i3,i4,i5,i6], []⟩ w') := hexit
  have HC : Hid (∀ W, Calls Tryd.prog 9 #[.int .i64 t.kd, .int .i64 6] W fun e w' => e = .returned (.int .i64 2) ∧ w' = W) := fun W => h.choose 2 hc W
  have HI : Hid (SwI B P M R rm n g (o + jj * 4) E t d av wq w) := h
  obtain ⟨k0, k1, k2, k3⟩ := h.cl w (Below.refl _ _)
  have hji : (jj : Int) < (ln : Int) := by omega
  conv => arg 2; whnf
  clear hexit hc hj
  by_cases hw : wq = 0
  · subst hw
    obtain ⟨i, hav, hi, hd⟩ : ∃ i : Nat, av = (i : Int) ∧ ∃ hi : i < E.length, (E[i]).dg = d := by
      rcases h.wh with ⟨q, _⟩ | ⟨q, _⟩ | ⟨_, q⟩
      · cases q
      · cases q
      · exact q
    subst hav
    have hip : i < (prs E).length := by rw [prs_len]; exact hi
    have hpn : (E[i]).pins ≤ 100 := Nat.le_trans (h.kb.pi _ (List.getElem_mem hi)) h.nn
    have hin : (i : Int) < (E.length : Int) := by omega
    have hi0 : (0 : Int) ≤ (i : Int) := by omega
    have HP : Hid (Calls Tryd.prog 19 #[kp P, .string d] w fun r w' => r = .returned (.int .i64 0) ∧ ∃ gp cp, w'.cell? ⟨R, 2, none⟩ = some (.slice (some ⟨gp, 0, none⟩) E.length cp) ∧ w'.cell? ⟨gp, i, none⟩ = some (.int .i64 ((E[i]).pins : Int)) ∧ w'.frozen? ⟨gp, i, none⟩ = false ∧ Hid (SwO B P M R rm n w (w'.setCell ⟨gp, i, none⟩ (.int .i64 (((E[i]).pins + 1 : Nat) : Int))))) := by
      refine (PinA h.kb (by have := h.nn; omega) d i hi hd).mono fun r w' ⟨q1, E', q2, q3, q4⟩ => ⟨q1, ?_⟩
      obtain ⟨gp, cp, c1, c2, c3, c4, c5⟩ := q2.setP i ((E[i]).pins + 1) hip
      rw [prs_get E i hi] at c2 c4
      rw [← q4] at c4
      rw [prs_len] at c1
      exact ⟨gp, cp, c1, c2, c3, ⟨E', c4⟩, bl_tr2 q3 c5⟩
    obtain ⟨qp, hqp⟩ : ∃ qp, qp = (E[i]).pins + 1 := ⟨_, rfl⟩
    have e1 : ((E[i]).pins : Int) + 1 = (qp : Int) := by omega
    have e2 : IntKind.i64.wrap (qp : Int) = (qp : Int) := by rw [IntKind.wrap_i64]; omega
    rw [← hqp] at HP
    clear h hd HI hip k1 k2 k3 hqp hpn
    generalize (E[i]).pins = q at HP e1
    clear hi
    generalize E.length = en at HP hin
    generalize t.kd = kd at k0 HC
    go_wp2_with (first
      | (go_at_call 9; refine (HC.out _).mono ?_; rintro e w' ⟨rfl, hw⟩; subst w')
      | (go_at_call 19; refine HP.out.mono ?_; rintro e w1 ⟨rfl, gp, cp, c1, c2, c3, H1⟩; clear k0)
      | fail)
    exact HX.out _ _ _ _ _ _ _ _ _ _ _ _ _ _ _ _ _ _ _ _ _ _ _ _ _ _ _ _ _ _ _ _ _ _ _ _ _ _ _ _ _ _ _ _ _ _ _ _ _ _ _ _ _ _ _ _ _ _ _ _ _ _ _ _ _ _ _ _ _ _ _ _ _ _ _ _ _ _ _ _ _ _ _ _ _ _ _ _ _ _ _ _ _ _ _ _ _ _ _ _ _ _ _ _ _ _ _ _ _ _ _ _ _ _ _ _ _ _ _ _ _ _ _ _ _ _ _ _ _ _ _ _ _ _ _ _ _ _ _ _ _ _ _ _ _ _ _ _ _ _ _ _ _ _ _ _ _ _ _ _ _ _ _ _ _ _ _ _ H1.out
  · obtain ⟨rfl, hlk⟩ := h.look hw
    have HP : Hid (Calls Tryd.prog 19 #[kp P, .string d] w fun r w' => r = .returned (.int .i64 wq) ∧ w' = w) := Pin_no d wq hw hlk
    have HE : Hid (SwO B P M R rm n w w) := h.same
    clear h HI k1 k2 k3 hlk hw
    generalize t.kd = kd at k0 HC
    go_wp2_with (first
      | (go_at_call 9; refine (HC.out _).mono ?_; rintro e w' ⟨rfl, hw⟩; subst w')
      | (go_at_call 19; refine HP.out.mono ?_; rintro e w1 ⟨rfl, hw1⟩; subst w1)
      | fail)
    exact HX.out _ _ _ _ _ _ _ _ _ _ _ _ _ _ _ _ _ _ _ _ _ _ _ _ _ _ _ _ _ _ _ _ _ _ _ _ _ _ _ _ _ _ _ _ _ _ _ _ _ _ _ _ _ _ _ _ _ _ _ _ _ _ _ _ _ _ _ _ _ _ _ _ _ _ _ _ _ _ _ _ _ _ _ _ _ _ _ _ _ _ _ _ _ _ _ _ _ _ _ _ _ _ _ _ _ _ _ _ _ _ _ _ _ _ _ _ _ _ _ _ _ _ _ _ _ _ _ _ _ _ _ _ _ _ _ _ _ _ _ _ _ _ _ _ _ _ _ _ _ _ _ _ _ _ _ _ _ _ _ _ _ _ _ _ _ _ _ _ HE.out
end Go.Proofs.YtoceglbdnbnjpaaDoor
