/- CasPlays: one deed: a text is put. -/
import Derived.Test.YtoceglbdnbnjpaaDoorCpDM
namespace Go.Proofs.YtoceglbdnbnjpaaDoor
open Go.RowKit Go.Shelf
variable {A0 A1 A2 A3 A4 A5 A6 A7 A8 A9 B0 B1 B2 B3 B4 B5 B6 B7 B8 B9 C0 C1 C2 C3 C4 C5 C6 C7 C8 C9 D0 D1 D2 D3 D4 D5 D6 D7 D8 D9 E0 E1 E2 E3 E4 E5 E6 E7 E8 E9 G0 G1 G2 G3 G4 G5 G6 G7 G8 G9 H0 H1 H2 H3 H4 H5 H6 H7 H8 H9 I0 I1 I2 I3 I4 I5 I6 I7 I8 I9 J0 J1 J2 J3 J4 J5 J6 J7 J8 J9 K0 K1 K2 K3 K4 K5 K6 K7 K8 K9 M0 M1 M2 M3 M4 M5 M6 M7 M8 M9 N0 N1 N2 N3 N4 N5 N6 N7 N8 N9 O0 O1 O2 O3 O4 O5 O6 O7 O8 O9 P0 P1 P2 P3 P4 P5 P6 P7 P8 P9 R0 R1 R2 R3 R4 R5 R6 R7 R8 R9 S0 S1 S2 S3 S4 S5 S6 S7 S8 S9 T0 T1 T2 T3 T4 T5 T6 T7 T8 T9 U0 U1 U2 U3 U4 U5 U6 U7 U8 U9 V0 V1 V2 V3 V4 V5 V6 V7 V8 V9 W0 W1 W2 W3 W4 W5 W6 W7 W8 W9 X0 X1 X2 X3 X4 X5 X6 X7 X8 X9 Y0 Y1 Y2 Y3 Y4 Y5 Y6 Y7 Y8 Y9 Z0 Z1 Z2 Z3 Z4 Z5 Z6 Z7 Z8 Z9 j0 j1 j2 j3 j4 j5 j6 j7 j8 j9 o0 o1 o2 o3 o4 o5 o6 o7 o8 o9 y0 y1 y2 y3 y4 y5 y6 y7 y8 y9 z0 z1 z2 z3 z4 z5 z6 z7 z8 z9 x0 x1 x2 x3 x4 x5 x6 x7 x8 x9 i0 i1 i2 i3 i4 i5 i6 : Value}

set_option maxHeartbeats 8000000 in
set_option maxRecDepth 100000 in
theorem sw0 {B P M R rm n g o jj ln cap : Nat} {E : List Ent} {t : Dd} {d : ByteArray} {av wq : Int} {w : World} (h : SwI B P M R rm n g (o + jj * 4) E t d av wq w) (hc : chs t.kd 6 = 0) (hj : jj < ln) (Q0 : Exit → Act → World → Prop)
    (hexit : ∀ (Ay Az Bb Bc Bf Bg Bh Bj Bk Bm Im Iq It Iv Iw Ix Iy Iz Jb Jc Jf Jg Jh Jj Jk Jm Jq Jt Jv Jw Jx Jy Jz Kb Kc Kf Kg Kh Kj Kk Km Kq Kt Kv Kw Kx Ky Kz Mb Mc Mf Mg Mh Mj Mk Mm Mq Mt Mv Mw Mx My Mz Nb Nc Nf Ng Nh Nj Nk Nm Nq Nt Nv Nw Nx Ny Nz Ob Oc Of Og Oh Oj Ok Om Oq Ot Ov Ow Ox Oy Oz Pb Pc Pf Pg Ph Pj Pk Pm Pq Pt Pv Pw Px Py Pz Rb Rc Rf Rg Rh Rj Rk Rm Rq Rt Rv Rw Rx Ry Rz Sb Sc Sf Sg Sh Sj Sk Sm Sq St Sv Sw Sx Sy Sz Tb Tc Tf Tg Th Tj Tk Tm Tq Tt Tv Tw Tx Ty Tz Ub Uc Uf Ug Uh Uj Uk Um Uq Ut Uv Uw Ux Uy : Value) (w' : World), SwO B P M R rm n w w' → Q0 .normal ⟨#[A0,.slice (some ⟨g, o, none⟩) ln cap,A2,A3,A4,kp P,A6,.pointer (some ⟨R, 0, none⟩),A8,A9,.int .i64 (jj : Int),.string d,.int .i64 av,Ay,Az,Bb,Bc,Bf,Bg,Bh,Bj,Bk,Bm,C3,C4,C5,C6,C7,C8,C9,D0,D1,D2,D3,D4,D5,D6,D7,D8,D9,E0,E1,E2,E3,E4,E5,E6,E7,E8,E9,G0,G1,G2,G3,G4,G5,G6,G7,G8,G9,H0,H1,H2,H3,H4,H5,H6,H7,H8,H9,I0,I1,I2,I3,I4,I5,I6,I7,I8,I9,J0,J1,J2,J3,J4,J5,J6,J7,J8,J9,K0,K1,K2,K3,K4,K5,K6,K7,K8,K9,M0,M1,M2,M3,M4,M5,M6,M7,M8,M9,N0,N1,Im,Iq,It,Iv,Iw,Ix,Iy,Iz,Jb,Jc,Jf,Jg,Jh,Jj,Jk,Jm,Jq,Jt,Jv,Jw,Jx,Jy,Jz,Kb,Kc,Kf,Kg,Kh,Kj,Kk,Km,Kq,Kt,Kv,Kw,Kx,Ky,Kz,Mb,Mc,Mf,Mg,Mh,Mj,Mk,Mm,Mq,Mt,Mv,Mw,Mx,My,Mz,Nb,Nc,Nf,Ng,Nh,Nj,Nk,Nm,Nq,Nt,Nv,Nw,Nx,Ny,Nz,Ob,Oc,Of,Og,Oh,Oj,Ok,Om,Oq,Ot,Ov,Ow,Ox,Oy,Oz,Pb,Pc,Pf,Pg,Ph,Pj,Pk,Pm,Pq,Pt,Pv,Pw,Px,Py,Pz,Rb,Rc,Rf,Rg,Rh,Rj,Rk,Rm,Rq,Rt,Rv,Rw,Rx,Ry,Rz,Sb,Sc,Sf,Sg,Sh,Sj,Sk,Sm,Sq,St,Sv,Sw,Sx,Sy,Sz,Tb,Tc,Tf,Tg,Th,Tj,Tk,Tm,Tq,Tt,Tv,Tw,Tx,Ty,Tz,Ub,Uc,Uf,Ug,Uh,Uj,Uk,Um,Uq,Ut,Uv,Uw,Ux,Uy,z9,x0,x1,x2,x3,x4,x5,x6,x7,x8,x9,i0,i1,i2,i3,i4,i5,i6], []⟩ w') :
    Code.wp Tryd.prog (subC [true, true, true, true, true, true, true, true, true, false, true, false, false, true, false, false, true, true, true, true, false] (Tryd.f3.body.getD .skip)) Q0 ⟨#[A0,.slice (some ⟨g, o, none⟩) ln cap,A2,A3,A4,kp P,A6,.pointer (some ⟨R, 0, none⟩),A8,A9,.int .i64 (jj : Int),.string d,.int .i64 av,.int .i64 wq,B4,B5,B6,B7,B8,B9,C0,C1,C2,C3,C4,C5,C6,C7,C8,C9,D0,D1,D2,D3,D4,D5,D6,D7,D8,D9,E0,E1,E2,E3,E4,E5,E6,E7,E8,E9,G0,G1,G2,G3,G4,G5,G6,G7,G8,G9,H0,H1,H2,H3,H4,H5,H6,H7,H8,H9,I0,I1,I2,I3,I4,I5,I6,I7,I8,I9,J0,J1,J2,J3,J4,J5,J6,J7,J8,J9,K0,K1,K2,K3,K4,K5,K6,K7,K8,K9,M0,M1,M2,M3,M4,M5,M6,M7,M8,M9,N0,N1,N2,N3,N4,N5,N6,N7,N8,N9,O0,O1,O2,O3,O4,O5,O6,O7,O8,O9,P0,P1,P2,P3,P4,P5,P6,P7,P8,P9,R0,R1,R2,R3,R4,R5,R6,R7,R8,R9,S0,S1,S2,S3,S4,S5,S6,S7,S8,S9,T0,T1,T2,T3,T4,T5,T6,T7,T8,T9,U0,U1,U2,U3,U4,U5,U6,U7,U8,U9,V0,V1,V2,V3,V4,V5,V6,V7,V8,V9,W0,W1,W2,W3,W4,W5,W6,W7,W8,W9,X0,X1,X2,X3,X4,X5,X6,X7,X8,X9,Y0,Y1,Y2,Y3,Y4,Y5,Y6,Y7,Y8,Y9,Z0,Z1,Z2,Z3,Z4,Z5,Z6,Z7,Z8,Z9,j0,j1,j2,j3,j4,j5,j6,j7,j8,j9,o0,o1,o2,o3,o4,o5,o6,o7,o8,o9,y0,y1,y2,y3,y4,y5,y6,y7,y8,y9,z0,z1,z2,z3,z4,z5,z6,z7,z8,z9,x0,x1,x2,x3,x4,x5,x6,x7,x8,x9,i0,i1,i2,i3,i4,i5,i6], []⟩ w := by
  have HX : Hid (∀ (Ay Az Bb Bc Bf Bg Bh Bj Bk Bm Im Iq It Iv Iw Ix Iy Iz Jb Jc Jf Jg Jh Jj Jk Jm Jq Jt Jv Jw Jx Jy Jz Kb Kc Kf Kg Kh Kj Kk Km Kq Kt Kv Kw Kx Ky Kz Mb Mc Mf Mg Mh Mj Mk Mm Mq Mt Mv Mw Mx My Mz Nb Nc Nf Ng Nh Nj Nk Nm Nq Nt Nv Nw Nx Ny Nz Ob Oc Of Og Oh Oj Ok Om Oq Ot Ov Ow Ox Oy Oz Pb Pc Pf Pg Ph Pj Pk Pm Pq Pt Pv Pw Px Py Pz Rb Rc Rf Rg Rh Rj Rk Rm Rq Rt Rv Rw Rx Ry Rz Sb Sc Sf Sg Sh Sj Sk Sm Sq St Sv Sw Sx Sy Sz Tb Tc Tf Tg Th Tj Tk Tm Tq Tt Tv Tw Tx Ty Tz Ub Uc Uf Ug Uh Uj Uk Um Uq Ut Uv Uw Ux Uy : Value) (w' : World), SwO B P M R rm n w w' → Q0 .normal ⟨#[A0,.slice (some ⟨g, o, none⟩) ln cap,A2,A3,A4,kp P,A6,.pointer (some ⟨R, 0, none⟩),A8,A9,.int .i64 (jj : Int),.string d,.int .i64 av,Ay,Az,Bb,Bc,Bf,Bg,Bh,Bj,Bk,Bm,C3,C4,C5,C6,C7,C8,C9,D0,D1,D2,D3,D4,D5,D6,D7,D8,D9,E0,E1,E2,E3,E4,E5,E6,E7,E8,E9,G0,G1,G2,G3,G4,G5,G6,G7,G8,G9,H0,H1,H2,H3,H4,H5,H6,H7,H8,H9,I0,I1,I2,I3,I4,I5,I6,I7,I8,I9,J0,J1,J2,J3,J4,J5,J6,J7,J8,J9,K0,K1,K2,K3,K4,K5,K6,K7,K8,K9,M0,M1,M2,M3,M4,M5,M6,M7,M8,M9,N0,N1,Im,Iq,It,Iv,Iw,Ix,Iy,Iz,Jb,Jc,Jf,Jg,Jh,Jj,Jk,Jm,Jq,Jt,Jv,Jw,Jx,Jy,Jz,Kb,Kc,Kf,Kg,Kh,Kj,Kk,Km,Kq,Kt,Kv,Kw,Kx,Ky,Kz,Mb,Mc,Mf,Mg,Mh,Mj,Mk,Mm,Mq,Mt,Mv,Mw,Mx,My,Mz,Nb,Nc,Nf,Ng,Nh,Nj,Nk,Nm,Nq,Nt,Nv,Nw,Nx,Ny,Nz,Ob,Oc,Of,Og,Oh,Oj,Ok,Om,Oq,Ot,Ov,Ow,Ox,Oy,Oz,Pb,Pc,Pf,Pg,Ph,Pj,Pk,Pm,Pq,Pt,Pv,Pw,Px,Py,Pz,Rb,Rc,Rf,Rg,Rh,Rj,Rk,Rm,Rq,Rt,Rv,Rw,Rx,Ry,Rz,Sb,Sc,Sf,Sg,Sh,Sj,Sk,Sm,Sq,St,Sv,Sw,Sx,Sy,Sz,Tb,Tc,Tf,Tg,Th,Tj,Tk,Tm,Tq,Tt,Tv,Tw,Tx,Ty,Tz,Ub,Uc,Uf,Ug,Uh,Uj,Uk,Um,Uq,Ut,Uv,Uw,Ux,Uy,z9,x0,x1,x2,x3,x4,x5,x6,x7,x8,x9,i0,i1,i2,i3,i4,i5,i6], []⟩ w') := hexit
  have HC : Hid (∀ W, Calls Tryd.prog 9 #[.int .i64 t.kd, .int .i64 6] W fun e w' => e = .returned (.int .i64 0) ∧ w' = W) := fun W => h.choose 0 hc W
  have HI : Hid (SwI B P M R rm n g (o + jj * 4) E t d av wq w) := h
  obtain ⟨k0, k1, k2, k3⟩ := h.cl w (Below.refl _ _)
  have hji : (jj : Int) < (ln : Int) := by omega
  conv => arg 2; whnf
  clear hexit hc hj
  have HP : Hid (Calls Tryd.prog 14 #[kp P, .string t.tx] w fun r w' => ∃ k : Int, r = .returned (.tuple #[.string (putS t.tx k), .int .i64 k]) ∧ w'.cell? ⟨g, o + jj * 4 + 1, none⟩ = some (.string t.tx) ∧ (k = 0 ∨ k = 2) ∧ Hid (∃ E', KB B P M R rm (n + 1) E' (prs E) w' ∧ Below B w w' ∧ PutK rm t.tx (prs E) k (prs E'))) := by
    refine (PutA h.kb (h.ro w (Below.refl _ _)) (by have := h.nn; omega) t.tx h.sz.1).mono fun r w' ⟨k, E', q1, q2, q3, q4⟩ => ⟨k, q1, (h.cl w' q3).2.1, ?_, E', q2, q3, q4⟩
    rcases q4 with ⟨q, _⟩ | ⟨q, _⟩
    · exact .inr q
    · exact .inl q
  have HQ : Hid (∀ (W : World) (k : Int), Hid (∃ E', KB B P M R rm (n + 1) E' (prs E) W ∧ Below B w W ∧ PutK rm t.tx (prs E) k (prs E')) → Calls Tryd.prog 15 #[.pointer (some ⟨R, 0, none⟩), .string t.tx] W fun r w' => r = .returned (.int .i64 k) ∧ w'.cell? ⟨g, o + jj * 4 + 1, none⟩ = some (.string t.tx) ∧ Hid (SwO B P M R rm n w w')) := fun W k hW => by
    obtain ⟨E', q2, q3, q4⟩ := hW.out
    refine (PutB q2 h.len (prs_sz h.kb.sz) t.tx h.sz.1 k q4).mono fun r w' ⟨p1, p2, p3⟩ => ⟨p1, (h.cl w' (bl_tr2 q3 p3)).2.1, ⟨E', p2⟩, bl_tr2 q3 p3⟩
  have HS : Hid (∀ W, Hid (SwO B P M R rm n w W) → Calls Tryd.prog 11 #[.string t.tx] W fun e w' => e = .returned (.string (smB t.tx)) ∧ Hid (SwO B P M R rm n w w')) := fun W hW => by
    refine (RSm_any t.tx W (by have := h.sz.1; omega)).mono fun e w' ⟨q1, q2⟩ => ⟨q1, ?_⟩
    obtain ⟨⟨E', r1⟩, r2⟩ := hW.out
    exact ⟨⟨E', r1.up q2⟩, bl_tr2 r2 (q2.mono r1.size)⟩
  have HT : Hid (∀ (W : World) (k : Int), k = 0 ∨ k = 2 → Calls Tryd.prog 16 #[.string (putS t.tx k), .int .i64 k, .int .i64 k, .string (smB t.tx)] W fun e w' => e = .returned (.bool true) ∧ w' = W) := fun W k hk => by
    rcases hk with rfl | rfl
    · exact textIs_ok (smB t.tx) W
    · exact textIs_no 2 (by decide) (smB t.tx) W
  clear h
  generalize smB t.tx = y at HS HT
  generalize t.tx = x at k1 HP HQ HS HT
  generalize t.kd = kd at k0 HC
  clear HI k2 k3
  go_wp2_with (first
    | (go_at_call 9; refine (HC.out _).mono ?_; rintro e w' ⟨rfl, hw⟩; subst w')
    | (go_at_call 14; refine HP.out.mono ?_; rintro e w1 ⟨k, rfl, c1, hk, H1⟩; have hq := HQ.out w1 k H1; have ht := fun W => HT.out W k hk; generalize putS x k = pt at ht ⊢; clear k0 k1 hk H1)
    | (go_at_call 15; refine hq.mono ?_; rintro e w2 ⟨rfl, c2, H2⟩; have hs := HS.out w2 H2; clear c1)
    | (go_at_call 11; refine hs.mono ?_; rintro e w3 ⟨rfl, H3⟩)
    | (go_at_call 16; refine (ht _).mono ?_; rintro e w4 ⟨rfl, rfl⟩)
    | fail)
  exact HX.out _ _ _ _ _ _ _ _ _ _ _ _ _ _ _ _ _ _ _ _ _ _ _ _ _ _ _ _ _ _ _ _ _ _ _ _ _ _ _ _ _ _ _ _ _ _ _ _ _ _ _ _ _ _ _ _ _ _ _ _ _ _ _ _ _ _ _ _ _ _ _ _ _ _ _ _ _ _ _ _ _ _ _ _ _ _ _ _ _ _ _ _ _ _ _ _ _ _ _ _ _ _ _ _ _ _ _ _ _ _ _ _ _ _ _ _ _ _ _ _ _ _ _ _ _ _ _ _ _ _ _ _ _ _ _ _ _ _ _ _ _ _ _ _ _ _ _ _ _ _ _ _ _ _ _ _ _ _ _ _ _ _ _ _ _ _ _ _ H3.out
end Go.Proofs.YtoceglbdnbnjpaaDoor
