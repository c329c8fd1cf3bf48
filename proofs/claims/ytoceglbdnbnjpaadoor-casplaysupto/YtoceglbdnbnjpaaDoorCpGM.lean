/- CasPlays: one deed, whatever it is; one round. -/
import Derived.Test.YtoceglbdnbnjpaaDoorCpB0M
import Derived.Test.YtoceglbdnbnjpaaDoorCpB1M
import Derived.Test.YtoceglbdnbnjpaaDoorCpB2M
import Derived.Test.YtoceglbdnbnjpaaDoorCpB3M
import Derived.Test.YtoceglbdnbnjpaaDoorCpB4M
import Derived.Test.YtoceglbdnbnjpaaDoorCpB5M
namespace Go.Proofs.YtoceglbdnbnjpaaDoor
open Go.RowKit Go.Shelf
variable {A0 A1 A2 A3 A4 A5 A6 A7 A8 A9 B0 B1 B2 B3 B4 B5 B6 B7 B8 B9 C0 C1 C2 C3 C4 C5 C6 C7 C8 C9 D0 D1 D2 D3 D4 D5 D6 D7 D8 D9 E0 E1 E2 E3 E4 E5 E6 E7 E8 E9 G0 G1 G2 G3 G4 G5 G6 G7 G8 G9 H0 H1 H2 H3 H4 H5 H6 H7 H8 H9 I0 I1 I2 I3 I4 I5 I6 I7 I8 I9 J0 J1 J2 J3 J4 J5 J6 J7 J8 J9 K0 K1 K2 K3 K4 K5 K6 K7 K8 K9 M0 M1 M2 M3 M4 M5 M6 M7 M8 M9 N0 N1 N2 N3 N4 N5 N6 N7 N8 N9 O0 O1 O2 O3 O4 O5 O6 O7 O8 O9 P0 P1 P2 P3 P4 P5 P6 P7 P8 P9 R0 R1 R2 R3 R4 R5 R6 R7 R8 R9 S0 S1 S2 S3 S4 S5 S6 S7 S8 S9 T0 T1 T2 T3 T4 T5 T6 T7 T8 T9 U0 U1 U2 U3 U4 U5 U6 U7 U8 U9 V0 V1 V2 V3 V4 V5 V6 V7 V8 V9 W0 W1 W2 W3 W4 W5 W6 W7 W8 W9 X0 X1 X2 X3 X4 X5 X6 X7 X8 X9 Y0 Y1 Y2 Y3 Y4 Y5 Y6 Y7 Y8 Y9 Z0 Z1 Z2 Z3 Z4 Z5 Z6 Z7 Z8 Z9 j0 j1 j2 j3 j4 j5 j6 j7 j8 j9 o0 o1 o2 o3 o4 o5 o6 o7 o8 o9 y0 y1 y2 y3 y4 y5 y6 y7 y8 y9 z0 z1 z2 z3 z4 z5 z6 z7 z8 z9 x0 x1 x2 x3 x4 x5 x6 x7 x8 x9 i0 i1 i2 i3 i4 i5 i6 : Value}

theorem sw_all {B P M R rm n g o jj ln cap : Nat} {E : List Ent} {t : Dd} {d : ByteArray} {av wq : Int} {w : World} (h : SwI B P M R rm n g (o + jj * 4) E t d av wq w) (hj : jj < ln) (Q0 : Exit → Act → World → Prop)
    (hexit : ∀ (Ay Az Bb Bc Bf Bg Bh Bj Bk Bm Im Iq It Iv Iw Ix Iy Iz Jb Jc Jf Jg Jh Jj Jk Jm Jq Jt Jv Jw Jx Jy Jz Kb Kc Kf Kg Kh Kj Kk Km Kq Kt Kv Kw Kx Ky Kz Mb Mc Mf Mg Mh Mj Mk Mm Mq Mt Mv Mw Mx My Mz Nb Nc Nf Ng Nh Nj Nk Nm Nq Nt Nv Nw Nx Ny Nz Ob Oc Of Og Oh Oj Ok Om Oq Ot Ov Ow Ox Oy Oz Pb Pc Pf Pg Ph Pj Pk Pm Pq Pt Pv Pw Px Py Pz Rb Rc Rf Rg Rh Rj Rk Rm Rq Rt Rv Rw Rx Ry Rz Sb Sc Sf Sg Sh Sj Sk Sm Sq St Sv Sw Sx Sy Sz Tb Tc Tf Tg Th Tj Tk Tm Tq Tt Tv Tw Tx Ty Tz Ub Uc Uf Ug Uh Uj Uk Um Uq Ut Uv Uw Ux Uy : Value) (w' : World), SwO B P M R rm n w w' → Q0 .normal ⟨#[A0,.slice (some ⟨g, o, none⟩) ln cap,A2,A3,A4,kp P,A6,.pointer (some ⟨R, 0, none⟩),A8,A9,.int .i64 (jj : Int),.string d,.int .i64 av,Ay,Az,Bb,Bc,Bf,Bg,Bh,Bj,Bk,Bm,C3,C4,C5,C6,C7,C8,C9,D0,D1,D2,D3,D4,D5,D6,D7,D8,D9,E0,E1,E2,E3,E4,E5,E6,E7,E8,E9,G0,G1,G2,G3,G4,G5,G6,G7,G8,G9,H0,H1,H2,H3,H4,H5,H6,H7,H8,H9,I0,I1,I2,I3,I4,I5,I6,I7,I8,I9,J0,J1,J2,J3,J4,J5,J6,J7,J8,J9,K0,K1,K2,K3,K4,K5,K6,K7,K8,K9,M0,M1,M2,M3,M4,M5,M6,M7,M8,M9,N0,N1,Im,Iq,It,Iv,Iw,Ix,Iy,Iz,Jb,Jc,Jf,Jg,Jh,Jj,Jk,Jm,Jq,Jt,Jv,Jw,Jx,Jy,Jz,Kb,Kc,Kf,Kg,Kh,Kj,Kk,Km,Kq,Kt,Kv,Kw,Kx,Ky,Kz,Mb,Mc,Mf,Mg,Mh,Mj,Mk,Mm,Mq,Mt,Mv,Mw,Mx,My,Mz,Nb,Nc,Nf,Ng,Nh,Nj,Nk,Nm,Nq,Nt,Nv,Nw,Nx,Ny,Nz,Ob,Oc,Of,Og,Oh,Oj,Ok,Om,Oq,Ot,Ov,Ow,Ox,Oy,Oz,Pb,Pc,Pf,Pg,Ph,Pj,Pk,Pm,Pq,Pt,Pv,Pw,Px,Py,Pz,Rb,Rc,Rf,Rg,Rh,Rj,Rk,Rm,Rq,Rt,Rv,Rw,Rx,Ry,Rz,Sb,Sc,Sf,Sg,Sh,Sj,Sk,Sm,Sq,St,Sv,Sw,Sx,Sy,Sz,Tb,Tc,Tf,Tg,Th,Tj,Tk,Tm,Tq,Tt,Tv,Tw,Tx,Ty,Tz,Ub,Uc,Uf,Ug,Uh,Uj,Uk,Um,Uq,Ut,Uv,Uw,Ux,Uy,z9,x0,x1,x2,x3,x4,x5,x6,x7,x8,x9,i0,i1,i2,i3,i4,i5,i6], []⟩ w') :
    Code.wp Tryd.prog (subC [true, true, true, true, true, true, true, true, true, false, true, false, false, true, false, false, true, true, true, true, false] (Tryd.f3.body.getD .skip)) Q0 ⟨#[A0,.slice (some ⟨g, o, none⟩) ln cap,A2,A3,A4,kp P,A6,.pointer (some ⟨R, 0, none⟩),A8,A9,.int .i64 (jj : Int),.string d,.int .i64 av,.int .i64 wq,B4,B5,B6,B7,B8,B9,C0,C1,C2,C3,C4,C5,C6,C7,C8,C9,D0,D1,D2,D3,D4,D5,D6,D7,D8,D9,E0,E1,E2,E3,E4,E5,E6,E7,E8,E9,G0,G1,G2,G3,G4,G5,G6,G7,G8,G9,H0,H1,H2,H3,H4,H5,H6,H7,H8,H9,I0,I1,I2,I3,I4,I5,I6,I7,I8,I9,J0,J1,J2,J3,J4,J5,J6,J7,J8,J9,K0,K1,K2,K3,K4,K5,K6,K7,K8,K9,M0,M1,M2,M3,M4,M5,M6,M7,M8,M9,N0,N1,N2,N3,N4,N5,N6,N7,N8,N9,O0,O1,O2,O3,O4,O5,O6,O7,O8,O9,P0,P1,P2,P3,P4,P5,P6,P7,P8,P9,R0,R1,R2,R3,R4,R5,R6,R7,R8,R9,S0,S1,S2,S3,S4,S5,S6,S7,S8,S9,T0,T1,T2,T3,T4,T5,T6,T7,T8,T9,U0,U1,U2,U3,U4,U5,U6,U7,U8,U9,V0,V1,V2,V3,V4,V5,V6,V7,V8,V9,W0,W1,W2,W3,W4,W5,W6,W7,W8,W9,X0,X1,X2,X3,X4,X5,X6,X7,X8,X9,Y0,Y1,Y2,Y3,Y4,Y5,Y6,Y7,Y8,Y9,Z0,Z1,Z2,Z3,Z4,Z5,Z6,Z7,Z8,Z9,j0,j1,j2,j3,j4,j5,j6,j7,j8,j9,o0,o1,o2,o3,o4,o5,o6,o7,o8,o9,y0,y1,y2,y3,y4,y5,y6,y7,y8,y9,z0,z1,z2,z3,z4,z5,z6,z7,z8,z9,x0,x1,x2,x3,x4,x5,x6,x7,x8,x9,i0,i1,i2,i3,i4,i5,i6], []⟩ w := by
  have hc := chs_lt t.kd (show 0 < 6 by decide)
  have hc6 : chs t.kd 6 = 0 ∨ chs t.kd 6 = 1 ∨ chs t.kd 6 = 2 ∨ chs t.kd 6 = 3 ∨ chs t.kd 6 = 4 ∨ chs t.kd 6 = 5 := by omega
  rcases hc6 with hc | hc | hc | hc | hc | hc
  · exact sw0 h hc hj Q0 hexit
  · exact sw1 h hc hj Q0 hexit
  · exact sw2 h hc hj Q0 hexit
  · exact sw3 h hc hj Q0 hexit
  · exact sw4 h hc hj Q0 hexit
  · exact sw5 h hc hj Q0 hexit
theorem KB.rooms {B P M R rm n : Nat} {E : List Ent} {w : World} (h : KB B P M R rm n E (prs E) w) : Calls Tryd.prog 23 #[kp P] w fun r w' => r = .returned (.tuple #[.int .i64 (byE E : Int), .int .i64 (E.length : Int)]) ∧ ∃ m, w' = w.drewN m := by
  obtain ⟨tn, I, tv, pv, q1, q2, q3, q4, q5, q6, q7⟩ := h
  exact Room_any q1
theorem KB.used {B P M R rm n : Nat} {E : List Ent} {w : World} (h : KB B P M R rm n E (prs E) w) (hn : n ≤ 800) : (∃ ao cap, w.cell? ⟨R, 1, none⟩ = some (.slice ao E.length cap)) ∧ Calls Tryd.prog 24 #[.pointer (some ⟨R, 0, none⟩), .bool false] w fun e w' => e = .returned (.int .i64 (byE E : Int)) ∧ w' = w := by
  have hln := h.len
  have hz := h.sz
  obtain ⟨tn, I, tv, pv, q1, q2, q3, q4, q5, q6, q7⟩ := h
  rw [← kus_prsF]
  refine ⟨?_, KUsed_any q2 (by rw [prs_len]; omega) (fun x hx => by have := prs_sz hz x hx; omega) false⟩
  obtain ⟨ao, cap, hv⟩ := q2.tr.shape
  subst hv
  rw [← prs_len]
  exact ⟨ao, cap, q2.c1⟩

set_option maxHeartbeats 8000000 in
set_option maxRecDepth 100000 in
theorem sw_tail {B P M R rm n g o jj ln cap : Nat} {E : List Ent} {t : Dd} {d : ByteArray} {av wq : Int} {w : World} (h : SwI B P M R rm n g (o + jj * 4) E t d av wq w) (hj : jj < ln) (Q0 : Exit → Act → World → Prop)
    (hexit : ∀ (Ay Az Bb Bc Bf Bg Bh Bj Bk Bm Bq Bt Im Iq It Iv Iw Ix Iy Iz Jb Jc Jf Jg Jh Jj Jk Jm Jq Jt Jv Jw Jx Jy Jz Kb Kc Kf Kg Kh Kj Kk Km Kq Kt Kv Kw Kx Ky Kz Mb Mc Mf Mg Mh Mj Mk Mm Mq Mt Mv Mw Mx My Mz Nb Nc Nf Ng Nh Nj Nk Nm Nq Nt Nv Nw Nx Ny Nz Ob Oc Of Og Oh Oj Ok Om Oq Ot Ov Ow Ox Oy Oz Pb Pc Pf Pg Ph Pj Pk Pm Pq Pt Pv Pw Px Py Pz Rb Rc Rf Rg Rh Rj Rk Rm Rq Rt Rv Rw Rx Ry Rz Sb Sc Sf Sg Sh Sj Sk Sm Sq St Sv Sw Sx Sy Sz Tb Tc Tf Tg Th Tj Tk Tm Tq Tt Tv Tw Tx Ty Tz Ub Uc Uf Ug Uh Uj Uk Um Uq Ut Uv Uw Ux Uy Uz Vb Vc Vf Vg Vh Vj Vk Vm Vq Vt Vv Vw Vx Vy Vz Wb Wc : Value) (w' : World), SwO B P M R rm n w w' → Q0 .normal ⟨#[A0,.slice (some ⟨g, o, none⟩) ln cap,A2,A3,A4,kp P,A6,.pointer (some ⟨R, 0, none⟩),A8,A9,.int .i64 (jj : Int),.string d,.int .i64 av,Ay,Az,Bb,Bc,Bf,Bg,Bh,Bj,Bk,Bm,Bq,Bt,C5,C6,C7,C8,C9,D0,D1,D2,D3,D4,D5,D6,D7,D8,D9,E0,E1,E2,E3,E4,E5,E6,E7,E8,E9,G0,G1,G2,G3,G4,G5,G6,G7,G8,G9,H0,H1,H2,H3,H4,H5,H6,H7,H8,H9,I0,I1,I2,I3,I4,I5,I6,I7,I8,I9,J0,J1,J2,J3,J4,J5,J6,J7,J8,J9,K0,K1,K2,K3,K4,K5,K6,K7,K8,K9,M0,M1,M2,M3,M4,M5,M6,M7,M8,M9,N0,N1,Im,Iq,It,Iv,Iw,Ix,Iy,Iz,Jb,Jc,Jf,Jg,Jh,Jj,Jk,Jm,Jq,Jt,Jv,Jw,Jx,Jy,Jz,Kb,Kc,Kf,Kg,Kh,Kj,Kk,Km,Kq,Kt,Kv,Kw,Kx,Ky,Kz,Mb,Mc,Mf,Mg,Mh,Mj,Mk,Mm,Mq,Mt,Mv,Mw,Mx,My,Mz,Nb,Nc,Nf,Ng,Nh,Nj,Nk,Nm,Nq,Nt,Nv,Nw,Nx,Ny,Nz,Ob,Oc,Of,Og,Oh,Oj,Ok,Om,Oq,Ot,Ov,Ow,Ox,Oy,Oz,Pb,Pc,Pf,Pg,Ph,Pj,Pk,Pm,Pq,Pt,Pv,Pw,Px,Py,Pz,Rb,Rc,Rf,Rg,Rh,Rj,Rk,Rm,Rq,Rt,Rv,Rw,Rx,Ry,Rz,Sb,Sc,Sf,Sg,Sh,Sj,Sk,Sm,Sq,St,Sv,Sw,Sx,Sy,Sz,Tb,Tc,Tf,Tg,Th,Tj,Tk,Tm,Tq,Tt,Tv,Tw,Tx,Ty,Tz,Ub,Uc,Uf,Ug,Uh,Uj,Uk,Um,Uq,Ut,Uv,Uw,Ux,Uy,Uz,Vb,Vc,Vf,Vg,Vh,Vj,Vk,Vm,Vq,Vt,Vv,Vw,Vx,Vy,Vz,Wb,Wc], []⟩ w') :
    Code.wp Tryd.prog (subC [true, true, true, true, true, true, true, true, true, false, true, false, false, true, false, false, true, true, true, true] (Tryd.f3.body.getD .skip)) Q0 ⟨#[A0,.slice (some ⟨g, o, none⟩) ln cap,A2,A3,A4,kp P,A6,.pointer (some ⟨R, 0, none⟩),A8,A9,.int .i64 (jj : Int),.string d,.int .i64 av,.int .i64 wq,B4,B5,B6,B7,B8,B9,C0,C1,C2,C3,C4,C5,C6,C7,C8,C9,D0,D1,D2,D3,D4,D5,D6,D7,D8,D9,E0,E1,E2,E3,E4,E5,E6,E7,E8,E9,G0,G1,G2,G3,G4,G5,G6,G7,G8,G9,H0,H1,H2,H3,H4,H5,H6,H7,H8,H9,I0,I1,I2,I3,I4,I5,I6,I7,I8,I9,J0,J1,J2,J3,J4,J5,J6,J7,J8,J9,K0,K1,K2,K3,K4,K5,K6,K7,K8,K9,M0,M1,M2,M3,M4,M5,M6,M7,M8,M9,N0,N1,N2,N3,N4,N5,N6,N7,N8,N9,O0,O1,O2,O3,O4,O5,O6,O7,O8,O9,P0,P1,P2,P3,P4,P5,P6,P7,P8,P9,R0,R1,R2,R3,R4,R5,R6,R7,R8,R9,S0,S1,S2,S3,S4,S5,S6,S7,S8,S9,T0,T1,T2,T3,T4,T5,T6,T7,T8,T9,U0,U1,U2,U3,U4,U5,U6,U7,U8,U9,V0,V1,V2,V3,V4,V5,V6,V7,V8,V9,W0,W1,W2,W3,W4,W5,W6,W7,W8,W9,X0,X1,X2,X3,X4,X5,X6,X7,X8,X9,Y0,Y1,Y2,Y3,Y4,Y5,Y6,Y7,Y8,Y9,Z0,Z1,Z2,Z3,Z4,Z5,Z6,Z7,Z8,Z9,j0,j1,j2,j3,j4,j5,j6,j7,j8,j9,o0,o1,o2,o3,o4,o5,o6,o7,o8,o9,y0,y1,y2,y3,y4,y5,y6,y7,y8,y9,z0,z1,z2,z3,z4,z5,z6,z7,z8,z9,x0,x1,x2,x3,x4,x5,x6,x7,x8,x9,i0,i1,i2,i3,i4,i5,i6], []⟩ w := by
  have HX : Hid (∀ (Ay Az Bb Bc Bf Bg Bh Bj Bk Bm Bq Bt Im Iq It Iv Iw Ix Iy Iz Jb Jc Jf Jg Jh Jj Jk Jm Jq Jt Jv Jw Jx Jy Jz Kb Kc Kf Kg Kh Kj Kk Km Kq Kt Kv Kw Kx Ky Kz Mb Mc Mf Mg Mh Mj Mk Mm Mq Mt Mv Mw Mx My Mz Nb Nc Nf Ng Nh Nj Nk Nm Nq Nt Nv Nw Nx Ny Nz Ob Oc Of Og Oh Oj Ok Om Oq Ot Ov Ow Ox Oy Oz Pb Pc Pf Pg Ph Pj Pk Pm Pq Pt Pv Pw Px Py Pz Rb Rc Rf Rg Rh Rj Rk Rm Rq Rt Rv Rw Rx Ry Rz Sb Sc Sf Sg Sh Sj Sk Sm Sq St Sv Sw Sx Sy Sz Tb Tc Tf Tg Th Tj Tk Tm Tq Tt Tv Tw Tx Ty Tz Ub Uc Uf Ug Uh Uj Uk Um Uq Ut Uv Uw Ux Uy Uz Vb Vc Vf Vg Vh Vj Vk Vm Vq Vt Vv Vw Vx Vy Vz Wb Wc : Value) (w' : World), SwO B P M R rm n w w' → Q0 .normal ⟨#[A0,.slice (some ⟨g, o, none⟩) ln cap,A2,A3,A4,kp P,A6,.pointer (some ⟨R, 0, none⟩),A8,A9,.int .i64 (jj : Int),.string d,.int .i64 av,Ay,Az,Bb,Bc,Bf,Bg,Bh,Bj,Bk,Bm,Bq,Bt,C5,C6,C7,C8,C9,D0,D1,D2,D3,D4,D5,D6,D7,D8,D9,E0,E1,E2,E3,E4,E5,E6,E7,E8,E9,G0,G1,G2,G3,G4,G5,G6,G7,G8,G9,H0,H1,H2,H3,H4,H5,H6,H7,H8,H9,I0,I1,I2,I3,I4,I5,I6,I7,I8,I9,J0,J1,J2,J3,J4,J5,J6,J7,J8,J9,K0,K1,K2,K3,K4,K5,K6,K7,K8,K9,M0,M1,M2,M3,M4,M5,M6,M7,M8,M9,N0,N1,Im,Iq,It,Iv,Iw,Ix,Iy,Iz,Jb,Jc,Jf,Jg,Jh,Jj,Jk,Jm,Jq,Jt,Jv,Jw,Jx,Jy,Jz,Kb,Kc,Kf,Kg,Kh,Kj,Kk,Km,Kq,Kt,Kv,Kw,Kx,Ky,Kz,Mb,Mc,Mf,Mg,Mh,Mj,Mk,Mm,Mq,Mt,Mv,Mw,Mx,My,Mz,Nb,Nc,Nf,Ng,Nh,Nj,Nk,Nm,Nq,Nt,Nv,Nw,Nx,Ny,Nz,Ob,Oc,Of,Og,Oh,Oj,Ok,Om,Oq,Ot,Ov,Ow,Ox,Oy,Oz,Pb,Pc,Pf,Pg,Ph,Pj,Pk,Pm,Pq,Pt,Pv,Pw,Px,Py,Pz,Rb,Rc,Rf,Rg,Rh,Rj,Rk,Rm,Rq,Rt,Rv,Rw,Rx,Ry,Rz,Sb,Sc,Sf,Sg,Sh,Sj,Sk,Sm,Sq,St,Sv,Sw,Sx,Sy,Sz,Tb,Tc,Tf,Tg,Th,Tj,Tk,Tm,Tq,Tt,Tv,Tw,Tx,Ty,Tz,Ub,Uc,Uf,Ug,Uh,Uj,Uk,Um,Uq,Ut,Uv,Uw,Ux,Uy,Uz,Vb,Vc,Vf,Vg,Vh,Vj,Vk,Vm,Vq,Vt,Vv,Vw,Vx,Vy,Vz,Wb,Wc], []⟩ w') := hexit
  have HI : Hid (SwI B P M R rm n g (o + jj * 4) E t d av wq w ∧ jj < ln) := ⟨h, hj⟩
  have HN : Hid (n ≤ 100) := h.nn
  obtain ⟨TL, hTL⟩ : ∃ TL, TL = (subC [true, true, true, true, true, true, true, true, true, false, true, false, false, true, false, false, true, true, true, true, false] (Tryd.f3.body.getD .skip)) := ⟨_, rfl⟩
  have HTL : Hid (TL = (subC [true, true, true, true, true, true, true, true, true, false, true, false, false, true, false, false, true, true, true, true, false] (Tryd.f3.body.getD .skip))) := hTL
  have hlit : (subC [true, true, true, true, true, true, true, true, true, false, true, false, false, true, false, false, true, true, true, true, false] (Tryd.f3.body.getD .skip)) = TL := hTL.symm
  conv at hlit => lhs; whnf
  conv => arg 2; whnf
  rw [hlit]
  clear hlit hTL hexit h hj
  go_wp2
  rw [HTL.out]
  refine sw_all HI.out.1 HI.out.2 _ ?_
  intro Ay Az Bb Bc Bf Bg Bh Bj Bk Bm Im Iq It Iv Iw Ix Iy Iz Jb Jc Jf Jg Jh Jj Jk Jm Jq Jt Jv Jw Jx Jy Jz Kb Kc Kf Kg Kh Kj Kk Km Kq Kt Kv Kw Kx Ky Kz Mb Mc Mf Mg Mh Mj Mk Mm Mq Mt Mv Mw Mx My Mz Nb Nc Nf Ng Nh Nj Nk Nm Nq Nt Nv Nw Nx Ny Nz Ob Oc Of Og Oh Oj Ok Om Oq Ot Ov Ow Ox Oy Oz Pb Pc Pf Pg Ph Pj Pk Pm Pq Pt Pv Pw Px Py Pz Rb Rc Rf Rg Rh Rj Rk Rm Rq Rt Rv Rw Rx Ry Rz Sb Sc Sf Sg Sh Sj Sk Sm Sq St Sv Sw Sx Sy Sz Tb Tc Tf Tg Th Tj Tk Tm Tq Tt Tv Tw Tx Ty Tz Ub Uc Uf Ug Uh Uj Uk Um Uq Ut Uv Uw Ux Uy w3 h3
  obtain ⟨⟨E', q1⟩, q2⟩ := h3
  have HR := q1.rooms
  have HO : Hid (∀ m, SwO B P M R rm n w (w3.drewN m)) := fun m => ⟨⟨E', KB.up q1 (bl_drewN (Below.refl _ w3) m)⟩, bl_drewN q2 m⟩
  have HK : Hid (∀ m, KB B P M R rm (n + 1) E' (prs E') (w3.drewN m)) := fun m => KB.up q1 (bl_drewN (Below.refl _ w3) m)
  clear q1 q2 HTL HI
  have HU : Hid (∀ m, (∃ ao cap, (w3.drewN m).cell? ⟨R, 1, none⟩ = some (.slice ao E'.length cap)) ∧ Calls Tryd.prog 24 #[.pointer (some ⟨R, 0, none⟩), .bool false] (w3.drewN m) fun e w' => e = .returned (.int .i64 (byE E' : Int)) ∧ w' = w3.drewN m) := fun m => (HK.out m).used (by have := HN.out; omega)
  clear HK HN
  generalize byE E' = yy at HR HU
  generalize E'.length = nn at HR HU
  go_wp2_with (first
    | (go_at_call 23; refine HR.mono ?_; rintro e w4 ⟨rfl, m4, rfl⟩; obtain ⟨⟨ao, cp, cu⟩, hu⟩ := HU.out m4)
    | (go_at_call 24; refine hu.mono ?_; rintro e w5 ⟨rfl, hw5⟩; subst w5)
    | fail)
  exact HX.out _ _ _ _ _ _ _ _ _ _ _ _ _ _ _ _ _ _ _ _ _ _ _ _ _ _ _ _ _ _ _ _ _ _ _ _ _ _ _ _ _ _ _ _ _ _ _ _ _ _ _ _ _ _ _ _ _ _ _ _ _ _ _ _ _ _ _ _ _ _ _ _ _ _ _ _ _ _ _ _ _ _ _ _ _ _ _ _ _ _ _ _ _ _ _ _ _ _ _ _ _ _ _ _ _ _ _ _ _ _ _ _ _ _ _ _ _ _ _ _ _ _ _ _ _ _ _ _ _ _ _ _ _ _ _ _ _ _ _ _ _ _ _ _ _ _ _ _ _ _ _ _ _ _ _ _ _ _ _ _ _ _ _ _ _ _ _ _ _ _ _ _ _ _ _ _ _ _ _ _ _ _ _ _ _ _ _ _ (HO.out _)

set_option maxHeartbeats 8000000 in
set_option maxRecDepth 100000 in
theorem roundL {B P M R rm n g o jj ln cap : Nat} {E : List Ent} {t : Dd} {w : World} (h : SwH B P M R rm n g (o + jj * 4) E t w) (hj : jj < ln) (Q0 : Exit → Act → World → Prop)
    (hexit : ∀ (Aw Ax Ay Az Bb Bc Bf Bg Bh Bj Bk Bm Bq Bt Gy Gz Hb Hc Hf Hg Hh Hj Hk Hm Hq Ht Hv Hw Hx Hy Hz Ib Ic If Ig Ih Ij Ik Im Iq It Iv Iw Ix Iy Iz Jb Jc Jf Jg Jh Jj Jk Jm Jq Jt Jv Jw Jx Jy Jz Kb Kc Kf Kg Kh Kj Kk Km Kq Kt Kv Kw Kx Ky Kz Mb Mc Mf Mg Mh Mj Mk Mm Mq Mt Mv Mw Mx My Mz Nb Nc Nf Ng Nh Nj Nk Nm Nq Nt Nv Nw Nx Ny Nz Ob Oc Of Og Oh Oj Ok Om Oq Ot Ov Ow Ox Oy Oz Pb Pc Pf Pg Ph Pj Pk Pm Pq Pt Pv Pw Px Py Pz Rb Rc Rf Rg Rh Rj Rk Rm Rq Rt Rv Rw Rx Ry Rz Sb Sc Sf Sg Sh Sj Sk Sm Sq St Sv Sw Sx Sy Sz Tb Tc Tf Tg Th Tj Tk Tm Tq Tt Tv Tw Tx Ty Tz Ub Uc Uf Ug Uh Uj Uk Um Uq Ut Uv Uw Ux Uy Uz Vb Vc Vf Vg Vh Vj Vk Vm Vq Vt Vv Vw Vx Vy Vz Wb Wc : Value) (w' : World), SwO B P M R rm n w w' → Q0 .normal ⟨#[A0,.slice (some ⟨g, o, none⟩) ln cap,A2,A3,A4,kp P,A6,.pointer (some ⟨R, 0, none⟩),A8,A9,.int .i64 (jj : Int),Aw,Ax,Ay,Az,Bb,Bc,Bf,Bg,Bh,Bj,Bk,Bm,Bq,Bt,C5,C6,C7,C8,C9,D0,D1,D2,D3,D4,D5,D6,D7,D8,D9,E0,E1,E2,E3,E4,E5,E6,E7,E8,E9,G0,G1,G2,G3,G4,G5,G6,G7,G8,G9,H0,H1,H2,H3,H4,H5,H6,H7,H8,H9,I0,I1,I2,I3,I4,I5,I6,I7,I8,I9,J0,J1,J2,J3,J4,J5,J6,J7,Gy,Gz,Hb,Hc,Hf,Hg,Hh,Hj,Hk,Hm,Hq,Ht,Hv,Hw,Hx,Hy,Hz,Ib,Ic,If,Ig,Ih,Ij,Ik,Im,Iq,It,Iv,Iw,Ix,Iy,Iz,Jb,Jc,Jf,Jg,Jh,Jj,Jk,Jm,Jq,Jt,Jv,Jw,Jx,Jy,Jz,Kb,Kc,Kf,Kg,Kh,Kj,Kk,Km,Kq,Kt,Kv,Kw,Kx,Ky,Kz,Mb,Mc,Mf,Mg,Mh,Mj,Mk,Mm,Mq,Mt,Mv,Mw,Mx,My,Mz,Nb,Nc,Nf,Ng,Nh,Nj,Nk,Nm,Nq,Nt,Nv,Nw,Nx,Ny,Nz,Ob,Oc,Of,Og,Oh,Oj,Ok,Om,Oq,Ot,Ov,Ow,Ox,Oy,Oz,Pb,Pc,Pf,Pg,Ph,Pj,Pk,Pm,Pq,Pt,Pv,Pw,Px,Py,Pz,Rb,Rc,Rf,Rg,Rh,Rj,Rk,Rm,Rq,Rt,Rv,Rw,Rx,Ry,Rz,Sb,Sc,Sf,Sg,Sh,Sj,Sk,Sm,Sq,St,Sv,Sw,Sx,Sy,Sz,Tb,Tc,Tf,Tg,Th,Tj,Tk,Tm,Tq,Tt,Tv,Tw,Tx,Ty,Tz,Ub,Uc,Uf,Ug,Uh,Uj,Uk,Um,Uq,Ut,Uv,Uw,Ux,Uy,Uz,Vb,Vc,Vf,Vg,Vh,Vj,Vk,Vm,Vq,Vt,Vv,Vw,Vx,Vy,Vz,Wb,Wc], []⟩ w') :
    Code.wp Tryd.prog (subC [true, true, true, true, true, true, true, true, true, false, true, false, false, true, false, false] (Tryd.f3.body.getD .skip)) Q0 ⟨#[A0,.slice (some ⟨g, o, none⟩) ln cap,A2,A3,A4,kp P,A6,.pointer (some ⟨R, 0, none⟩),A8,A9,.int .i64 (jj : Int),B1,B2,B3,B4,B5,B6,B7,B8,B9,C0,C1,C2,C3,C4,C5,C6,C7,C8,C9,D0,D1,D2,D3,D4,D5,D6,D7,D8,D9,E0,E1,E2,E3,E4,E5,E6,E7,E8,E9,G0,G1,G2,G3,G4,G5,G6,G7,G8,G9,H0,H1,H2,H3,H4,H5,H6,H7,H8,H9,I0,I1,I2,I3,I4,I5,I6,I7,I8,I9,J0,J1,J2,J3,J4,J5,J6,J7,J8,J9,K0,K1,K2,K3,K4,K5,K6,K7,K8,K9,M0,M1,M2,M3,M4,M5,M6,M7,M8,M9,N0,N1,N2,N3,N4,N5,N6,N7,N8,N9,O0,O1,O2,O3,O4,O5,O6,O7,O8,O9,P0,P1,P2,P3,P4,P5,P6,P7,P8,P9,R0,R1,R2,R3,R4,R5,R6,R7,R8,R9,S0,S1,S2,S3,S4,S5,S6,S7,S8,S9,T0,T1,T2,T3,T4,T5,T6,T7,T8,T9,U0,U1,U2,U3,U4,U5,U6,U7,U8,U9,V0,V1,V2,V3,V4,V5,V6,V7,V8,V9,W0,W1,W2,W3,W4,W5,W6,W7,W8,W9,X0,X1,X2,X3,X4,X5,X6,X7,X8,X9,Y0,Y1,Y2,Y3,Y4,Y5,Y6,Y7,Y8,Y9,Z0,Z1,Z2,Z3,Z4,Z5,Z6,Z7,Z8,Z9,j0,j1,j2,j3,j4,j5,j6,j7,j8,j9,o0,o1,o2,o3,o4,o5,o6,o7,o8,o9,y0,y1,y2,y3,y4,y5,y6,y7,y8,y9,z0,z1,z2,z3,z4,z5,z6,z7,z8,z9,x0,x1,x2,x3,x4,x5,x6,x7,x8,x9,i0,i1,i2,i3,i4,i5,i6], []⟩ w := by
  have HX : Hid (∀ (Aw Ax Ay Az Bb Bc Bf Bg Bh Bj Bk Bm Bq Bt Gy Gz Hb Hc Hf Hg Hh Hj Hk Hm Hq Ht Hv Hw Hx Hy Hz Ib Ic If Ig Ih Ij Ik Im Iq It Iv Iw Ix Iy Iz Jb Jc Jf Jg Jh Jj Jk Jm Jq Jt Jv Jw Jx Jy Jz Kb Kc Kf Kg Kh Kj Kk Km Kq Kt Kv Kw Kx Ky Kz Mb Mc Mf Mg Mh Mj Mk Mm Mq Mt Mv Mw Mx My Mz Nb Nc Nf Ng Nh Nj Nk Nm Nq Nt Nv Nw Nx Ny Nz Ob Oc Of Og Oh Oj Ok Om Oq Ot Ov Ow Ox Oy Oz Pb Pc Pf Pg Ph Pj Pk Pm Pq Pt Pv Pw Px Py Pz Rb Rc Rf Rg Rh Rj Rk Rm Rq Rt Rv Rw Rx Ry Rz Sb Sc Sf Sg Sh Sj Sk Sm Sq St Sv Sw Sx Sy Sz Tb Tc Tf Tg Th Tj Tk Tm Tq Tt Tv Tw Tx Ty Tz Ub Uc Uf Ug Uh Uj Uk Um Uq Ut Uv Uw Ux Uy Uz Vb Vc Vf Vg Vh Vj Vk Vm Vq Vt Vv Vw Vx Vy Vz Wb Wc : Value) (w' : World), SwO B P M R rm n w w' → Q0 .normal ⟨#[A0,.slice (some ⟨g, o, none⟩) ln cap,A2,A3,A4,kp P,A6,.pointer (some ⟨R, 0, none⟩),A8,A9,.int .i64 (jj : Int),Aw,Ax,Ay,Az,Bb,Bc,Bf,Bg,Bh,Bj,Bk,Bm,Bq,Bt,C5,C6,C7,C8,C9,D0,D1,D2,D3,D4,D5,D6,D7,D8,D9,E0,E1,E2,E3,E4,E5,E6,E7,E8,E9,G0,G1,G2,G3,G4,G5,G6,G7,G8,G9,H0,H1,H2,H3,H4,H5,H6,H7,H8,H9,I0,I1,I2,I3,I4,I5,I6,I7,I8,I9,J0,J1,J2,J3,J4,J5,J6,J7,Gy,Gz,Hb,Hc,Hf,Hg,Hh,Hj,Hk,Hm,Hq,Ht,Hv,Hw,Hx,Hy,Hz,Ib,Ic,If,Ig,Ih,Ij,Ik,Im,Iq,It,Iv,Iw,Ix,Iy,Iz,Jb,Jc,Jf,Jg,Jh,Jj,Jk,Jm,Jq,Jt,Jv,Jw,Jx,Jy,Jz,Kb,Kc,Kf,Kg,Kh,Kj,Kk,Km,Kq,Kt,Kv,Kw,Kx,Ky,Kz,Mb,Mc,Mf,Mg,Mh,Mj,Mk,Mm,Mq,Mt,Mv,Mw,Mx,My,Mz,Nb,Nc,Nf,Ng,Nh,Nj,Nk,Nm,Nq,Nt,Nv,Nw,Nx,Ny,Nz,Ob,Oc,Of,Og,Oh,Oj,Ok,Om,Oq,Ot,Ov,Ow,Ox,Oy,Oz,Pb,Pc,Pf,Pg,Ph,Pj,Pk,Pm,Pq,Pt,Pv,Pw,Px,Py,Pz,Rb,Rc,Rf,Rg,Rh,Rj,Rk,Rm,Rq,Rt,Rv,Rw,Rx,Ry,Rz,Sb,Sc,Sf,Sg,Sh,Sj,Sk,Sm,Sq,St,Sv,Sw,Sx,Sy,Sz,Tb,Tc,Tf,Tg,Th,Tj,Tk,Tm,Tq,Tt,Tv,Tw,Tx,Ty,Tz,Ub,Uc,Uf,Ug,Uh,Uj,Uk,Um,Uq,Ut,Uv,Uw,Ux,Uy,Uz,Vb,Vc,Vf,Vg,Vh,Vj,Vk,Vm,Vq,Vt,Vv,Vw,Vx,Vy,Vz,Wb,Wc], []⟩ w') := hexit
  have HJ : Hid (jj < ln) := hj
  have hji : (jj : Int) < (ln : Int) := by omega
  obtain ⟨k0, k1, k2, k3⟩ := h.cl w (Below.refl _ _)
  have HS : Hid (Calls Tryd.prog 11 #[.string t.tx] w fun e w' => e = .returned (.string (smB t.tx)) ∧ w'.cell? ⟨g, o + jj * 4 + 1, none⟩ = some (.string t.tx) ∧ w'.cell? ⟨g, o + jj * 4 + 3, none⟩ = some (.bool t.odd) ∧ Hid (Below w.heap.size w w')) := (RSm_any t.tx w (by have := h.sz.1; omega)).mono fun e w' ⟨q1, q2⟩ => by
    obtain ⟨_, r1, _, r3⟩ := h.cl w' (q2.mono h.kb.size)
    exact ⟨q1, r1, r3, q2⟩
  have HD : Hid (∀ W (d : ByteArray), d.size ≤ 1048576 → Calls Tryd.prog 12 #[.string d] W fun e w' => e = .returned (.bool (digOk d)) ∧ w' = W) := fun W d hd => RIsDigest_any d W (by unfold maxLen; omega)
  have HA : Hid (∀ W (d : ByteArray), Below w.heap.size w W → digOk d = true → Calls Tryd.prog 13 #[.pointer (some ⟨R, 0, none⟩), .string d] W fun e w' => ∃ av : Int, e = .returned (.int .i64 av) ∧ Hid (0 ≤ av ∧ Whr E d av 0 ∨ av = -1 ∧ Whr E d (-1) 5) ∧ Hid (Below w.heap.size w w')) := fun W d hW hd => ((h.up hW).at_ d hd).mono fun e w' ⟨av, q1, q2, q3⟩ => ⟨av, q1, q2, bl_tr hW q3⟩
  have HI : Hid (SwH B P M R rm n g (o + jj * 4) E t w) := h
  have HZ : Hid (t.tx.size ≤ 1048576) := h.sz.1
  obtain ⟨TL, hTL⟩ : ∃ TL, TL = (subC [true, true, true, true, true, true, true, true, true, false, true, false, false, true, false, false, true, true, true, true] (Tryd.f3.body.getD .skip)) := ⟨_, rfl⟩
  have HTL : Hid (TL = (subC [true, true, true, true, true, true, true, true, true, false, true, false, false, true, false, false, true, true, true, true] (Tryd.f3.body.getD .skip))) := hTL
  have hlit : (subC [true, true, true, true, true, true, true, true, true, false, true, false, false, true, false, false, true, true, true, true] (Tryd.f3.body.getD .skip)) = TL := hTL.symm
  conv at hlit => lhs; whnf
  conv => arg 2; whnf
  rw [hlit]
  clear hlit hTL hexit h hj k0 k2 k3
  have HY : Hid (∀ W W', Below w.heap.size w W → SwO B P M R rm n W W' → SwO B P M R rm n w W') := fun W W' h1 h2 => ⟨h2.1, (h1.mono HI.out.kb.size).trans h2.2⟩
  have HYD : Hid (digOk (smB t.tx) = true ∧ (smB t.tx).size ≤ 1048576) := ⟨sm_dig _, by rw [sm_size]; decide⟩
  obtain ⟨x, hx⟩ : ∃ x, x = t.tx := ⟨_, rfl⟩
  obtain ⟨y, hy⟩ : ∃ y, y = smB t.tx := ⟨_, rfl⟩
  obtain ⟨od, hod⟩ : ∃ od, od = t.odd := ⟨_, rfl⟩
  rw [← hy, ← hx, ← hod] at HS
  rw [← hx] at k1 HZ
  rw [← hy] at HYD
  clear hx hy hod
  cases od with
  | false =>
    have HISD : Hid (∀ W, Calls Tryd.prog 12 #[.string y] W fun e w' => e = .returned (.bool true) ∧ w' = W) := fun W => by
      have := HD.out W y HYD.out.2
      rwa [HYD.out.1] at this
    go_wp2_with (first
      | (go_at_call 11; refine HS.out.mono ?_; rintro e w1 ⟨rfl, c1, c3, HB1⟩; dsimp only; clear k1; have HAT := HA.out w1 y HB1.out HYD.out.1)
      | (go_at_call 12; refine (HISD.out _).mono ?_; rintro e w2 ⟨rfl, hw2⟩; subst w2; dsimp only)
      | fail)
    refine HAT.mono ?_
    rintro e w3 ⟨av, rfl, hav, HB3⟩
    dsimp only
    clear HAT HISD HB1 c1 c3
    rcases hav.out with ⟨ha, hwh⟩ | ⟨rfl, hwh⟩
    · have HW : Hid (Whr E y av 0) := hwh
      clear hwh hav
      go_wp2
      rw [HTL.out]
      refine sw_tail ⟨HI.out.up HB3.out, HW.out⟩ HJ.out _ ?_
      intro Ay Az Bb Bc Bf Bg Bh Bj Bk Bm Bq Bt Im Iq It Iv Iw Ix Iy Iz Jb Jc Jf Jg Jh Jj Jk Jm Jq Jt Jv Jw Jx Jy Jz Kb Kc Kf Kg Kh Kj Kk Km Kq Kt Kv Kw Kx Ky Kz Mb Mc Mf Mg Mh Mj Mk Mm Mq Mt Mv Mw Mx My Mz Nb Nc Nf Ng Nh Nj Nk Nm Nq Nt Nv Nw Nx Ny Nz Ob Oc Of Og Oh Oj Ok Om Oq Ot Ov Ow Ox Oy Oz Pb Pc Pf Pg Ph Pj Pk Pm Pq Pt Pv Pw Px Py Pz Rb Rc Rf Rg Rh Rj Rk Rm Rq Rt Rv Rw Rx Ry Rz Sb Sc Sf Sg Sh Sj Sk Sm Sq St Sv Sw Sx Sy Sz Tb Tc Tf Tg Th Tj Tk Tm Tq Tt Tv Tw Tx Ty Tz Ub Uc Uf Ug Uh Uj Uk Um Uq Ut Uv Uw Ux Uy Uz Vb Vc Vf Vg Vh Vj Vk Vm Vq Vt Vv Vw Vx Vy Vz Wb Wc w5 h5
      exact HX.out _ _ _ _ _ _ _ _ _ _ _ _ _ _ _ _ _ _ _ _ _ _ _ _ _ _ _ _ _ _ _ _ _ _ _ _ _ _ _ _ _ _ _ _ _ _ _ _ _ _ _ _ _ _ _ _ _ _ _ _ _ _ _ _ _ _ _ _ _ _ _ _ _ _ _ _ _ _ _ _ _ _ _ _ _ _ _ _ _ _ _ _ _ _ _ _ _ _ _ _ _ _ _ _ _ _ _ _ _ _ _ _ _ _ _ _ _ _ _ _ _ _ _ _ _ _ _ _ _ _ _ _ _ _ _ _ _ _ _ _ _ _ _ _ _ _ _ _ _ _ _ _ _ _ _ _ _ _ _ _ _ _ _ _ _ _ _ _ _ _ _ _ _ _ _ _ _ _ _ _ _ _ _ _ _ _ _ _ _ _ _ _ _ _ _ _ _ _ _ _ _ _ _ _ _ _ _ _ _ _ _ _ _ _ (HY.out _ _ HB3.out h5)
    · have HW : Hid (Whr E y (-1) 5) := hwh
      clear hwh hav
      go_wp2
      rw [HTL.out]
      refine sw_tail ⟨HI.out.up HB3.out, HW.out⟩ HJ.out _ ?_
      intro Ay Az Bb Bc Bf Bg Bh Bj Bk Bm Bq Bt Im Iq It Iv Iw Ix Iy Iz Jb Jc Jf Jg Jh Jj Jk Jm Jq Jt Jv Jw Jx Jy Jz Kb Kc Kf Kg Kh Kj Kk Km Kq Kt Kv Kw Kx Ky Kz Mb Mc Mf Mg Mh Mj Mk Mm Mq Mt Mv Mw Mx My Mz Nb Nc Nf Ng Nh Nj Nk Nm Nq Nt Nv Nw Nx Ny Nz Ob Oc Of Og Oh Oj Ok Om Oq Ot Ov Ow Ox Oy Oz Pb Pc Pf Pg Ph Pj Pk Pm Pq Pt Pv Pw Px Py Pz Rb Rc Rf Rg Rh Rj Rk Rm Rq Rt Rv Rw Rx Ry Rz Sb Sc Sf Sg Sh Sj Sk Sm Sq St Sv Sw Sx Sy Sz Tb Tc Tf Tg Th Tj Tk Tm Tq Tt Tv Tw Tx Ty Tz Ub Uc Uf Ug Uh Uj Uk Um Uq Ut Uv Uw Ux Uy Uz Vb Vc Vf Vg Vh Vj Vk Vm Vq Vt Vv Vw Vx Vy Vz Wb Wc w5 h5
      exact HX.out _ _ _ _ _ _ _ _ _ _ _ _ _ _ _ _ _ _ _ _ _ _ _ _ _ _ _ _ _ _ _ _ _ _ _ _ _ _ _ _ _ _ _ _ _ _ _ _ _ _ _ _ _ _ _ _ _ _ _ _ _ _ _ _ _ _ _ _ _ _ _ _ _ _ _ _ _ _ _ _ _ _ _ _ _ _ _ _ _ _ _ _ _ _ _ _ _ _ _ _ _ _ _ _ _ _ _ _ _ _ _ _ _ _ _ _ _ _ _ _ _ _ _ _ _ _ _ _ _ _ _ _ _ _ _ _ _ _ _ _ _ _ _ _ _ _ _ _ _ _ _ _ _ _ _ _ _ _ _ _ _ _ _ _ _ _ _ _ _ _ _ _ _ _ _ _ _ _ _ _ _ _ _ _ _ _ _ _ _ _ _ _ _ _ _ _ _ _ _ _ _ _ _ _ _ _ _ _ _ _ _ _ _ _ (HY.out _ _ HB3.out h5)
  | true =>
    cases hdg : digOk x with
    | false =>
      have HISD : Hid (∀ W, Calls Tryd.prog 12 #[.string x] W fun e w' => e = .returned (.bool false) ∧ w' = W) := fun W => by
        have := HD.out W x HZ.out
        rwa [hdg] at this
      have hwh : Whr E x (-1) 1 := .inl ⟨rfl, rfl, hdg⟩
      have HW : Hid (Whr E x (-1) 1) := hwh
      clear hdg hwh
      go_wp2_with (first
        | (go_at_call 11; refine HS.out.mono ?_; rintro e w1 ⟨rfl, c1, c3, HB1⟩; dsimp only; clear k1)
        | (go_at_call 12; refine (HISD.out _).mono ?_; rintro e w2 ⟨rfl, hw2⟩; subst w2; dsimp only)
        | fail)
      rw [HTL.out]
      refine sw_tail ⟨HI.out.up HB1.out, HW.out⟩ HJ.out _ ?_
      intro Ay Az Bb Bc Bf Bg Bh Bj Bk Bm Bq Bt Im Iq It Iv Iw Ix Iy Iz Jb Jc Jf Jg Jh Jj Jk Jm Jq Jt Jv Jw Jx Jy Jz Kb Kc Kf Kg Kh Kj Kk Km Kq Kt Kv Kw Kx Ky Kz Mb Mc Mf Mg Mh Mj Mk Mm Mq Mt Mv Mw Mx My Mz Nb Nc Nf Ng Nh Nj Nk Nm Nq Nt Nv Nw Nx Ny Nz Ob Oc Of Og Oh Oj Ok Om Oq Ot Ov Ow Ox Oy Oz Pb Pc Pf Pg Ph Pj Pk Pm Pq Pt Pv Pw Px Py Pz Rb Rc Rf Rg Rh Rj Rk Rm Rq Rt Rv Rw Rx Ry Rz Sb Sc Sf Sg Sh Sj Sk Sm Sq St Sv Sw Sx Sy Sz Tb Tc Tf Tg Th Tj Tk Tm Tq Tt Tv Tw Tx Ty Tz Ub Uc Uf Ug Uh Uj Uk Um Uq Ut Uv Uw Ux Uy Uz Vb Vc Vf Vg Vh Vj Vk Vm Vq Vt Vv Vw Vx Vy Vz Wb Wc w5 h5
      exact HX.out _ _ _ _ _ _ _ _ _ _ _ _ _ _ _ _ _ _ _ _ _ _ _ _ _ _ _ _ _ _ _ _ _ _ _ _ _ _ _ _ _ _ _ _ _ _ _ _ _ _ _ _ _ _ _ _ _ _ _ _ _ _ _ _ _ _ _ _ _ _ _ _ _ _ _ _ _ _ _ _ _ _ _ _ _ _ _ _ _ _ _ _ _ _ _ _ _ _ _ _ _ _ _ _ _ _ _ _ _ _ _ _ _ _ _ _ _ _ _ _ _ _ _ _ _ _ _ _ _ _ _ _ _ _ _ _ _ _ _ _ _ _ _ _ _ _ _ _ _ _ _ _ _ _ _ _ _ _ _ _ _ _ _ _ _ _ _ _ _ _ _ _ _ _ _ _ _ _ _ _ _ _ _ _ _ _ _ _ _ _ _ _ _ _ _ _ _ _ _ _ _ _ _ _ _ _ _ _ _ _ _ _ _ _ (HY.out _ _ HB1.out h5)
    | true =>
      have HISD : Hid (∀ W, Calls Tryd.prog 12 #[.string x] W fun e w' => e = .returned (.bool true) ∧ w' = W) := fun W => by
        have := HD.out W x HZ.out
        rwa [hdg] at this
      have HDG : Hid (digOk x = true) := hdg
      clear hdg
      go_wp2_with (first
        | (go_at_call 11; refine HS.out.mono ?_; rintro e w1 ⟨rfl, c1, c3, HB1⟩; dsimp only; clear k1; have HAT := HA.out w1 x HB1.out HDG.out)
        | (go_at_call 12; refine (HISD.out _).mono ?_; rintro e w2 ⟨rfl, hw2⟩; subst w2; dsimp only)
        | fail)
      refine HAT.mono ?_
      rintro e w3 ⟨av, rfl, hav, HB3⟩
      dsimp only
      clear HAT HISD HB1 c1 c3
      rcases hav.out with ⟨ha, hwh⟩ | ⟨rfl, hwh⟩
      · have HW : Hid (Whr E x av 0) := hwh
        clear hwh hav
        go_wp2
        rw [HTL.out]
        refine sw_tail ⟨HI.out.up HB3.out, HW.out⟩ HJ.out _ ?_
        intro Ay Az Bb Bc Bf Bg Bh Bj Bk Bm Bq Bt Im Iq It Iv Iw Ix Iy Iz Jb Jc Jf Jg Jh Jj Jk Jm Jq Jt Jv Jw Jx Jy Jz Kb Kc Kf Kg Kh Kj Kk Km Kq Kt Kv Kw Kx Ky Kz Mb Mc Mf Mg Mh Mj Mk Mm Mq Mt Mv Mw Mx My Mz Nb Nc Nf Ng Nh Nj Nk Nm Nq Nt Nv Nw Nx Ny Nz Ob Oc Of Og Oh Oj Ok Om Oq Ot Ov Ow Ox Oy Oz Pb Pc Pf Pg Ph Pj Pk Pm Pq Pt Pv Pw Px Py Pz Rb Rc Rf Rg Rh Rj Rk Rm Rq Rt Rv Rw Rx Ry Rz Sb Sc Sf Sg Sh Sj Sk Sm Sq St Sv Sw Sx Sy Sz Tb Tc Tf Tg Th Tj Tk Tm Tq Tt Tv Tw Tx Ty Tz Ub Uc Uf Ug Uh Uj Uk Um Uq Ut Uv Uw Ux Uy Uz Vb Vc Vf Vg Vh Vj Vk Vm Vq Vt Vv Vw Vx Vy Vz Wb Wc w5 h5
        exact HX.out _ _ _ _ _ _ _ _ _ _ _ _ _ _ _ _ _ _ _ _ _ _ _ _ _ _ _ _ _ _ _ _ _ _ _ _ _ _ _ _ _ _ _ _ _ _ _ _ _ _ _ _ _ _ _ _ _ _ _ _ _ _ _ _ _ _ _ _ _ _ _ _ _ _ _ _ _ _ _ _ _ _ _ _ _ _ _ _ _ _ _ _ _ _ _ _ _ _ _ _ _ _ _ _ _ _ _ _ _ _ _ _ _ _ _ _ _ _ _ _ _ _ _ _ _ _ _ _ _ _ _ _ _ _ _ _ _ _ _ _ _ _ _ _ _ _ _ _ _ _ _ _ _ _ _ _ _ _ _ _ _ _ _ _ _ _ _ _ _ _ _ _ _ _ _ _ _ _ _ _ _ _ _ _ _ _ _ _ _ _ _ _ _ _ _ _ _ _ _ _ _ _ _ _ _ _ _ _ _ _ _ _ _ _ (HY.out _ _ HB3.out h5)
      · have HW : Hid (Whr E x (-1) 5) := hwh
        clear hwh hav
        go_wp2
        rw [HTL.out]
        refine sw_tail ⟨HI.out.up HB3.out, HW.out⟩ HJ.out _ ?_
        intro Ay Az Bb Bc Bf Bg Bh Bj Bk Bm Bq Bt Im Iq It Iv Iw Ix Iy Iz Jb Jc Jf Jg Jh Jj Jk Jm Jq Jt Jv Jw Jx Jy Jz Kb Kc Kf Kg Kh Kj Kk Km Kq Kt Kv Kw Kx Ky Kz Mb Mc Mf Mg Mh Mj Mk Mm Mq Mt Mv Mw Mx My Mz Nb Nc Nf Ng Nh Nj Nk Nm Nq Nt Nv Nw Nx Ny Nz Ob Oc Of Og Oh Oj Ok Om Oq Ot Ov Ow Ox Oy Oz Pb Pc Pf Pg Ph Pj Pk Pm Pq Pt Pv Pw Px Py Pz Rb Rc Rf Rg Rh Rj Rk Rm Rq Rt Rv Rw Rx Ry Rz Sb Sc Sf Sg Sh Sj Sk Sm Sq St Sv Sw Sx Sy Sz Tb Tc Tf Tg Th Tj Tk Tm Tq Tt Tv Tw Tx Ty Tz Ub Uc Uf Ug Uh Uj Uk Um Uq Ut Uv Uw Ux Uy Uz Vb Vc Vf Vg Vh Vj Vk Vm Vq Vt Vv Vw Vx Vy Vz Wb Wc w5 h5
        exact HX.out _ _ _ _ _ _ _ _ _ _ _ _ _ _ _ _ _ _ _ _ _ _ _ _ _ _ _ _ _ _ _ _ _ _ _ _ _ _ _ _ _ _ _ _ _ _ _ _ _ _ _ _ _ _ _ _ _ _ _ _ _ _ _ _ _ _ _ _ _ _ _ _ _ _ _ _ _ _ _ _ _ _ _ _ _ _ _ _ _ _ _ _ _ _ _ _ _ _ _ _ _ _ _ _ _ _ _ _ _ _ _ _ _ _ _ _ _ _ _ _ _ _ _ _ _ _ _ _ _ _ _ _ _ _ _ _ _ _ _ _ _ _ _ _ _ _ _ _ _ _ _ _ _ _ _ _ _ _ _ _ _ _ _ _ _ _ _ _ _ _ _ _ _ _ _ _ _ _ _ _ _ _ _ _ _ _ _ _ _ _ _ _ _ _ _ _ _ _ _ _ _ _ _ _ _ _ _ _ _ _ _ _ _ _ (HY.out _ _ HB3.out h5)
end Go.Proofs.YtoceglbdnbnjpaaDoor
