/- CasPlays: all deeds, one behind the other. -/
import Derived.Test.YtoceglbdnbnjpaaDoorCpGM
namespace Go.Proofs.YtoceglbdnbnjpaaDoor
open Go.RowKit Go.Shelf Go.Sort
variable {A0 A1 A2 A3 A4 A5 A6 A7 A8 A9 B0 B1 B2 B3 B4 B5 B6 B7 B8 B9 C0 C1 C2 C3 C4 C5 C6 C7 C8 C9 D0 D1 D2 D3 D4 D5 D6 D7 D8 D9 E0 E1 E2 E3 E4 E5 E6 E7 E8 E9 G0 G1 G2 G3 G4 G5 G6 G7 G8 G9 H0 H1 H2 H3 H4 H5 H6 H7 H8 H9 I0 I1 I2 I3 I4 I5 I6 I7 I8 I9 J0 J1 J2 J3 J4 J5 J6 J7 J8 J9 K0 K1 K2 K3 K4 K5 K6 K7 K8 K9 M0 M1 M2 M3 M4 M5 M6 M7 M8 M9 N0 N1 N2 N3 N4 N5 N6 N7 N8 N9 O0 O1 O2 O3 O4 O5 O6 O7 O8 O9 P0 P1 P2 P3 P4 P5 P6 P7 P8 P9 R0 R1 R2 R3 R4 R5 R6 R7 R8 R9 S0 S1 S2 S3 S4 S5 S6 S7 S8 S9 T0 T1 T2 T3 T4 T5 T6 T7 T8 T9 U0 U1 U2 U3 U4 U5 U6 U7 U8 U9 V0 V1 V2 V3 V4 V5 V6 V7 V8 V9 W0 W1 W2 W3 W4 W5 W6 W7 W8 W9 X0 X1 X2 X3 X4 X5 X6 X7 X8 X9 Y0 Y1 Y2 Y3 Y4 Y5 Y6 Y7 Y8 Y9 Z0 Z1 Z2 Z3 Z4 Z5 Z6 Z7 Z8 Z9 j0 j1 j2 j3 j4 j5 j6 j7 j8 j9 o0 o1 o2 o3 o4 o5 o6 o7 o8 o9 y0 y1 y2 y3 y4 y5 y6 y7 y8 y9 z0 z1 z2 z3 z4 z5 z6 z7 z8 z9 x0 x1 x2 x3 x4 x5 x6 x7 x8 x9 i0 i1 i2 i3 i4 i5 i6 : Value}

/-- What holds between the deeds. -/
def PlI (w0 : World) (B P M R rm k : Nat) (W : World) : Prop := (∃ E, KB B P M R rm k E (prs E) W) ∧ Below w0.heap.size w0 W
theorem PlI.deed {w0 w : World} {B P M R rm k : Nat} {ao : Option Addr} {L : List Dd} (h : PlI w0 B P M R rm k w) (hL : DdIn w0 ao L) (hR : Roots w0) (hB : w0.heap.size ≤ B) (hk : k < L.length) (hn : k ≤ 40) :
    ∃ g o, ao = some ⟨g, o, none⟩ ∧ ∃ E, SwH B P M R rm k g (o + k * 4) E (L[k]) w := by
  obtain ⟨⟨E, h1⟩, h2⟩ := h
  rcases hL.at_ with e | ⟨g, o, e, hg, hc⟩
  · rw [e] at hk; cases hk
  · refine ⟨g, o, e, E, h1, fun W hW => hR.up (h2.trans (hW.mono hB)), fun W hW => ?_, fun W hW => (hL.tx _ (List.getElem_mem hk)).up (h2.trans (hW.mono hB)), hL.sz _ (List.getElem_mem hk), hL.kd _ (List.getElem_mem hk), by omega⟩
    obtain ⟨c1, c2, c3, c4⟩ := hc k hk
    have hb := h2.trans (hW.mono hB)
    exact ⟨(hb.cell (p := ⟨g, _, none⟩) hg).trans c1, (hb.cell (p := ⟨g, _, none⟩) hg).trans c2, (hb.cell (p := ⟨g, _, none⟩) hg).trans c3, (hb.cell (p := ⟨g, _, none⟩) hg).trans c4⟩

set_option maxHeartbeats 8000000 in
set_option maxRecDepth 100000 in
theorem loop2 {B P M R rm n cap : Nat} {ao : Option Addr} {L : List Dd} {w0 w : World} (h : PlI w0 B P M R rm 0 w) (hL : DdIn w0 ao L) (hR : Roots w0) (hB : w0.heap.size ≤ B) (hn : n = L.length) (Q0 : Exit → Act → World → Prop)
    (hexit : ∀ (Ah Av Aw Ax Ay Az Bb Bc Bf Bg Bh Bj Bk Bm Bq Bt Gg Gh Gj Gk Gm Gq Gt Gv Gw Gx Gy Gz Hb Hc Hf Hg Hh Hj Hk Hm Hq Ht Hv Hw Hx Hy Hz Ib Ic If Ig Ih Ij Ik Im Iq It Iv Iw Ix Iy Iz Jb Jc Jf Jg Jh Jj Jk Jm Jq Jt Jv Jw Jx Jy Jz Kb Kc Kf Kg Kh Kj Kk Km Kq Kt Kv Kw Kx Ky Kz Mb Mc Mf Mg Mh Mj Mk Mm Mq Mt Mv Mw Mx My Mz Nb Nc Nf Ng Nh Nj Nk Nm Nq Nt Nv Nw Nx Ny Nz Ob Oc Of Og Oh Oj Ok Om Oq Ot Ov Ow Ox Oy Oz Pb Pc Pf Pg Ph Pj Pk Pm Pq Pt Pv Pw Px Py Pz Rb Rc Rf Rg Rh Rj Rk Rm Rq Rt Rv Rw Rx Ry Rz Sb Sc Sf Sg Sh Sj Sk Sm Sq St Sv Sw Sx Sy Sz Tb Tc Tf Tg Th Tj Tk Tm Tq Tt Tv Tw Tx Ty Tz Ub Uc Uf Ug Uh Uj Uk Um Uq Ut Uv Uw Ux Uy Uz Vb Vc Vf Vg Vh Vj Vk Vm Vq Vt Vv Vw Vx Vy Vz Wb Wc : Value) (w' : World), Below w0.heap.size w0 w' → Q0 .normal ⟨#[A0,.slice ao n cap,A2,A3,Ah,kp P,A6,.pointer (some ⟨R, 0, none⟩),A8,A9,Av,Aw,Ax,Ay,Az,Bb,Bc,Bf,Bg,Bh,Bj,Bk,Bm,Bq,Bt,C5,C6,C7,C8,C9,D0,D1,D2,D3,D4,D5,D6,D7,D8,D9,E0,E1,E2,E3,E4,E5,E6,E7,E8,E9,G0,G1,G2,G3,G4,G5,G6,G7,G8,G9,H0,H1,H2,H3,H4,H5,H6,H7,H8,H9,I0,I1,I2,I3,I4,I5,I6,I7,Gg,Gh,Gj,Gk,Gm,Gq,Gt,Gv,Gw,Gx,Gy,Gz,Hb,Hc,Hf,Hg,Hh,Hj,Hk,Hm,Hq,Ht,Hv,Hw,Hx,Hy,Hz,Ib,Ic,If,Ig,Ih,Ij,Ik,Im,Iq,It,Iv,Iw,Ix,Iy,Iz,Jb,Jc,Jf,Jg,Jh,Jj,Jk,Jm,Jq,Jt,Jv,Jw,Jx,Jy,Jz,Kb,Kc,Kf,Kg,Kh,Kj,Kk,Km,Kq,Kt,Kv,Kw,Kx,Ky,Kz,Mb,Mc,Mf,Mg,Mh,Mj,Mk,Mm,Mq,Mt,Mv,Mw,Mx,My,Mz,Nb,Nc,Nf,Ng,Nh,Nj,Nk,Nm,Nq,Nt,Nv,Nw,Nx,Ny,Nz,Ob,Oc,Of,Og,Oh,Oj,Ok,Om,Oq,Ot,Ov,Ow,Ox,Oy,Oz,Pb,Pc,Pf,Pg,Ph,Pj,Pk,Pm,Pq,Pt,Pv,Pw,Px,Py,Pz,Rb,Rc,Rf,Rg,Rh,Rj,Rk,Rm,Rq,Rt,Rv,Rw,Rx,Ry,Rz,Sb,Sc,Sf,Sg,Sh,Sj,Sk,Sm,Sq,St,Sv,Sw,Sx,Sy,Sz,Tb,Tc,Tf,Tg,Th,Tj,Tk,Tm,Tq,Tt,Tv,Tw,Tx,Ty,Tz,Ub,Uc,Uf,Ug,Uh,Uj,Uk,Um,Uq,Ut,Uv,Uw,Ux,Uy,Uz,Vb,Vc,Vf,Vg,Vh,Vj,Vk,Vm,Vq,Vt,Vv,Vw,Vx,Vy,Vz,Wb,Wc], []⟩ w') :
    Code.wp Tryd.prog (subC [true, true, true, true, true, true, true, true, true, false] (Tryd.f3.body.getD .skip)) Q0 ⟨#[A0,.slice ao n cap,A2,A3,A4,kp P,A6,.pointer (some ⟨R, 0, none⟩),A8,A9,B0,B1,B2,B3,B4,B5,B6,B7,B8,B9,C0,C1,C2,C3,C4,C5,C6,C7,C8,C9,D0,D1,D2,D3,D4,D5,D6,D7,D8,D9,E0,E1,E2,E3,E4,E5,E6,E7,E8,E9,G0,G1,G2,G3,G4,G5,G6,G7,G8,G9,H0,H1,H2,H3,H4,H5,H6,H7,H8,H9,I0,I1,I2,I3,I4,I5,I6,I7,I8,I9,J0,J1,J2,J3,J4,J5,J6,J7,J8,J9,K0,K1,K2,K3,K4,K5,K6,K7,K8,K9,M0,M1,M2,M3,M4,M5,M6,M7,M8,M9,N0,N1,N2,N3,N4,N5,N6,N7,N8,N9,O0,O1,O2,O3,O4,O5,O6,O7,O8,O9,P0,P1,P2,P3,P4,P5,P6,P7,P8,P9,R0,R1,R2,R3,R4,R5,R6,R7,R8,R9,S0,S1,S2,S3,S4,S5,S6,S7,S8,S9,T0,T1,T2,T3,T4,T5,T6,T7,T8,T9,U0,U1,U2,U3,U4,U5,U6,U7,U8,U9,V0,V1,V2,V3,V4,V5,V6,V7,V8,V9,W0,W1,W2,W3,W4,W5,W6,W7,W8,W9,X0,X1,X2,X3,X4,X5,X6,X7,X8,X9,Y0,Y1,Y2,Y3,Y4,Y5,Y6,Y7,Y8,Y9,Z0,Z1,Z2,Z3,Z4,Z5,Z6,Z7,Z8,Z9,j0,j1,j2,j3,j4,j5,j6,j7,j8,j9,o0,o1,o2,o3,o4,o5,o6,o7,o8,o9,y0,y1,y2,y3,y4,y5,y6,y7,y8,y9,z0,z1,z2,z3,z4,z5,z6,z7,z8,z9,x0,x1,x2,x3,x4,x5,x6,x7,x8,x9,i0,i1,i2,i3,i4,i5,i6], []⟩ w := by
  have HX : Hid (∀ (Ah Av Aw Ax Ay Az Bb Bc Bf Bg Bh Bj Bk Bm Bq Bt Gg Gh Gj Gk Gm Gq Gt Gv Gw Gx Gy Gz Hb Hc Hf Hg Hh Hj Hk Hm Hq Ht Hv Hw Hx Hy Hz Ib Ic If Ig Ih Ij Ik Im Iq It Iv Iw Ix Iy Iz Jb Jc Jf Jg Jh Jj Jk Jm Jq Jt Jv Jw Jx Jy Jz Kb Kc Kf Kg Kh Kj Kk Km Kq Kt Kv Kw Kx Ky Kz Mb Mc Mf Mg Mh Mj Mk Mm Mq Mt Mv Mw Mx My Mz Nb Nc Nf Ng Nh Nj Nk Nm Nq Nt Nv Nw Nx Ny Nz Ob Oc Of Og Oh Oj Ok Om Oq Ot Ov Ow Ox Oy Oz Pb Pc Pf Pg Ph Pj Pk Pm Pq Pt Pv Pw Px Py Pz Rb Rc Rf Rg Rh Rj Rk Rm Rq Rt Rv Rw Rx Ry Rz Sb Sc Sf Sg Sh Sj Sk Sm Sq St Sv Sw Sx Sy Sz Tb Tc Tf Tg Th Tj Tk Tm Tq Tt Tv Tw Tx Ty Tz Ub Uc Uf Ug Uh Uj Uk Um Uq Ut Uv Uw Ux Uy Uz Vb Vc Vf Vg Vh Vj Vk Vm Vq Vt Vv Vw Vx Vy Vz Wb Wc : Value) (w' : World), Below w0.heap.size w0 w' → Q0 .normal ⟨#[A0,.slice ao n cap,A2,A3,Ah,kp P,A6,.pointer (some ⟨R, 0, none⟩),A8,A9,Av,Aw,Ax,Ay,Az,Bb,Bc,Bf,Bg,Bh,Bj,Bk,Bm,Bq,Bt,C5,C6,C7,C8,C9,D0,D1,D2,D3,D4,D5,D6,D7,D8,D9,E0,E1,E2,E3,E4,E5,E6,E7,E8,E9,G0,G1,G2,G3,G4,G5,G6,G7,G8,G9,H0,H1,H2,H3,H4,H5,H6,H7,H8,H9,I0,I1,I2,I3,I4,I5,I6,I7,Gg,Gh,Gj,Gk,Gm,Gq,Gt,Gv,Gw,Gx,Gy,Gz,Hb,Hc,Hf,Hg,Hh,Hj,Hk,Hm,Hq,Ht,Hv,Hw,Hx,Hy,Hz,Ib,Ic,If,Ig,Ih,Ij,Ik,Im,Iq,It,Iv,Iw,Ix,Iy,Iz,Jb,Jc,Jf,Jg,Jh,Jj,Jk,Jm,Jq,Jt,Jv,Jw,Jx,Jy,Jz,Kb,Kc,Kf,Kg,Kh,Kj,Kk,Km,Kq,Kt,Kv,Kw,Kx,Ky,Kz,Mb,Mc,Mf,Mg,Mh,Mj,Mk,Mm,Mq,Mt,Mv,Mw,Mx,My,Mz,Nb,Nc,Nf,Ng,Nh,Nj,Nk,Nm,Nq,Nt,Nv,Nw,Nx,Ny,Nz,Ob,Oc,Of,Og,Oh,Oj,Ok,Om,Oq,Ot,Ov,Ow,Ox,Oy,Oz,Pb,Pc,Pf,Pg,Ph,Pj,Pk,Pm,Pq,Pt,Pv,Pw,Px,Py,Pz,Rb,Rc,Rf,Rg,Rh,Rj,Rk,Rm,Rq,Rt,Rv,Rw,Rx,Ry,Rz,Sb,Sc,Sf,Sg,Sh,Sj,Sk,Sm,Sq,St,Sv,Sw,Sx,Sy,Sz,Tb,Tc,Tf,Tg,Th,Tj,Tk,Tm,Tq,Tt,Tv,Tw,Tx,Ty,Tz,Ub,Uc,Uf,Ug,Uh,Uj,Uk,Um,Uq,Ut,Uv,Uw,Ux,Uy,Uz,Vb,Vc,Vf,Vg,Vh,Vj,Vk,Vm,Vq,Vt,Vv,Vw,Vx,Vy,Vz,Wb,Wc], []⟩ w') := hexit
  have HP0 : Hid (PlI w0 B P M R rm 0 w) := h
  have HL : Hid (DdIn w0 ao L ∧ Roots w0 ∧ w0.heap.size ≤ B ∧ n = L.length) := ⟨hL, hR, hB, hn⟩
  have hn1 : n ≤ 1048576 := by have := hL.len; omega
  clear h hL hR hB hn hexit
  conv => arg 2; whnf
  go_wp2
  go_loopw [10] (fun i wr => ∃ k : Nat, k ≤ n ∧ k ≤ 40 ∧ i = .int .i64 (k : Int) ∧ Hid (PlI w0 B P M R rm k wr)) (fun i _ => n - (RowKit.intOf i).toNat)
  case atStart => exact ⟨0, Nat.zero_le _, by omega, rfl, HP0⟩
  case round =>
    obtain ⟨k, hk, hk4, rfl, HI⟩ := hrel
    by_cases hkl : k < n ∧ k < 40
    · have j1 : (k : Int) < (n : Int) := by omega
      have j2 : (k : Int) < 40 := by omega
      obtain ⟨k1, hk1⟩ : ∃ k1, k1 = k + 1 := ⟨_, rfl⟩
      have ek1 : (k : Int) + 1 = (k1 : Int) := by omega
      have ek2 : IntKind.i64.wrap (k1 : Int) = (k1 : Int) := by rw [IntKind.wrap_i64]; omega
      have HK1 : Hid (k1 ≤ n ∧ k1 ≤ 40 ∧ n - k1 < n - k ∧ k1 = k + 1 ∧ k < n ∧ k < L.length ∧ k ≤ 40) := ⟨by omega, by omega, by omega, hk1, by omega, by have := HL.out.2.2.2; omega, hk4⟩
      obtain ⟨TL, hTL⟩ : ∃ TL, TL = (subC [true, true, true, true, true, true, true, true, true, false, true, false, false, true, false, false] (Tryd.f3.body.getD .skip)) := ⟨_, rfl⟩
      have HTL : Hid (TL = (subC [true, true, true, true, true, true, true, true, true, false, true, false, false, true, false, false] (Tryd.f3.body.getD .skip))) := hTL
      have hlit : (subC [true, true, true, true, true, true, true, true, true, false, true, false, false, true, false, false] (Tryd.f3.body.getD .skip)) = TL := hTL.symm
      conv at hlit => lhs; whnf
      rw [hlit]
      clear hlit hTL hk hk4 hk1 hkl
      go_wp2
      rw [HTL.out]
      obtain ⟨g, o, hao, E, hS⟩ := PlI.deed HI.out HL.out.1 HL.out.2.1 HL.out.2.2.1 HK1.out.2.2.2.2.2.1 HK1.out.2.2.2.2.2.2
      subst hao
      refine roundL hS HK1.out.2.2.2.2.1 _ ?_
      intro Aw Ax Ay Az Bb Bc Bf Bg Bh Bj Bk Bm Bq Bt Gy Gz Hb Hc Hf Hg Hh Hj Hk Hm Hq Ht Hv Hw Hx Hy Hz Ib Ic If Ig Ih Ij Ik Im Iq It Iv Iw Ix Iy Iz Jb Jc Jf Jg Jh Jj Jk Jm Jq Jt Jv Jw Jx Jy Jz Kb Kc Kf Kg Kh Kj Kk Km Kq Kt Kv Kw Kx Ky Kz Mb Mc Mf Mg Mh Mj Mk Mm Mq Mt Mv Mw Mx My Mz Nb Nc Nf Ng Nh Nj Nk Nm Nq Nt Nv Nw Nx Ny Nz Ob Oc Of Og Oh Oj Ok Om Oq Ot Ov Ow Ox Oy Oz Pb Pc Pf Pg Ph Pj Pk Pm Pq Pt Pv Pw Px Py Pz Rb Rc Rf Rg Rh Rj Rk Rm Rq Rt Rv Rw Rx Ry Rz Sb Sc Sf Sg Sh Sj Sk Sm Sq St Sv Sw Sx Sy Sz Tb Tc Tf Tg Th Tj Tk Tm Tq Tt Tv Tw Tx Ty Tz Ub Uc Uf Ug Uh Uj Uk Um Uq Ut Uv Uw Ux Uy Uz Vb Vc Vf Vg Vh Vj Vk Vm Vq Vt Vv Vw Vx Vy Vz Wb Wc w' hw'
      have HN : Hid (PlI w0 B P M R rm k1 w') := by
        refine ⟨?_, HI.out.2.trans (hw'.2.mono HL.out.2.2.1)⟩
        rw [HK1.out.2.2.2.1]
        exact hw'.1
      clear hw' hS
      go_wp2
      exact ⟨⟨k1, HK1.out.1, HK1.out.2.1, rfl, HN⟩, HK1.out.2.2.1⟩
    · have k2 : ¬ ((k : Int) < (n : Int) ∧ (k : Int) < 40) := by omega
      have HF : Hid (Below w0.heap.size w0 wr) := HI.out.2
      by_cases h1 : k < n
      · have j1 : (k : Int) < (n : Int) := by omega
        have j2 : ¬ (k : Int) < 40 := by omega
        clear k2 hk hk4 hkl h1 HI
        go_wp2
        exact HX.out _ _ _ _ _ _ _ _ _ _ _ _ _ _ _ _ _ _ _ _ _ _ _ _ _ _ _ _ _ _ _ _ _ _ _ _ _ _ _ _ _ _ _ _ _ _ _ _ _ _ _ _ _ _ _ _ _ _ _ _ _ _ _ _ _ _ _ _ _ _ _ _ _ _ _ _ _ _ _ _ _ _ _ _ _ _ _ _ _ _ _ _ _ _ _ _ _ _ _ _ _ _ _ _ _ _ _ _ _ _ _ _ _ _ _ _ _ _ _ _ _ _ _ _ _ _ _ _ _ _ _ _ _ _ _ _ _ _ _ _ _ _ _ _ _ _ _ _ _ _ _ _ _ _ _ _ _ _ _ _ _ _ _ _ _ _ _ _ _ _ _ _ _ _ _ _ _ _ _ _ _ _ _ _ _ _ _ _ _ _ _ _ _ _ _ _ _ _ _ _ _ _ _ _ _ _ _ _ _ _ _ _ _ _ _ _ _ _ _ _ _ _ _ _ _ _ HF.out
      · have j1 : ¬ (k : Int) < (n : Int) := by omega
        clear k2 hk hk4 hkl h1 HI
        go_wp2
        exact HX.out _ _ _ _ _ _ _ _ _ _ _ _ _ _ _ _ _ _ _ _ _ _ _ _ _ _ _ _ _ _ _ _ _ _ _ _ _ _ _ _ _ _ _ _ _ _ _ _ _ _ _ _ _ _ _ _ _ _ _ _ _ _ _ _ _ _ _ _ _ _ _ _ _ _ _ _ _ _ _ _ _ _ _ _ _ _ _ _ _ _ _ _ _ _ _ _ _ _ _ _ _ _ _ _ _ _ _ _ _ _ _ _ _ _ _ _ _ _ _ _ _ _ _ _ _ _ _ _ _ _ _ _ _ _ _ _ _ _ _ _ _ _ _ _ _ _ _ _ _ _ _ _ _ _ _ _ _ _ _ _ _ _ _ _ _ _ _ _ _ _ _ _ _ _ _ _ _ _ _ _ _ _ _ _ _ _ _ _ _ _ _ _ _ _ _ _ _ _ _ _ _ _ _ _ _ _ _ _ _ _ _ _ _ _ _ _ _ _ _ _ _ _ _ _ _ _ HF.out
end Go.Proofs.YtoceglbdnbnjpaaDoor
