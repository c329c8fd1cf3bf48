/- The document's OverTree, walked. -/
import Derived.Test.YtelcflmjagjbfaaGreatDoorTe7
namespace Go.Proofs.YtelcflmjagjbfaaGreatDoor
open Go.RowKit Go.Shelf Go.Maps Go.WideMaps Go.Sort
attribute [local go_sem ↓] appS_eq

theorem set_map {L : List Fl} (f : Fl) (hn : (L.map pth).Nodup) (j : Nat) (hj : j < L.length) (h : pth L[j] = pth f) : (L.map fun g => if pth g = pth f then f else g) = L.set j f := by
  refine List.ext_getElem (by simp) fun i h1 h2 => ?_
  have hi : i < L.length := by simpa using h1
  rw [List.getElem_map, List.getElem_set]
  by_cases e : j = i
  · subst e
    rw [if_pos h, if_pos rfl]
  · rw [if_neg e, if_neg]
    intro e2
    have hp := List.pairwise_iff_getElem.1 hn
    rcases Nat.lt_trichotomy i j with hij | hij | hij
    · exact absurd (by rw [List.getElem_map, List.getElem_map, e2, h]) (hp i j (by simpa using hi) (by simpa using hj) hij)
    · exact e hij.symm
    · exact absurd (by rw [List.getElem_map, List.getElem_map, e2, h]) (hp j i (by simpa using hj) (by simpa using hi) hij)
theorem lt_nodup {L : List Fl} (h : L.Pairwise fun a b => pth a < pth b) : (L.map pth).Nodup := List.pairwise_map.2 (h.imp fun hh e => by rw [e] at hh; exact List.lt_irrefl _ hh)
theorem putF_yes {L : List Fl} {f : Fl} (h : L.Pairwise fun a b => pth a < pth b) (j : Nat) (hj : j < L.length) (he : pth L[j] = pth f) : putF L f = L.set j f := by
  unfold putF
  rw [if_pos ((hasP_iff L _).2 ⟨L[j], List.getElem_mem hj, he⟩)]
  exact set_map f (lt_nodup h) j hj he
theorem putF_no {L : List Fl} {f : Fl} (h : ∀ g ∈ L, pth g ≠ pth f) : putF L f = insF f L := by
  unfold putF
  rw [if_neg]
  intro h2
  obtain ⟨g, hg, e⟩ := (hasP_iff L _).1 h2
  exact h g hg e
theorem insF_len (f : Fl) : ∀ L : List Fl, (insF f L).length = L.length + 1
  | [] => rfl
  | g :: l => by
    unfold insF
    split
    · rw [List.length_cons, insF_len f l, List.length_cons]
    · simp
theorem ovR_len (A C : List Fl) : (ovR A C).length ≤ A.length + C.length := by
  refine snocInd (P := fun C => (ovR A C).length ≤ A.length + C.length) (by simp [ovR]) (fun l a ih => ?_) C
  rw [ovR_snoc, List.length_append]
  unfold putF
  split
  · rw [List.length_map]
    omega
  · rw [insF_len]
    simp
    omega
/-- Whoever goes through a file does so in the one over the other, too. -/
theorem thru_mem (L M : List Fl) : thruF L M = true ↔ ∃ f ∈ L, ∃ g ∈ M, inB f.pa g.pa = true := by
  unfold thruF
  simp only [List.any_eq_true]
theorem fit_no {L : List Fl} (h : okT L) {f g : Fl} (hf : f ∈ L) (hg : g ∈ L) : inB f.pa g.pa = false := by
  obtain ⟨i, hi, rfl⟩ := List.getElem_of_mem hf
  obtain ⟨j, hj, rfl⟩ := List.getElem_of_mem hg
  have hp := List.pairwise_iff_getElem.1 h.2.2
  rcases Nat.lt_trichotomy i j with hij | hij | hij
  · exact (hp i j hi hj hij).2.2
  · subst hij; exact inB_self _
  · exact (hp j i hj hi hij).2.1
theorem same_pa {f g : Fl} (h : pth f = pth g) : f.pa = g.pa := bytes_ext h
theorem thru_ov {A C X : List Fl} (hA : okT A) (hC : okT C) (hX : ∀ f, f ∈ X ↔ f ∈ ovU A C) : thruF X X = (thruF A C || thruF C A) := by
  rw [Bool.eq_iff_iff, Bool.or_eq_true, thru_mem, thru_mem, thru_mem]
  constructor
  · rintro ⟨f, hf, g, hg, h⟩
    rw [hX, ovU_mem] at hf hg
    rcases hf with ⟨hf, _⟩ | hf
    · rcases hg with ⟨hg, _⟩ | hg
      · rw [fit_no hA hf hg] at h; cases h
      · exact .inl ⟨f, hf, g, hg, h⟩
    · rcases hg with ⟨hg, _⟩ | hg
      · exact .inr ⟨f, hf, g, hg, h⟩
      · rw [fit_no hC hf hg] at h; cases h
  · have key : ∀ a ∈ A, (∃ c ∈ C, pth c = pth a) ∨ (hasP C (pth a) = false) := fun a _ => by
      cases e : hasP C (pth a) with
      | true => exact .inl ((hasP_iff C _).1 e)
      | false => exact .inr rfl
    rintro (⟨f, hf, g, hg, h⟩ | ⟨f, hf, g, hg, h⟩)
    · rcases key f hf with ⟨c, hc, e⟩ | e
      · rw [← same_pa e, fit_no hC hc hg] at h; cases h
      · exact ⟨f, (hX f).2 ((ovU_mem A C f).2 (.inl ⟨hf, e⟩)), g, (hX g).2 ((ovU_mem A C g).2 (.inr hg)), h⟩
    · rcases key g hg with ⟨c, hc, e⟩ | e
      · rw [← same_pa e, fit_no hC hf hc] at h; cases h
      · exact ⟨f, (hX f).2 ((ovU_mem A C f).2 (.inr hf)), g, (hX g).2 ((ovU_mem A C g).2 (.inl ⟨hg, e⟩)), h⟩

/-- What the document's OverTree answers of two trees. -/
def oeD (A C : List Fl) : Int := if thruF (ovF A C) (ovF A C) = true then 6 else if 60 < (ovF A C).length then 2 else 0
def olD (A C : List Fl) : List Fl := if thruF (ovF A C) (ovF A C) = true then [] else if 60 < (ovF A C).length then [] else ovF A C
/-- How it stands behind so many files of the second. -/
def OvI (A C : List Fl) (w : World) (k : Nat) (ov : Value) (wr : World) : Prop := ∃ g c, ov = .slice (some ⟨g, 0, none⟩) (ovR A (C.take k)).length c ∧ wr.ownsRow w.heap.size 30 3 (.slice (some ⟨g, 0, none⟩) (ovR A (C.take k)).length c) (ovR A (C.take k)).length (flCells (ovR A (C.take k))) ∧ Below w.heap.size w wr
theorem own_fz {w : World} {B g n c : Nat} {e : TypeId} {s : Nat} {xs : List Value} (h : w.ownsRow B e s (.slice (some ⟨g, 0, none⟩) n c) n xs) (j : Nat) : w.frozen? ⟨g, j, none⟩ = false := by
  rcases h.2 with ⟨e, _⟩ | ⟨g', c', cur, e, _, hb, _⟩
  · cases e
  · injection e with e1 _ _
    injection e1 with e1
    injection e1 with e1
    subst e1
    simp only [World.frozen?]
    rw [hb]
    simp

set_option maxHeartbeats 16000000 in
set_option maxRecDepth 100000 in
theorem OverTree_any (ao co : Option Addr) (ac cc : Nat) (A C : List Fl) (w : World) (ha : IsFl w ao A) (hc : IsFl w co C) (hA : okT A) (hC : okT C) :
    Calls Tryz.prog 16 #[.slice ao A.length ac, .slice co C.length cc] w (RsP (oeD A C) (olD A C) w) := by
  obtain ⟨g0, c0, w0, hcp, hr0, hb0⟩ := copyF (ac := ac) ha (by have := hA.1; omega)
  have HI0 : Hid (OvI A C w 0 (.slice (some ⟨g0, 0, none⟩) A.length c0) w0) := ⟨g0, c0, rfl, hr0, hb0⟩
  have HC : Hid (IsFl w co C) := hc
  have HUp : Hid (∀ k, (ovR A (C.take k)).Pairwise fun a b => pth a < pth b) := fun k => ovR_up _ _ (hA.2.2.imp fun h => h.1)
  have HLn : Hid (∀ k, (ovR A (C.take k)).length ≤ 120) := fun k => by
    have h1 := ovR_len A (C.take k)
    rw [List.length_take] at h1
    have := hA.1
    have := hC.1
    omega
  have hn2 : (C.length : Int) ≤ 60 := by have := hC.1; omega
  have HEnd : Hid (ovR A C = ovF A C) := ov_same (hA.2.2.imp fun h => h.1) (okT_nodup0 hC)
  clear ha hc hA hC hr0 hb0
  go_enter Tryz.func16, Tryz.ntmps16
  go_wp2
  go_loopw [6, 7] (fun v i wr => ∃ k : Nat, k ≤ C.length ∧ i = .int .i64 (k : Int) ∧ Hid (OvI A C w k v wr)) (fun _ i _ => C.length - (RowKit.intOf i).toNat)
  case atStart => exact ⟨0, Nat.zero_le _, rfl, HI0⟩
  case round =>
    obtain ⟨k, hk, rfl, HI⟩ := hrel
    by_cases hlt : k < C.length
    · have hki : (k : Int) < (C.length : Int) := by omega
      obtain ⟨g, c, rfl, hrow, hb⟩ := HI.out
      obtain ⟨k1, hk1⟩ : ∃ k1, k1 = k + 1 := ⟨_, rfl⟩
      have ek1 : (k : Int) + 1 = (k1 : Int) := by omega
      have ek2 : IntKind.i64.wrap (k1 : Int) = (k1 : Int) := by rw [IntKind.wrap_i64]; omega
      have HK1 : Hid (k1 = k + 1 ∧ k < C.length) := ⟨hk1, hlt⟩
      rcases HC.out.below hb (Nat.le_refl _) with h | ⟨gc, oc, rfl, hgc, hcc⟩
      · exfalso; rw [h] at hlt; exact absurd hlt (by simp)
      obtain ⟨d0, d1, d2⟩ := hcc k hlt
      have HPut : Hid (ovR A (C.take (k + 1)) = putF (ovR A (C.take k)) C[k]) := by
        show _ = _
        rw [List.take_succ_eq_append_getElem hlt, ovR_snoc]
      have hup := HUp.out k
      have hln := HLn.out k
      have HFa : Hid (Calls Tryz.prog 21 #[.slice (some ⟨g, 0, none⟩) (ovR A (C.take k)).length c, .string (C[k]).pa] wr fun e w' => ∃ i, e = .returned (.int .i64 i) ∧ FaR (ovR A (C.take k)) (C[k]).pa.data.toList i ∧ w' = wr) := FileAt_any _ c _ (C[k]).pa wr (own_files hrow rfl) (by omega)
      have HRow : Hid (wr.ownsRow w.heap.size 30 3 (.slice (some ⟨g, 0, none⟩) (ovR A (C.take k)).length c) (ovR A (C.take k)).length (flCells (ovR A (C.take k))) ∧ Below w.heap.size w wr) := ⟨hrow, hb⟩
      clear hcc hk1
      generalize C[k] = f at *
      obtain ⟨X, hX⟩ : ∃ X, X = ovR A (C.take k) := ⟨_, rfl⟩
      have HX : Hid (X = ovR A (C.take k)) := hX
      rw [← hX] at hup hln HFa HRow HPut ⊢
      clear hX hrow hb HI
      go_wp2_with fail
      refine HFa.out.mono ?_
      rintro e w1 ⟨i, rfl, hfa, hw1⟩
      subst hw1
      clear HFa
      rcases hfa with ⟨rfl, hno⟩ | ⟨j, hj, rfl, hpj, _⟩
      · have HAd : Hid (Calls Tryz.prog 34 #[.slice (some ⟨g, 0, none⟩) X.length c, .agg #[.string f.pa, .string f.tx, .bool f.rn]] w1 (AfP w.heap.size (insF f X) w1)) := AddFile_any w.heap.size g c X f w1 HRow.out.1 (by omega) HRow.out.2.size
        have HZ : Hid (ovR A (C.take (k + 1)) = insF f X) := HPut.out.trans (putF_no hno)
        clear hno hup
        go_wp2_with fail
        refine HAd.out.mono ?_
        rintro e w2 ⟨g2, c2, rfl, hr2, hb2, _⟩
        have HN : Hid (OvI A C w (k + 1) (.slice (some ⟨g2, 0, none⟩) (insF f X).length c2) w2) := ⟨g2, c2, by rw [HZ.out], by rw [HZ.out]; exact hr2, HRow.out.2.trans (hb2.mono HRow.out.2.size)⟩
        clear hr2 hb2 HAd
        go_wp2
        refine ⟨⟨k1, by have := HK1.out; omega, rfl, by rw [HK1.out.1]; exact HN⟩, ?_⟩
        have := HK1.out
        simp [RowKit.intOf]; omega
      · have HZ : Hid (ovR A (C.take (k + 1)) = X.set j f) := HPut.out.trans (putF_yes hup j hj hpj)
        have hji : (j : Int) < (X.length : Int) := by omega
        obtain ⟨e0, e1, e2⟩ := flAt_own HRow.out.1 rfl j hj
        simp only [Nat.zero_add] at e0 e1 e2
        have z0 := own_fz HRow.out.1 (j * 3)
        have z1 := own_fz HRow.out.1 (j * 3 + 1)
        have z2 := own_fz HRow.out.1 (j * 3 + 2)
        have hlo : w.heap.size ≤ g := (HRow.out.1.lt g rfl).1
        have HN : Hid (OvI A C w (k + 1) (.slice (some ⟨g, 0, none⟩) X.length c) (((w1.setCell ⟨g, j * 3, none⟩ (.string f.pa)).setCell ⟨g, j * 3 + 1, none⟩ (.string f.tx)).setCell ⟨g, j * 3 + 2, none⟩ (.bool f.rn))) := by
          refine ⟨g, c, by rw [HZ.out, List.length_set], ?_, ?_⟩
          · rw [HZ.out, List.length_set]
            exact setRow HRow.out.1 f j hj
          · have hB := HRow.out.2
            refine ⟨hB.os, hB.tape, hB.output, by simpa [World.setCell] using hB.size, fun b hb => ?_⟩
            have hbg : b ≠ g := by omega
            rw [Below.heap_setCell _ _ _ _ hbg, Below.heap_setCell _ _ _ _ hbg, Below.heap_setCell _ _ _ _ hbg]
            exact hB.block b hb
        clear hup hpj hlo
        generalize X[j] = xj at *
        clear hj
        go_wp2
        refine ⟨⟨k1, by have := HK1.out; omega, rfl, by rw [HK1.out.1]; exact HN⟩, ?_⟩
        have := HK1.out
        simp [RowKit.intOf]; omega
    · obtain rfl : k = C.length := by omega
      have k2 : ¬ (C.length : Int) < (C.length : Int) := by omega
      clear hk hlt
      obtain ⟨g, c, rfl, hrow, hb⟩ := HI.out
      have hln := HLn.out C.length
      rw [List.take_length] at hrow hln ⊢
      rw [HEnd.out] at hrow hln ⊢
      have HW : Hid (wr.ownsRow w.heap.size 30 3 (.slice (some ⟨g, 0, none⟩) (ovF A C).length c) (ovF A C).length (flCells (ovF A C)) ∧ Below w.heap.size w wr) := ⟨hrow, hb⟩
      have HF : Hid (FlAt g 0 (ovF A C) wr) := flAt_own hrow rfl
      have HD : Hid (oeD A C = (if thruF (ovF A C) (ovF A C) = true then 6 else if 60 < (ovF A C).length then 2 else 0) ∧ olD A C = if thruF (ovF A C) (ovF A C) = true then [] else if 60 < (ovF A C).length then [] else ovF A C) := ⟨rfl, rfl⟩
      have HII : Hid (∀ (p d : ByteArray) (W : World), Calls Tryz.prog 11 #[.string d, .string p] W fun e w' => e = .returned (.bool (inB p d)) ∧ w' = W) := fun p d W => RIsInside_any p d W
      generalize oeD A C = er at *
      generalize olD A C = rl at *
      clear hrow hb HI HEnd HUp HLn HI0
      generalize ovF A C = X at *
      have hn3 : (X.length : Int) ≤ 120 := by omega
      obtain ⟨w9, hw9⟩ : ∃ w9, w9 = wr := ⟨_, rfl⟩
      rw [← hw9] at HW HF ⊢
      clear hw9
      go_wp2
      go_loopw [9] (fun i wr => ∃ k m : Nat, k ≤ X.length ∧ i = .int .i64 (k : Int) ∧ wr = w9.drewN m ∧ Hid (∀ a (h1 : a < X.length) b (h2 : b < X.length), a < k → inB X[b].pa X[a].pa = false)) (fun i _ => X.length - (RowKit.intOf i).toNat)
      case atStart => exact ⟨0, 0, Nat.zero_le _, rfl, rfl, fun a _ _ _ h => absurd h (by omega)⟩
      case round =>
        obtain ⟨k, m, hk, rfl, rfl, HNo⟩ := hrel
        by_cases hlt : k < X.length
        · have hki : (k : Int) < (X.length : Int) := by omega
          obtain ⟨k1, hk1⟩ : ∃ k1, k1 = k + 1 := ⟨_, rfl⟩
          have ek1 : (k : Int) + 1 = (k1 : Int) := by omega
          have ek2 : IntKind.i64.wrap (k1 : Int) = (k1 : Int) := by rw [IntKind.wrap_i64]; omega
          have HK1 : Hid (k1 = k + 1 ∧ k < X.length) := ⟨hk1, hlt⟩
          have ck : w9.cell? ⟨g, k * 3, none⟩ = some (.string X[k].pa) := by
            have := (HF.out k hlt).1
            rwa [Nat.zero_add] at this
          clear hk1
          go_wp2
          go_loopw [10] (fun i wr => ∃ q n : Nat, q ≤ X.length ∧ i = .int .i64 (q : Int) ∧ wr = w9.drewN n ∧ Hid (∀ b (h2 : b < X.length), b < q → inB X[b].pa X[k].pa = false)) (fun i _ => X.length - (RowKit.intOf i).toNat)
          case atStart => exact ⟨0, m, Nat.zero_le _, rfl, rfl, fun b _ h => absurd h (by omega)⟩
          case round =>
            obtain ⟨q, n, hq, rfl, rfl, HQ⟩ := hrel
            by_cases hqt : q < X.length
            · have hqi : (q : Int) < (X.length : Int) := by omega
              obtain ⟨q1, hq1⟩ : ∃ q1, q1 = q + 1 := ⟨_, rfl⟩
              have eq1 : (q : Int) + 1 = (q1 : Int) := by omega
              have eq2 : IntKind.i64.wrap (q1 : Int) = (q1 : Int) := by rw [IntKind.wrap_i64]; omega
              have HQ1 : Hid (q1 = q + 1 ∧ q < X.length) := ⟨hq1, hqt⟩
              have cq : w9.cell? ⟨g, q * 3, none⟩ = some (.string X[q].pa) := by
                have := (HF.out q hqt).1
                rwa [Nat.zero_add] at this
              clear hq1
              obtain ⟨wx, hwx⟩ : ∃ wx, wx = w9.drewN n := ⟨_, rfl⟩
              have HWX : Hid (wx = w9.drewN n) := hwx
              have ckx : wx.cell? ⟨g, k * 3, none⟩ = some (.string X[k].pa) := by rw [hwx]; exact ck
              have cqx : wx.cell? ⟨g, q * 3, none⟩ = some (.string X[q].pa) := by rw [hwx]; exact cq
              rw [← hwx]
              clear hwx cq
              cases hin : inB X[q].pa X[k].pa with
              | true =>
                have HT : Hid (thruF X X = true) := (thru_mem X X).2 ⟨X[q], List.getElem_mem hqt, X[k], List.getElem_mem hlt, hin⟩
                have HC2 : Hid (∀ W : World, Calls Tryz.prog 11 #[.string X[k].pa, .string X[q].pa] W fun e w' => e = .returned (.bool true) ∧ w' = W) := fun W => hin ▸ HII.out X[q].pa X[k].pa W
                clear hin
                clear ck
                generalize X[q].pa = pq at *
                generalize X[k].pa = pk9 at *
                go_wp2
                go_quiet (first | (go_at_call 11; exact Calls.quiet_of_same (HC2.out _)))
                go_wp2
                refine bodyPost_ret (v := .tuple #[.slice none 0 0, .int .i64 6]) (by simp [results, Tryz.results16, go_sem]) rfl ?_
                rw [HD.out.1, HD.out.2, if_pos HT.out, if_pos HT.out]
                rw [HWX.out]
                exact RsP_nil 6 (below_drewN (below_drewN HW.out.2 _) _)
              | false =>
                have HQ2 : Hid (∀ b (h2 : b < X.length), b < q1 → inB X[b].pa X[k].pa = false) := fun b h2 hb => by
                  by_cases e : b < q
                  · exact HQ.out b h2 e
                  · have e2 : b = q := by have := HQ1.out; omega
                    subst e2
                    exact hin
                have HC2 : Hid (∀ W : World, Calls Tryz.prog 11 #[.string X[k].pa, .string X[q].pa] W fun e w' => e = .returned (.bool false) ∧ w' = W) := fun W => hin ▸ HII.out X[q].pa X[k].pa W
                clear hin
                clear ck
                generalize X[q].pa = pq at cqx HC2
                obtain ⟨pk9, hpk⟩ : ∃ p9, p9 = X[k].pa := ⟨_, rfl⟩
                rw [← hpk] at ckx HC2
                clear hpk
                go_wp2
                go_quiet (first | (go_at_call 11; exact Calls.quiet_of_same (HC2.out _)))
                go_wp2
                refine ⟨⟨q1, n + nq, by have := HQ1.out; omega, rfl, by rw [HWX.out, World.drewN_drewN], HQ2⟩, ?_⟩
                have := HQ1.out
                simp [RowKit.intOf]; omega
            · obtain rfl : q = X.length := by omega
              have k3 : ¬ (X.length : Int) < (X.length : Int) := by omega
              have HN2 : Hid (∀ a (h1 : a < X.length) b (h2 : b < X.length), a < k1 → inB X[b].pa X[a].pa = false) := fun a h1 b h2 ha => by
                by_cases e : a < k
                · exact HNo.out a h1 b h2 e
                · have e2 : a = k := by have := HK1.out; omega
                  subst e2
                  exact HQ.out b h2 h2
              go_wp2
              refine ⟨⟨k1, n, by have := HK1.out; omega, rfl, rfl, HN2⟩, ?_⟩
              have := HK1.out
              simp [RowKit.intOf]; omega
        · obtain rfl : k = X.length := by omega
          have k3 : ¬ (X.length : Int) < (X.length : Int) := by omega
          have hT : ¬ thruF X X = true := fun h => by
            obtain ⟨f, hf, g2, hg2, h2⟩ := (thru_mem X X).1 h
            obtain ⟨b, hb, rfl⟩ := List.getElem_of_mem hf
            obtain ⟨a, ha, rfl⟩ := List.getElem_of_mem hg2
            rw [HNo.out a ha b hb ha] at h2
            cases h2
          rw [if_neg hT, if_neg hT] at HD
          clear hT
          by_cases hln2 : 60 < X.length
          · rw [if_pos hln2, if_pos hln2] at HD
            have hli : (60 : Int) < (X.length : Int) := by omega
            clear hln2
            go_wp2
            refine bodyPost_ret (v := .tuple #[.slice none 0 0, .int .i64 2]) (by simp [results, Tryz.results16, go_sem]) rfl ?_
            rw [HD.out.1, HD.out.2]
            exact RsP_nil 2 (below_drewN HW.out.2 _)
          · rw [if_neg hln2, if_neg hln2] at HD
            have hli : ¬ (60 : Int) < (X.length : Int) := by omega
            clear hln2
            go_wp2
            refine bodyPost_ret (v := .tuple #[.slice (some ⟨g, 0, none⟩) X.length c, .int .i64 0]) (by simp [results, Tryz.results16, go_sem]) rfl ?_
            rw [HD.out.1, HD.out.2]
            exact ⟨_, c, rfl, row_heap HW.out.1 fun b hb => rfl, below_drewN HW.out.2 _⟩
end Go.Proofs.YtelcflmjagjbfaaGreatDoor

/- Files that are the same, as the laws ask it; what is wrong with two trees. -/
namespace Go.Proofs.YtelcflmjagjbfaaGreatDoor
open Go.RowKit Go.Shelf Go.Sort

set_option maxHeartbeats 2000000 in
set_option maxRecDepth 100000 in
theorem filesAre_ok (er : Int) (xa ya : Option Addr) (xc yc : Nat) (X Y : List Fl) (w : World) (hn : X.length ≤ 4611686018427387904) (hx : IsFl w xa X) (hy : IsFl w ya Y) (h1 : er ≠ 0 → X = []) (h2 : er = 0 → X = Y) :
    Calls Tryz.prog 13 #[.slice xa X.length xc, .int .i64 er, .int .i64 er, .slice ya Y.length yc] w fun e w' => e = .returned (.bool true) ∧ Below w.heap.size w w' := by
  by_cases h0 : er = 0
  · obtain rfl := h2 h0
    subst h0
    have HS : Hid (Calls Tryz.prog 20 #[.slice xa X.length xc, .slice ya X.length yc] w (SmP X X w)) := SameFiles_any xa ya xc yc X X w hn hx hy
    clear hx hy h1 h2
    go_enter Tryz.func13, Tryz.ntmps13
    go_wp2_with fail
    refine HS.out.mono ?_
    rintro e w1 ⟨b, rfl, hb, n, rfl⟩
    rw [hb.2 rfl]
    clear hb
    go_wp2
    go_ret
    exact ⟨rfl, below_drewN (Below.refl _ _) n⟩
  · obtain rfl := h1 h0
    have HS : Hid (Calls Tryz.prog 20 #[.slice xa 0 xc, .slice none 0 0] w (SmP [] [] w)) := SameFiles_any xa none xc 0 [] [] w (by decide) (.inl rfl) (.inl rfl)
    have h0' : (er != 0) = true := by simpa using h0
    clear hx hy h1 h2 h0
    rw [show ([] : List Fl).length = 0 from rfl]
    go_enter Tryz.func13, Tryz.ntmps13
    go_wp2_with fail
    refine HS.out.mono ?_
    rintro e w1 ⟨b, rfl, hb, n, rfl⟩
    rw [hb.2 rfl]
    clear hb
    go_wp2
    go_ret
    exact ⟨rfl, below_drewN (Below.refl _ _) n⟩

set_option maxHeartbeats 2000000 in
set_option maxRecDepth 100000 in
theorem twoTrees_any (ao co : Option Addr) (ac cc : Nat) (A C : List Fl) (w : World) (ha : IsFl w ao A) (hc : IsFl w co C) :
    Calls Tryz.prog 15 #[.slice ao A.length ac, .slice co C.length cc] w fun e w' => e = .returned (.int .i64 (erF A C)) ∧ Below w.heap.size w w' := by
  have HA : Hid (Calls Tryz.prog 9 #[.slice ao A.length ac] w fun e w' => e = .returned (.int .i64 (chF A)) ∧ Below w.heap.size w w') := RCheck_any ao ac A w ha
  have HC : Hid (∀ W, Below w.heap.size w W → Calls Tryz.prog 9 #[.slice co C.length cc] W fun e w' => e = .returned (.int .i64 (chF C)) ∧ Below W.heap.size W w') := fun W hW => RCheck_any co cc C W (hc.below hW (Nat.le_refl _))
  unfold erF
  clear ha hc
  by_cases h1 : chF A = 0
  · rw [if_pos h1]
    rw [h1] at HA
    generalize chF C = c at *
    clear h1
    go_enter Tryz.func15, Tryz.ntmps15
    go_wp2_with fail
    refine HA.out.mono ?_
    rintro e w1 ⟨rfl, hb1⟩
    have HB1 : Hid (Below w.heap.size w w1) := hb1
    clear hb1
    go_wp2_with fail
    refine (HC.out _ HB1.out).mono ?_
    rintro e w2 ⟨rfl, hb2⟩
    have HB2 : Hid (Below w.heap.size w w2) := HB1.out.trans (hb2.mono HB1.out.size)
    clear hb2
    go_wp2
    go_ret
    exact ⟨rfl, HB2.out⟩
  · rw [if_neg h1]
    generalize chF A = c at *
    have h1' : (c == 0) = false := by simpa using h1
    clear h1
    go_enter Tryz.func15, Tryz.ntmps15
    go_wp2_with fail
    refine HA.out.mono ?_
    rintro e w1 ⟨rfl, hb1⟩
    have HB1 : Hid (Below w.heap.size w w1) := hb1
    clear hb1
    go_wp2
    go_ret
    exact ⟨rfl, HB1.out⟩
end Go.Proofs.YtelcflmjagjbfaaGreatDoor

/- The document's Directory, plain: its names, nodes and texts. -/
namespace Go.Proofs.YtelcflmjagjbfaaGreatDoor
open Go.RowKit Go.Shelf Go.Maps Go.WideMaps Go.Sort

theorem sl_at : ∀ (a b : List UInt8), (47 : UInt8) ∉ a → sl (a ++ 47 :: b) = some (a, b)
  | [], b, _ => by simp [sl]
  | c :: a, b, h => by
    simp only [List.mem_cons, not_or] at h
    rw [List.cons_append]
    unfold sl
    rw [if_neg (fun e => h.1 e.symm), sl_at a b h.2]
    rfl
theorem sl_nil : ∀ a : List UInt8, (47 : UInt8) ∉ a → sl a = none
  | [], _ => rfl
  | c :: a, h => by
    simp only [List.mem_cons, not_or] at h
    show (if c = 47 then _ else _) = _
    rw [if_neg (fun e => h.1 e.symm), sl_nil a h.2]
    rfl
theorem deep_of {f : Fl} {m r : List UInt8} (hm : (47 : UInt8) ∉ m) (h : pth f = m ++ 47 :: r) : deepF f = true ∧ hdF f = m ∧ pth (subF f) = r := by
  have e := sl_at m r hm
  rw [← h] at e
  unfold deepF hdF subF
  rw [e]
  exact ⟨rfl, rfl, rfl⟩
theorem top_of {f : Fl} (hm : (47 : UInt8) ∉ pth f) : deepF f = false ∧ hdF f = pth f := by
  have e := sl_nil _ hm
  unfold deepF hdF
  rw [e]
  exact ⟨rfl, rfl⟩
theorem fl_ext {f g : Fl} (h1 : pth f = pth g) (h2 : f.tx = g.tx) (h3 : f.rn = g.rn) : f = g := by
  obtain ⟨p, t, r⟩ := f
  obtain ⟨p2, t2, r2⟩ := g
  simp only at h2 h3
  have h4 : p = p2 := bytes_ext h1
  rw [h4, h2, h3]
theorem cut_pth {f : Fl} {d : ByteArray} {r : List UInt8} (h : pth f = d.data.toList ++ 47 :: r) : pth (cutP d f) = r := by
  show (f.pa.extract (d.size + 1) f.pa.size).data.toList = r
  have e : (f.pa.extract (d.size + 1) f.pa.size).data.toList = (pth f).drop (d.size + 1) := by
    have : (pth f).length = f.pa.size := Array.length_toList
    simp only [pth, ByteArray.data_extract, Array.toList_extract, List.extract_eq_take_drop]
    rw [List.take_of_length_le]
    rw [List.length_drop]
    have : f.pa.data.toList.length = f.pa.size := Array.length_toList
    omega
  rw [e, h]
  have hl : d.data.toList.length = d.size := Array.length_toList
  rw [List.drop_append, hl, List.drop_eq_nil_of_le (by omega), List.nil_append, show d.size + 1 - d.size = 1 from by omega]
  rfl
theorem subF_rn (f : Fl) : (subF f).rn = f.rn := by unfold subF; cases sl (pth f) <;> rfl
theorem hd_slash (f : Fl) : (47 : UInt8) ∉ hdF f := by
  unfold hdF
  cases h : sl (pth f) with
  | none => exact sl_none h
  | some x => exact (sl_some (a := x.1) (b := x.2) h).2

/-- The files of the directory with a path. -/
def dv (d : ByteArray) (L : List Fl) : List Fl := if d.data.toList = [] then L else undF L d
/-- The path of what has a name there. -/
def pj (d : ByteArray) (m : List UInt8) : ByteArray := if d.data.toList = [] then ⟨m.toArray⟩ else ⟨(d.data.toList ++ 47 :: m).toArray⟩
theorem dv_none (L : List Fl) : dv ⟨#[]⟩ L = L := if_pos rfl
theorem pj_list (d : ByteArray) (m : List UInt8) : (pj d m).data.toList = if d.data.toList = [] then m else d.data.toList ++ 47 :: m := by
  unfold pj
  split <;> rfl
theorem pj_ne (d : ByteArray) {m : List UInt8} (hm : m ≠ []) : (pj d m).data.toList ≠ [] := by
  rw [pj_list]
  split
  · exact hm
  · simp
theorem und_sub (L : List Fl) (m : List UInt8) (hm : (47 : UInt8) ∉ m) : undF L ⟨m.toArray⟩ = sub m L := by
  unfold undF sub
  have e : (L.filter fun f => inB f.pa ⟨m.toArray⟩) = L.filter fun f => deepF f && decide (hdF f = m) := by
    refine List.filter_congr fun f _ => ?_
    rw [Bool.eq_iff_iff, inB_list, Bool.and_eq_true, decide_eq_true_eq]
    constructor
    · rintro ⟨r, hr⟩
      obtain ⟨h1, h2, _⟩ := deep_of (f := f) (m := m) (r := r) hm hr
      exact ⟨h1, h2⟩
    · rintro ⟨h1, h2⟩
      have := (deep_sl h1).2
      rw [h2] at this
      exact ⟨_, this⟩
  rw [e]
  refine List.map_congr_left fun f hf => ?_
  rw [List.mem_filter, Bool.and_eq_true, decide_eq_true_eq] at hf
  have h1 := (deep_sl hf.2.1).2
  rw [hf.2.2] at h1
  exact fl_ext (cut_pth (d := ⟨m.toArray⟩) h1) (subF_tx f).symm (subF_rn f).symm
theorem in_in (f : Fl) (d : ByteArray) (m : List UInt8) (hm : (47 : UInt8) ∉ m) (D : ByteArray) (hD : D.data.toList = d.data.toList ++ 47 :: m) : inB f.pa D = true ↔ ((deepF (cutP d f) && decide (hdF (cutP d f) = m)) = true ∧ inB f.pa d = true) := by
  rw [inB_list, inB_list, Bool.and_eq_true, decide_eq_true_eq, hD]
  constructor
  · rintro ⟨r, hr⟩
    have hr2 : pth f = d.data.toList ++ 47 :: (m ++ 47 :: r) := by
      show f.pa.data.toList = _
      rw [hr, List.append_assoc, List.cons_append]
    obtain ⟨h1, h2, _⟩ := deep_of hm (cut_pth hr2)
    exact ⟨⟨h1, h2⟩, _, hr2⟩
  · rintro ⟨⟨h1, h2⟩, r, hr⟩
    have hr1 : pth f = d.data.toList ++ 47 :: r := hr
    have h3 := (deep_sl h1).2
    rw [h2, cut_pth hr1] at h3
    exact ⟨pth (subF (cutP d f)), by rw [hr, List.append_assoc, List.cons_append, ← h3]⟩
theorem cut_cut (f : Fl) (d : ByteArray) (m : List UInt8) (D : ByteArray) (hD : D.data.toList = d.data.toList ++ 47 :: m) (h1 : deepF (cutP d f) = true) (h2 : hdF (cutP d f) = m) (h3 : inB f.pa d = true) : cutP D f = subF (cutP d f) := by
  obtain ⟨r, hr⟩ := (inB_list _ _).1 h3
  have hr1 : pth f = d.data.toList ++ 47 :: r := hr
  have h4 := (deep_sl h1).2
  rw [h2, cut_pth hr1] at h4
  have h5 : pth f = D.data.toList ++ 47 :: pth (subF (cutP d f)) := by
    rw [hr1, hD, List.append_assoc, List.cons_append, ← h4]
  exact fl_ext (cut_pth h5) (show f.tx = (subF (cutP d f)).tx from (subF_tx (cutP d f)).symm) (show f.rn = (subF (cutP d f)).rn from (subF_rn (cutP d f)).symm)
theorem und_und (L : List Fl) (d : ByteArray) (m : List UInt8) (hm : (47 : UInt8) ∉ m) (D : ByteArray) (hD : D.data.toList = d.data.toList ++ 47 :: m) : undF L D = sub m (undF L d) := by
  induction L with
  | nil => rfl
  | cons f l ih =>
    have e1 : undF (f :: l) D = if inB f.pa D = true then cutP D f :: undF l D else undF l D := by
      unfold undF
      by_cases h : inB f.pa D = true
      · rw [if_pos h]; simp [h]
      · rw [if_neg h]; simp [h]
    have e2 : undF (f :: l) d = if inB f.pa d = true then cutP d f :: undF l d else undF l d := by
      unfold undF
      by_cases h : inB f.pa d = true
      · rw [if_pos h]; simp [h]
      · rw [if_neg h]; simp [h]
    have e3 : ∀ (g : Fl) (S : List Fl), sub m (g :: S) = if (deepF g && decide (hdF g = m)) = true then subF g :: sub m S else sub m S := fun g S => by
      unfold sub
      by_cases h : (deepF g && decide (hdF g = m)) = true
      · rw [if_pos h]; simp [h]
      · rw [if_neg h]; simp [h]
    have hk := in_in f d m hm D hD
    rw [e1, e2, ih]
    by_cases h1 : inB f.pa D = true
    · rw [if_pos h1]
      obtain ⟨h2, h3⟩ := hk.1 h1
      rw [if_pos h3, e3, if_pos h2]
      rw [Bool.and_eq_true, decide_eq_true_eq] at h2
      rw [cut_cut f d m D hD h2.1 h2.2 h3]
    · rw [if_neg h1]
      by_cases h3 : inB f.pa d = true
      · rw [if_pos h3, e3, if_neg (fun h2 => h1 (hk.2 ⟨h2, h3⟩))]
      · rw [if_neg h3]
theorem dv_sub (d : ByteArray) (L : List Fl) (m : List UInt8) (hm : (47 : UInt8) ∉ m) (h0 : m ≠ []) : dv (pj d m) L = sub m (dv d L) := by
  have h1 := pj_ne d h0
  unfold dv
  rw [if_neg h1]
  unfold pj
  by_cases hd : d.data.toList = []
  · rw [if_pos hd, if_pos hd]
    exact und_sub L m hm
  · rw [if_neg hd, if_neg hd]
    exact und_und L d m hm _ rfl
theorem dv_snoc (d : ByteArray) (L : List Fl) (f : Fl) : dv d (L ++ [f]) = if d.data.toList = [] then L ++ [f] else if inB f.pa d = true then dv d L ++ [cutP d f] else dv d L := by
  unfold dv
  by_cases hd : d.data.toList = []
  · simp only [if_pos hd]
  · simp only [if_neg hd]
    exact undF_snoc L d f

/-- The names there, rising. -/
def hs (S : List Fl) : List (List UInt8) := addAll (S.map hdF)
theorem hs_mem (S : List Fl) (m : List UInt8) : m ∈ hs S ↔ ∃ f ∈ S, hdF f = m := by
  unfold hs
  rw [addAll_mem, List.mem_map]
theorem hs_snoc (S : List Fl) (f : Fl) : hs (S ++ [f]) = insN (hdF f) (hs S) := by
  unfold hs
  rw [List.map_append]
  exact addAll_snoc _ _
theorem hs_len (S : List Fl) : (hs S).length ≤ S.length := by
  have := addAll_len (S.map hdF)
  rwa [List.length_map] at this
theorem hs_nodup (S : List Fl) : (hs S).Nodup := (addAll_up _).imp fun h e => by rw [e] at h; exact List.lt_irrefl _ h

/-- The kind and the text of the file with a path; a directory's kind, if there is none. -/
def ktF (M : List Fl) (p : List UInt8) : Int × ByteArray := M.foldl (fun a f => if pth f = p then (kdF f.rn, f.tx) else a) (3, ⟨#[]⟩)
theorem ktF_snoc (M : List Fl) (f : Fl) (p : List UInt8) : ktF (M ++ [f]) p = if pth f = p then (kdF f.rn, f.tx) else ktF M p := by simp [ktF, List.foldl_append]
theorem ktF_no (M : List Fl) (p : List UInt8) (h : ∀ f ∈ M, pth f ≠ p) : ktF M p = (3, ⟨#[]⟩) := by
  revert h
  refine snocInd (P := fun M => (∀ f ∈ M, pth f ≠ p) → ktF M p = (3, ⟨#[]⟩)) (fun _ => rfl) (fun l a ih h => ?_) M
  rw [ktF_snoc, if_neg (h a (by simp))]
  exact ih fun f hf => h f (by simp [hf])
theorem ktF_yes (M : List Fl) (p : List UInt8) (hn : (M.map pth).Nodup) {f : Fl} (hf : f ∈ M) (h : pth f = p) : ktF M p = (kdF f.rn, f.tx) := by
  revert hn hf
  refine snocInd (P := fun M => (M.map pth).Nodup → f ∈ M → ktF M p = (kdF f.rn, f.tx)) (fun _ hf => by cases hf) (fun l a ih hn hf => ?_) M
  rw [List.map_append, List.nodup_append] at hn
  rw [ktF_snoc]
  rcases List.mem_append.1 hf with h1 | h1
  · have : pth a ≠ p := fun e => hn.2.2 (pth f) (List.mem_map.2 ⟨f, h1, rfl⟩) (pth a) (by simp) (by rw [h, e])
    rw [if_neg this]
    exact ih hn.1 h1
  · rw [List.mem_singleton] at h1
    subst h1
    rw [if_pos h]
theorem okT_nodup {L : List Fl} (h : okT L) : (L.map pth).Nodup := List.pairwise_map.2 (h.2.2.imp fun hh e => by have := hh.1; rw [e] at this; exact List.lt_irrefl _ this)
theorem kt_file {L : List Fl} (h : okT L) (d : ByteArray) {g : Fl} (hg : g ∈ dv d L) : ktF L (pj d (pth g)).data.toList = (kdF g.rn, g.tx) := by
  rw [pj_list]
  unfold dv at hg
  by_cases hd : d.data.toList = []
  · rw [if_pos hd] at hg ⊢
    exact ktF_yes L _ (okT_nodup h) hg rfl
  · rw [if_neg hd] at hg ⊢
    obtain ⟨f, hf, rfl⟩ := List.mem_map.1 hg
    rw [List.mem_filter] at hf
    obtain ⟨r, hr⟩ := (inB_list _ _).1 hf.2
    rw [cut_pth (f := f) hr]
    exact ktF_yes (f := f) L _ (okT_nodup h) hf.1 hr
theorem kt_dir {L : List Fl} (d : ByteArray) {m : List UInt8} (h : ∀ g ∈ dv d L, pth g ≠ m) : ktF L (pj d m).data.toList = (3, ⟨#[]⟩) := by
  rw [pj_list]
  unfold dv at h
  refine ktF_no _ _ fun f hf e => ?_
  by_cases hd : d.data.toList = []
  · rw [if_pos hd] at h e
    exact h f hf e
  · rw [if_neg hd] at h e
    exact h (cutP d f) (List.mem_map.2 ⟨f, List.mem_filter.2 ⟨hf, (inB_list _ _).2 ⟨m, e⟩⟩, rfl⟩) (cut_pth e)

/-- A name is a file's, or a directory's. -/
theorem hs_cases {L : List Fl} (d : ByteArray) (hL : okT L) (h : okT (dv d L)) {m : List UInt8} (hm : m ∈ hs (dv d L)) :
    (∃ f, f ∈ dv d L ∧ deepF f = false ∧ pth f = m ∧ ktF L (pj d m).data.toList = (kdF f.rn, f.tx)) ∨ (m ∈ names (dv d L) ∧ ktF L (pj d m).data.toList = (3, ⟨#[]⟩)) := by
  obtain ⟨f, hf, hh⟩ := (hs_mem _ _).1 hm
  cases hd : deepF f with
  | false =>
    have e : hdF f = pth f := by unfold hdF; rw [top_sl hd]
    rw [e] at hh
    subst hh
    exact .inl ⟨f, hf, hd, rfl, kt_file hL d hf⟩
  | true =>
    have hn : m ∈ names (dv d L) := (names_mem _ _).2 ⟨f, hf, hd, hh⟩
    refine .inr ⟨hn, kt_dir d fun g hg e => ?_⟩
    have hnd := nsF_nodup smD 0 h
    rw [nsF_keys, List.nodup_append] at hnd
    have hs : (47 : UInt8) ∉ pth g := by rw [e, ← hh]; exact hd_slash f
    exact hnd.2.2 (pth g) (List.mem_map.2 ⟨g, List.mem_filter.2 ⟨hg, by rw [(top_of hs).1]; rfl⟩, rfl⟩) m hn e
theorem name_in {S : List Fl} {m : List UInt8} (hm : m ∈ names S) : m ∈ hs S := by
  obtain ⟨f, hf, _, hh⟩ := (names_mem _ _).1 hm
  exact (hs_mem _ _).2 ⟨f, hf, hh⟩
theorem top_in {S : List Fl} {f : Fl} (hf : f ∈ S) (hd : deepF f = false) : pth f ∈ hs S := (hs_mem _ _).2 ⟨f, hf, by unfold hdF; rw [top_sl hd]⟩
theorem hs_slash {S : List Fl} {m : List UInt8} (hm : m ∈ hs S) : (47 : UInt8) ∉ m := by
  obtain ⟨f, _, rfl⟩ := (hs_mem _ _).1 hm
  exact hd_slash f
theorem hs_name {S : List Fl} (h : okT S) {m : List UInt8} (hm : m ∈ hs S) : nameOk ⟨m.toArray⟩ = true := by
  obtain ⟨f, hf, rfl⟩ := (hs_mem _ _).1 hm
  cases hd : deepF f with
  | true => exact (ok_sub hd (h.2.1 f hf)).2
  | false =>
    have e : hdF f = pth f := by unfold hdF; rw [top_sl hd]
    rw [e]
    have := top_name hd (h.2.1 f hf)
    rw [show (⟨(pth f).toArray⟩ : ByteArray) = f.pa from by show (⟨f.pa.data.toList.toArray⟩ : ByteArray) = _; rw [Array.toArray_toList]]
    exact this
theorem hs_ne {S : List Fl} (h : okT S) {m : List UInt8} (hm : m ∈ hs S) : m ≠ [] := fun e => by
  have := hs_name h hm
  subst e
  unfold nameOk at this
  rw [Lib.toList_data] at this
  simp at this

/-- The text of what has a name there; its node. -/
def tD (n : Nat) (L : List Fl) (d : ByteArray) (m : List UInt8) : ByteArray := if (ktF L (pj d m).data.toList).1 = 3 then (dirF smD n (sub m (dv d L))).1 else (ktF L (pj d m).data.toList).2
def ndD (n : Nat) (L : List Fl) (d : ByteArray) (m : List UInt8) : Nd := (⟨m.toArray⟩, (ktF L (pj d m).data.toList).1, smD (tD n L d m))
theorem kd_ne (r : Bool) : kdF r ≠ 3 := by cases r <;> decide
theorem ndD_file {n : Nat} {L : List Fl} {d : ByteArray} {f : Fl} (h : ktF L (pj d (pth f)).data.toList = (kdF f.rn, f.tx)) : ndD n L d (pth f) = ndF smD f := by
  unfold ndD tD ndF
  rw [h, if_neg (kd_ne _)]
  show ((⟨f.pa.data.toList.toArray⟩ : ByteArray), _, _) = _
  rw [Array.toArray_toList]
theorem ndD_dir {n : Nat} {L : List Fl} {d : ByteArray} {m : List UInt8} (h : ktF L (pj d m).data.toList = (3, ⟨#[]⟩)) : ndD n L d m = ndM smD m (dirF smD n (sub m (dv d L))).1 := by
  unfold ndD tD ndM
  rw [h, if_pos rfl]
theorem map_nodup {α β : Type} {f : α → β} {l : List α} (h : (l.map f).Nodup) : l.Nodup := (List.pairwise_map.1 h).imp fun h e => h (by rw [e])
theorem ndD_sorted (n : Nat) {L : List Fl} (d : ByteArray) (hL : okT L) (h : okT (dv d L)) : (hs (dv d L)).map (ndD n L d) = sortN (nsF smD n (dv d L)) := by
  have hk : ((hs (dv d L)).map (ndD n L d)).map kyN = hs (dv d L) := by
    rw [List.map_map]
    have : (kyN ∘ ndD n L d) = id := by funext m; rfl
    rw [this, List.map_id]
  refine sortN_uniq (nsF_nodup smD n h) ((List.perm_ext_iff_of_nodup (map_nodup (f := kyN) (by rw [hk]; exact hs_nodup _)) (map_nodup (nsF_nodup smD n h))).2 fun x => ?_) ?_
  · unfold nsF
    rw [List.mem_map, List.mem_append, List.mem_map, List.mem_map]
    constructor
    · rintro ⟨m, hm, rfl⟩
      rcases hs_cases d hL h hm with ⟨f, hf, hd, rfl, hkt⟩ | ⟨hn, hkt⟩
      · exact .inl ⟨f, List.mem_filter.2 ⟨hf, by rw [hd]; rfl⟩, (ndD_file hkt).symm⟩
      · exact .inr ⟨m, hn, (ndD_dir hkt).symm⟩
    · rintro (⟨f, hf, rfl⟩ | ⟨m, hm, rfl⟩)
      · unfold tops at hf
        rw [List.mem_filter] at hf
        exact ⟨pth f, top_in hf.1 (by simpa using hf.2), ndD_file (kt_file hL d hf.1)⟩
      · rcases hs_cases d hL h (name_in hm) with ⟨f, hf, hd, e, _⟩ | ⟨_, hkt⟩
        · exfalso
          have hnd := nsF_nodup smD 0 h
          rw [nsF_keys, List.nodup_append] at hnd
          exact hnd.2.2 (pth f) (List.mem_map.2 ⟨f, List.mem_filter.2 ⟨hf, by rw [hd]; rfl⟩, rfl⟩) m hm e
        · exact ⟨m, name_in hm, ndD_dir hkt⟩
  · rw [List.pairwise_map]
    refine (addAll_up _).imp fun hh => ?_
    unfold leN
    exact decide_eq_true (List.le_of_lt hh)

/-- All texts of a directory but its own; those that are added for a name. -/
def inT (n : Nat) (S : List Fl) : List ByteArray := (tops S).map Fl.tx ++ (names S).flatMap fun m => (dirF smD n (sub m S)).2
def bL (l : List ByteArray) : List (List UInt8) := l.map fun b => b.data.toList
def mrT (n : Nat) (S : List Fl) (m : List UInt8) : List (List UInt8) := match n with | 0 => [] | k + 1 => addAll (bL (inT k (sub m S)))
def adD (n : Nat) (L : List Fl) (d : ByteArray) (m : List UInt8) : List (List UInt8) := (if (ktF L (pj d m).data.toList).1 = 3 then mrT n (dv d L) m else []) ++ [(tD n L d m).data.toList]
theorem dirF_in (n : Nat) (S : List Fl) : (dirF smD (n + 1) S).2 = inT n S ++ [(dirF smD (n + 1) S).1] := rfl
theorem names_ne {S : List Fl} {m : List UInt8} {n : Nat} (hm : m ∈ names S) (hz : ∀ f ∈ S, f.pa.size < n + 1) : 0 < n := by
  obtain ⟨f, hf, hd, _⟩ := (names_mem _ _).1 hm
  have h1 := hz f hf
  have h2 := subF_size hd
  omega
theorem bL_mem (l : List ByteArray) (x : ByteArray) : x.data.toList ∈ bL l ↔ x ∈ l := by
  unfold bL
  rw [List.mem_map]
  constructor
  · rintro ⟨y, hy, e⟩
    rwa [← bytes_ext e]
  · exact fun h => ⟨x, h, rfl⟩
theorem mrT_mem {n : Nat} {S : List Fl} {m x : List UInt8} (hn : 0 < n) : (x ∈ mrT n S m ∨ x = (dirF smD n (sub m S)).1.data.toList) ↔ x ∈ bL (dirF smD n (sub m S)).2 := by
  obtain ⟨k, rfl⟩ : ∃ k, n = k + 1 := ⟨n - 1, by omega⟩
  rw [dirF_in]
  show (x ∈ addAll _ ∨ _) ↔ _
  rw [addAll_mem]
  unfold bL
  rw [List.map_append, List.mem_append, List.map_cons, List.map_nil, List.mem_singleton]
theorem ad_all (n : Nat) {L : List Fl} (d : ByteArray) (hL : okT L) (h : okT (dv d L)) (hz : ∀ f ∈ dv d L, f.pa.size < n + 1) : addAll ((hs (dv d L)).flatMap (adD n L d)) = addAll (bL (inT n (dv d L))) := by
  refine rise_uniq (addAll_up _) (addAll_up _) fun x => ?_
  rw [addAll_mem, addAll_mem, List.mem_flatMap]
  have e1 : x ∈ bL (inT n (dv d L)) ↔ (∃ f, f ∈ tops (dv d L) ∧ f.tx.data.toList = x) ∨ ∃ m ∈ names (dv d L), x ∈ bL (dirF smD n (sub m (dv d L))).2 := by
    unfold bL inT
    rw [List.map_append, List.mem_append, List.map_map, List.mem_map, List.map_flatMap, List.mem_flatMap]
    rfl
  rw [e1]
  constructor
  · rintro ⟨m, hm, hx⟩
    unfold adD tD at hx
    rcases hs_cases d hL h hm with ⟨f, hf, hd, rfl, hkt⟩ | ⟨hn, hkt⟩
    · rw [hkt, if_neg (kd_ne _), if_neg (kd_ne _), List.nil_append, List.mem_singleton] at hx
      exact .inl ⟨f, List.mem_filter.2 ⟨hf, by rw [hd]; rfl⟩, hx.symm⟩
    · rw [hkt, if_pos rfl, if_pos rfl, List.mem_append, List.mem_singleton] at hx
      exact .inr ⟨m, hn, (mrT_mem (names_ne hn hz)).1 hx⟩
  · rintro (⟨f, hf, rfl⟩ | ⟨m, hm, hx⟩)
    · unfold tops at hf
      rw [List.mem_filter] at hf
      have hkt := kt_file hL d hf.1
      refine ⟨pth f, top_in hf.1 (by simpa using hf.2), ?_⟩
      unfold adD tD
      rw [hkt, if_neg (kd_ne _), if_neg (kd_ne _)]
      simp
    · rcases hs_cases d hL h (name_in hm) with ⟨f, hf, hd, e, _⟩ | ⟨_, hkt⟩
      · exfalso
        have hnd := nsF_nodup smD 0 h
        rw [nsF_keys, List.nodup_append] at hnd
        exact hnd.2.2 (pth f) (List.mem_map.2 ⟨f, List.mem_filter.2 ⟨hf, by rw [hd]; rfl⟩, rfl⟩) m hm e
      · refine ⟨m, name_in hm, ?_⟩
        unfold adD tD
        rw [hkt, if_pos rfl, if_pos rfl, List.mem_append, List.mem_singleton]
        exact (mrT_mem (names_ne hm hz)).2 hx
theorem inT_len (n : Nat) {S : List Fl} (h : okT S) (hn : n ≤ 101) : (inT n S).length ≤ 7000 := by
  have h1 := dirF_len smD (n + 1) S
  rw [dirF_in, List.length_append, List.length_singleton] at h1
  have h2 : (n + 1) * S.length ≤ 102 * 60 := Nat.mul_le_mul (by omega) h.1
  omega
theorem mrT_len (n : Nat) {S : List Fl} (h : okT S) (m : List UInt8) (hn : n ≤ 101) : (mrT n S m).length ≤ 7000 := by
  unfold mrT
  cases n with
  | zero => simp
  | succ k =>
    have h1 := addAll_len (bL (inT k (sub m S)))
    unfold bL at h1
    rw [List.length_map] at h1
    have h2 := inT_len k (okT_sub h m) (by omega)
    exact Nat.le_trans h1 h2
theorem adD_len (n : Nat) {L : List Fl} (d : ByteArray) (h : okT (dv d L)) (m : List UInt8) (hn : n ≤ 101) : (adD n L d m).length ≤ 7001 := by
  unfold adD
  rw [List.length_append, List.length_singleton]
  have := mrT_len n h m hn
  split
  · omega
  · simp
theorem adK_len (n : Nat) {L : List Fl} (d : ByteArray) (h : okT (dv d L)) (hn : n ≤ 101) (k : Nat) (hk : k ≤ 60) : (((hs (dv d L)).take k).flatMap (adD n L d)).length ≤ 420060 := by
  have h1 : ∀ l : List (List UInt8), (l.flatMap (adD n L d)).length ≤ l.length * 7001 := by
    intro l
    induction l with
    | nil => simp
    | cons a l ih =>
      rw [List.flatMap_cons, List.length_append, List.length_cons]
      have := adD_len n d h a hn
      omega
  have h2 := h1 ((hs (dv d L)).take k)
  have h3 : ((hs (dv d L)).take k).length ≤ 60 := by rw [List.length_take]; omega
  omega
end Go.Proofs.YtelcflmjagjbfaaGreatDoor

/- Trees that lie over each other, plain: what comes of it is a tree; parts; whatever order. -/
namespace Go.Proofs.YtelcflmjagjbfaaGreatDoor
open Go.RowKit Go.Shelf Go.Maps Go.WideMaps Go.Sort

theorem chF_ok {L : List Fl} (h : okT L) : chF L = 0 := by
  obtain ⟨h1, h2, h3⟩ := h
  have h4 : flEs L = 0 := flEs_yes L fun j hj => h2 _ (List.getElem_mem hj)
  unfold chF
  rw [if_neg (by omega), if_pos h4, if_pos ((fit_iff L).1 h3)]
theorem ovE_zero {A C : List Fl} (h : ovE A C = 0) : okT A ∧ okT C ∧ thruF A C = false ∧ thruF C A = false ∧ (ovF A C).length ≤ 60 := by
  unfold ovE at h
  by_cases h1 : erF A C ≠ 0
  · rw [if_pos h1] at h; exact absurd h h1
  · rw [if_neg h1] at h
    obtain ⟨hA, hC⟩ := erF_zero (by simpa using h1 : erF A C = 0)
    by_cases h2 : (thruF A C || thruF C A) = true
    · rw [if_pos h2] at h; exact absurd h (by decide)
    · rw [if_neg h2] at h
      have h3 : (thruF A C || thruF C A) = false := by simpa using h2
      rw [Bool.or_eq_false_iff] at h3
      by_cases h4 : 60 < (ovF A C).length
      · rw [if_pos h4] at h; exact absurd h (by decide)
      · exact ⟨okT_of hA, okT_of hC, h3.1, h3.2, by omega⟩
theorem ovE_of {A C : List Fl} (hA : okT A) (hC : okT C) (h1 : thruF A C = false) (h2 : thruF C A = false) (h3 : (ovF A C).length ≤ 60) : ovE A C = 0 := by
  have e : erF A C = 0 := by unfold erF; rw [chF_ok hA, if_pos rfl, chF_ok hC]
  unfold ovE
  rw [if_neg (by simp [e]), h1, h2, if_neg (by decide), if_neg (by omega)]
theorem ovF_mem (A C : List Fl) (f : Fl) : f ∈ ovF A C ↔ (f ∈ A ∧ hasP C (pth f) = false) ∨ f ∈ C := by
  rw [← (ovF_perm A C).mem_iff, ovU_mem]
/-- What lies over is a tree. -/
theorem ov_tree {A C : List Fl} (h : ovE A C = 0) : okT (ovF A C) := by
  obtain ⟨hA, hC, h1, h2, h3⟩ := ovE_zero h
  have hup := ovF_up (okT_nodup hA) (okT_nodup hC)
  have hth : thruF (ovF A C) (ovF A C) = false := by
    rw [thru_ov hA hC (X := ovF A C) fun f => (ovF_perm A C).mem_iff.symm, h1, h2]
    rfl
  have hno : ∀ f ∈ ovF A C, ∀ g ∈ ovF A C, inB f.pa g.pa = false := fun f hf g hg => by
    cases e : inB f.pa g.pa with
    | false => rfl
    | true =>
      have := (thru_mem _ _).2 ⟨f, hf, g, hg, e⟩
      rw [hth] at this
      cases this
  refine ⟨h3, fun f hf => ?_, ?_⟩
  · rcases (ovF_mem A C f).1 hf with ⟨h, _⟩ | h
    · exact hA.2.1 f h
    · exact hC.2.1 f h
  · refine List.Pairwise.imp_of_mem (fun {a b} ha hb hab => ?_) hup
    exact ⟨hab, hno b hb a ha, hno a ha b hb⟩
theorem ovL_ok {A C : List Fl} (h : ovE A C = 0) : ovL A C = ovF A C := by unfold ovL; rw [if_pos h]

/-- A directory by its first name. -/
theorem in_first (f : Fl) (m : List UInt8) (hm : (47 : UInt8) ∉ m) (d D : ByteArray) (hD : D.data.toList = m ++ 47 :: d.data.toList) : inB f.pa D = true ↔ ((deepF f && decide (hdF f = m)) = true ∧ inB (subF f).pa d = true) := by
  rw [inB_list, inB_list, Bool.and_eq_true, decide_eq_true_eq, hD]
  constructor
  · rintro ⟨r, hr⟩
    have hr2 : pth f = m ++ 47 :: (d.data.toList ++ 47 :: r) := by
      show f.pa.data.toList = _
      rw [hr, List.append_assoc, List.cons_append]
    obtain ⟨h1, h2, h3⟩ := deep_of hm hr2
    exact ⟨⟨h1, h2⟩, r, h3⟩
  · rintro ⟨⟨h1, h2⟩, r, hr⟩
    have h3 := (deep_sl h1).2
    have hr1 : pth (subF f) = d.data.toList ++ 47 :: r := hr
    rw [h2, hr1] at h3
    exact ⟨r, by rw [List.append_assoc, List.cons_append]; exact h3⟩
theorem cut_first (f : Fl) (m : List UInt8) (d D : ByteArray) (hD : D.data.toList = m ++ 47 :: d.data.toList) (h1 : deepF f = true) (h2 : hdF f = m) (h3 : inB (subF f).pa d = true) : cutP D f = cutP d (subF f) := by
  obtain ⟨r, hr⟩ := (inB_list _ _).1 h3
  have hr1 : pth (subF f) = d.data.toList ++ 47 :: r := hr
  have h4 := (deep_sl h1).2
  rw [h2, hr1] at h4
  have h5 : pth f = D.data.toList ++ 47 :: r := by rw [h4, hD, List.append_assoc, List.cons_append]
  exact fl_ext ((cut_pth h5).trans (cut_pth hr1).symm) (show f.tx = (subF f).tx from (subF_tx f).symm) (show f.rn = (subF f).rn from (subF_rn f).symm)
theorem und_first (L : List Fl) (m : List UInt8) (hm : (47 : UInt8) ∉ m) (d D : ByteArray) (hD : D.data.toList = m ++ 47 :: d.data.toList) : undF L D = undF (sub m L) d := by
  induction L with
  | nil => rfl
  | cons f l ih =>
    have e1 : ∀ (x : ByteArray) (g : Fl) (S : List Fl), undF (g :: S) x = if inB g.pa x = true then cutP x g :: undF S x else undF S x := fun x g S => by
      unfold undF
      by_cases h : inB g.pa x = true
      · rw [if_pos h]; simp [h]
      · rw [if_neg h]; simp [h]
    have e3 : sub m (f :: l) = if (deepF f && decide (hdF f = m)) = true then subF f :: sub m l else sub m l := by
      unfold sub
      by_cases h : (deepF f && decide (hdF f = m)) = true
      · rw [if_pos h]; simp [h]
      · rw [if_neg h]; simp [h]
    have hk := in_first f m hm d D hD
    rw [e1, e3, ih]
    by_cases h1 : inB f.pa D = true
    · obtain ⟨h2, h3⟩ := hk.1 h1
      rw [if_pos h1, if_pos h2, e1, if_pos h3]
      rw [Bool.and_eq_true, decide_eq_true_eq] at h2
      rw [cut_first f m d D hD h2.1 h2.2 h3]
    · rw [if_neg h1]
      by_cases h2 : (deepF f && decide (hdF f = m)) = true
      · rw [if_pos h2, e1, if_neg (fun h3 => h1 (hk.2 ⟨h2, h3⟩))]
      · rw [if_neg h2]
theorem okT_und : ∀ (n : Nat) (d : ByteArray), d.size ≤ n → ∀ L : List Fl, okT L → okT (undF L d) := by
  intro n
  induction n with
  | zero =>
    intro d hd L h
    have e : d.data.toList = [] := List.length_eq_zero_iff.1 (by rw [Array.length_toList]; show d.data.size = 0; have : d.size = d.data.size := rfl; omega)
    have : undF L d = sub [] L := by
      have := und_sub L [] (by simp)
      rwa [show (⟨([] : List UInt8).toArray⟩ : ByteArray) = d from (bytes_ext e).symm] at this
    rw [this]
    exact okT_sub h _
  | succ n ih =>
    intro d hd L h
    cases hs : sl d.data.toList with
    | none =>
      have := und_sub L d.data.toList (sl_none hs)
      rw [Array.toArray_toList] at this
      rw [this]
      exact okT_sub h _
    | some x =>
      obtain ⟨m, r⟩ := x
      obtain ⟨e, hm⟩ := sl_some hs
      have h1 := und_first L m hm ⟨r.toArray⟩ d e
      rw [h1]
      refine ih ⟨r.toArray⟩ ?_ (sub m L) (okT_sub h m)
      have h2 := congrArg List.length e
      rw [List.length_append, List.length_cons, Array.length_toList] at h2
      show r.toArray.size ≤ n
      rw [List.size_toArray]
      have h3 : d.size = d.data.size := rfl
      omega
theorem und_mem (L : List Fl) (d : ByteArray) (x : Fl) : x ∈ undF L d ↔ ∃ f ∈ L, inB f.pa d = true ∧ cutP d f = x := by
  unfold undF
  rw [List.mem_map]
  constructor
  · rintro ⟨f, hf, rfl⟩
    rw [List.mem_filter] at hf
    exact ⟨f, hf.1, hf.2, rfl⟩
  · rintro ⟨f, hf, h, rfl⟩
    exact ⟨f, List.mem_filter.2 ⟨hf, h⟩, rfl⟩
theorem cut_full {f : Fl} {d : ByteArray} (h : inB f.pa d = true) : pth f = d.data.toList ++ 47 :: pth (cutP d f) := by
  obtain ⟨r, hr⟩ := (inB_list _ _).1 h
  have hr1 : pth f = d.data.toList ++ 47 :: r := hr
  rw [hr1, cut_pth hr1]
theorem thru_und {A C : List Fl} (d : ByteArray) (h : thruF A C = false) : thruF (undF A d) (undF C d) = false := by
  cases e : thruF (undF A d) (undF C d) with
  | false => rfl
  | true =>
    obtain ⟨x, hx, y, hy, hxy⟩ := (thru_mem _ _).1 e
    obtain ⟨f, hf, hfd, rfl⟩ := (und_mem A d x).1 hx
    obtain ⟨g, hg, hgd, rfl⟩ := (und_mem C d y).1 hy
    obtain ⟨r, hr⟩ := (inB_list _ _).1 hxy
    have hr1 : pth (cutP d f) = pth (cutP d g) ++ 47 :: r := hr
    have : inB f.pa g.pa = true := (inB_list _ _).2 ⟨r, by
      show pth f = pth g ++ 47 :: r
      rw [cut_full hfd, cut_full hgd, hr1, List.append_assoc, List.cons_append]⟩
    rw [(thru_mem A C).2 ⟨f, hf, g, hg, this⟩] at h
    cases h
/-- What is under a directory of what lies over is what lies over under it. -/
theorem und_ov {A C : List Fl} (hA : okT A) (hC : okT C) (d : ByteArray) : undF (ovF A C) d = ovF (undF A d) (undF C d) := by
  have oA := okT_und d.size d (Nat.le_refl _) A hA
  have oC := okT_und d.size d (Nat.le_refl _) C hC
  refine ovF_uniq (okT_nodup oA) (okT_nodup oC) ?_ fun x => ?_
  · unfold undF
    rw [List.pairwise_map]
    refine List.Pairwise.imp_of_mem (fun {a b} ha hb hab => ?_) ((ovF_up (okT_nodup hA) (okT_nodup hC)).filter _)
    rw [List.mem_filter] at ha hb
    rw [cut_full ha.2, cut_full hb.2, lt_app, List.cons_lt_cons_iff] at hab
    rcases hab with h | ⟨_, h⟩
    · exact absurd h (by decide)
    · exact h
  · have hpp : ∀ {f g : Fl}, inB f.pa d = true → inB g.pa d = true → (pth (cutP d f) = pth (cutP d g) ↔ pth f = pth g) := fun hf hg => by
      rw [cut_full hf, cut_full hg]
      constructor
      · intro h; rw [h]
      · intro h
        have := List.append_cancel_left h
        injection this
    rw [und_mem, ovU_mem, und_mem, und_mem]
    constructor
    · rintro ⟨f, hf, hd, rfl⟩
      rcases (ovF_mem A C f).1 hf with ⟨h1, h2⟩ | h1
      · refine .inl ⟨⟨f, h1, hd, rfl⟩, ?_⟩
        cases e : hasP (undF C d) (pth (cutP d f)) with
        | false => rfl
        | true =>
          obtain ⟨y, hy, hyp⟩ := (hasP_iff _ _).1 e
          obtain ⟨g, hg, hgd, rfl⟩ := (und_mem C d y).1 hy
          rw [(hasP_iff C _).2 ⟨g, hg, (hpp hgd hd).1 hyp⟩] at h2
          cases h2
      · exact .inr ⟨f, h1, hd, rfl⟩
    · rintro (⟨⟨f, h1, hd, rfl⟩, h2⟩ | ⟨f, h1, hd, rfl⟩)
      · refine ⟨f, (ovF_mem A C f).2 (.inl ⟨h1, ?_⟩), hd, rfl⟩
        cases e : hasP C (pth f) with
        | false => rfl
        | true =>
          obtain ⟨g, hg, hgp⟩ := (hasP_iff _ _).1 e
          have hgd : inB g.pa d = true := by rw [same_pa hgp]; exact hd
          rw [(hasP_iff (undF C d) _).2 ⟨cutP d g, (und_mem C d _).2 ⟨g, hg, hgd, rfl⟩, (hpp hgd hd).2 hgp⟩] at h2
          cases h2
      · exact ⟨f, (ovF_mem A C f).2 (.inr h1), hd, rfl⟩
theorem und_ovE {A C : List Fl} (h : ovE A C = 0) (d : ByteArray) : ovE (undF A d) (undF C d) = 0 := by
  obtain ⟨hA, hC, h1, h2, h3⟩ := ovE_zero h
  refine ovE_of (okT_und d.size d (Nat.le_refl _) A hA) (okT_und d.size d (Nat.le_refl _) C hC) (thru_und d h1) (thru_und d h2) ?_
  rw [← und_ov hA hC]
  exact Nat.le_trans (undF_len _ _) h3

/-- Whatever order one lays in. -/
theorem hasP_ov (A C : List Fl) (k : List UInt8) : hasP (ovF A C) k = (hasP A k || hasP C k) := by
  rw [Bool.eq_iff_iff, Bool.or_eq_true, hasP_iff, hasP_iff, hasP_iff]
  constructor
  · rintro ⟨f, hf, e⟩
    rcases (ovF_mem A C f).1 hf with ⟨h, _⟩ | h
    · exact .inl ⟨f, h, e⟩
    · exact .inr ⟨f, h, e⟩
  · rintro (⟨f, hf, e⟩ | ⟨f, hf, e⟩)
    · cases h : hasP C (pth f) with
      | false => exact ⟨f, (ovF_mem A C f).2 (.inl ⟨hf, h⟩), e⟩
      | true =>
        obtain ⟨g, hg, e2⟩ := (hasP_iff _ _).1 h
        exact ⟨g, (ovF_mem A C g).2 (.inr hg), e2.trans e⟩
    · exact ⟨f, (ovF_mem A C f).2 (.inr hf), e⟩
theorem ov_assoc {A B C : List Fl} (hA : okT A) (hC : okT C) (hAB : okT (ovF A B)) (hBC : okT (ovF B C)) : ovF (ovF A B) C = ovF A (ovF B C) := by
  refine ovF_uniq (okT_nodup hA) (okT_nodup hBC) (ovF_up (okT_nodup hAB) (okT_nodup hC)) fun f => ?_
  rw [ovF_mem, ovU_mem, ovF_mem, ovF_mem, hasP_ov, Bool.or_eq_false_iff]
  constructor
  · rintro (⟨(⟨h1, h2⟩ | h1), h3⟩ | h1)
    · exact .inl ⟨h1, h2, h3⟩
    · exact .inr (.inl ⟨h1, h3⟩)
    · exact .inr (.inr h1)
  · rintro (⟨h1, h2, h3⟩ | ⟨h1, h3⟩ | h1)
    · exact .inl ⟨.inl ⟨h1, h2⟩, h3⟩
    · exact .inl ⟨.inr h1, h3⟩
    · exact .inr h1
theorem ov_again {A B : List Fl} (h : ovE A B = 0) : ovE (ovF A B) B = 0 ∧ ovF (ovF A B) B = ovF A B := by
  obtain ⟨hA, hB, _, _, h3⟩ := ovE_zero h
  have hT := ov_tree h
  have e : ovF (ovF A B) B = ovF A B := by
    refine (ovF_uniq (okT_nodup hT) (okT_nodup hB) (ovF_up (okT_nodup hA) (okT_nodup hB)) fun f => ?_).symm
    rw [ovU_mem, ovF_mem]
    constructor
    · rintro (⟨h1, h2⟩ | h1)
      · exact .inl ⟨.inl ⟨h1, h2⟩, h2⟩
      · exact .inr h1
    · rintro (⟨(⟨h1, h2⟩ | h1), _⟩ | h1)
      · exact .inl ⟨h1, h2⟩
      · exact .inr h1
      · exact .inr h1
  have hin : ∀ f ∈ B, f ∈ ovF A B := fun f hf => (ovF_mem A B f).2 (.inr hf)
  have n1 : thruF (ovF A B) B = false := by
    cases e2 : thruF (ovF A B) B with
    | false => rfl
    | true =>
      obtain ⟨f, hf, g, hg, h2⟩ := (thru_mem _ _).1 e2
      rw [fit_no hT hf (hin g hg)] at h2
      cases h2
  have n2 : thruF B (ovF A B) = false := by
    cases e2 : thruF B (ovF A B) with
    | false => rfl
    | true =>
      obtain ⟨f, hf, g, hg, h2⟩ := (thru_mem _ _).1 e2
      rw [fit_no hT (hin f hf) hg] at h2
      cases h2
  exact ⟨ovE_of hT hB n1 n2 (by rw [e]; exact h3), e⟩
theorem getF_in {L : List Fl} (h : okT L) {f : Fl} (hf : f ∈ L) : getF L (pth f) = f := by
  obtain ⟨i, hi, rfl⟩ := List.getElem_of_mem hf
  refine getF_at i hi rfl fun j hj hji e => ?_
  have h3 := List.pairwise_iff_getElem.1 (okT_nodup h) j i (by simpa using hj) (by simpa using hi) hji
  rw [List.getElem_map, List.getElem_map] at h3
  exact h3 e
/-- What lies over differs from what it lay on in nothing but its paths. -/
theorem ov_differs {A B : List Fl} (h : ovE A B = 0) {x : List UInt8} (hx : x ∈ difF A (ovF A B)) : hasP B x = true := by
  obtain ⟨hA, hB, _, _, _⟩ := ovE_zero h
  have hT := ov_tree h
  rw [dif_same, addAll_mem, List.mem_append] at hx
  have key : ∀ {X Y : List Fl}, x ∈ othF X Y → ∃ f ∈ X, pth f = x ∧ sameB (getF Y (pth f)) f = false := fun {X Y} h => by
    obtain ⟨f, hf, e⟩ := List.mem_map.1 h
    rw [List.mem_filter] at hf
    exact ⟨f, hf.1, e, by simpa using hf.2⟩
  cases e : hasP B x with
  | true => rfl
  | false =>
    exfalso
    rcases hx with hx | hx
    · obtain ⟨f, hf, rfl, hs⟩ := key hx
      have h1 : f ∈ ovF A B := (ovF_mem A B f).2 (.inl ⟨hf, e⟩)
      rw [getF_in hT h1, (sameB_iff f f).2 rfl] at hs
      cases hs
    · obtain ⟨f, hf, rfl, hs⟩ := key hx
      rcases (ovF_mem A B f).1 hf with ⟨h1, _⟩ | h1
      · rw [getF_in hA h1, (sameB_iff f f).2 rfl] at hs
        cases hs
      · rw [(hasP_iff B _).2 ⟨f, h1, rfl⟩] at e
        cases e
end Go.Proofs.YtelcflmjagjbfaaGreatDoor

/- Calls of trees, whose files lie somewhere. -/
namespace Go.Proofs.YtelcflmjagjbfaaGreatDoor
open Go.RowKit Go.Shelf Go.Sort

/-- How files are answered, with an error: they lie somewhere. -/
def FsP (er : Int) (X : List Fl) (W : World) (e : Ending) (w' : World) : Prop := ∃ ra rc, e = .returned (.tuple #[.slice ra X.length rc, .int .i64 er]) ∧ Hid (IsFl w' ra X) ∧ Hid (Below W.heap.size W w')
theorem fs_of {er : Int} {X : List Fl} {W : World} {e : Ending} {w' : World} (h : RsP er X W e w') : FsP er X W e w' := by
  obtain ⟨a, c, h1, h2, h3⟩ := h
  exact ⟨a, c, h1, own_files h2 rfl, h3⟩
theorem OverC (xa ya : Option Addr) (xc yc : Nat) (X Y : List Fl) (W : World) (hx : IsFl W xa X) (hy : IsFl W ya Y) (hm : MaxIs W) :
    Calls Tryz.prog 14 #[.slice xa X.length xc, .slice ya Y.length yc] W (FsP (ovE X Y) (ovL X Y) W) := (Over_any xa ya xc yc X Y W hx hy hm).mono fun _ _ h => fs_of h
theorem UnderC (xa : Option Addr) (xc : Nat) (X : List Fl) (d : ByteArray) (W : World) (hx : IsFl W xa X) (hm : MaxIs W) :
    Calls Tryz.prog 8 #[.slice xa X.length xc, .string d] W (FsP (unE X d) (unL X d) W) := (Under_any xa xc X d W hx hm).mono fun _ _ h => fs_of h
theorem SameC (xa ya : Option Addr) (xc yc : Nat) (X : List Fl) (W : World) (hn : X.length ≤ 60) (hx : IsFl W xa X) (hy : IsFl W ya X) :
    Calls Tryz.prog 20 #[.slice xa X.length xc, .slice ya X.length yc] W fun e w' => e = .returned (.bool true) ∧ Hid (Below W.heap.size W w') := by
  refine (SameFiles_any xa ya xc yc X X W (by omega) hx hy).mono ?_
  rintro e w' ⟨b, rfl, hb, n, rfl⟩
  rw [hb.2 rfl]
  exact ⟨rfl, below_drewN (Below.refl _ _) n⟩
theorem IsFl.up {w w' : World} {ao : Option Addr} {L : List Fl} (h : IsFl w ao L) (hb : Below w.heap.size w w') : IsFl w' ao L := h.below hb (Nat.le_refl _)
theorem unE_und {L : List Fl} {d : ByteArray} (h : okT L) (hp : pathOk d = true) : unE L d = (if undF L d = [] then 5 else 0) ∧ unL L d = undF L d := by
  have e : unE L d = if undF L d = [] then 5 else 0 := by
    unfold unE
    rw [if_neg (by simp [chF_ok h]), if_neg (by rw [hp]; decide)]
  refine ⟨e, ?_⟩
  unfold unL
  rw [e]
  by_cases h1 : undF L d = []
  · rw [if_pos h1, if_neg (by decide), h1]
  · rw [if_neg h1, if_pos rfl]
theorem unE_form {L : List Fl} {d : ByteArray} (h : okT L) (hp : pathOk d = false) : unE L d = 1 := by
  unfold unE
  rw [if_neg (by simp [chF_ok h]), if_pos hp]
end Go.Proofs.YtelcflmjagjbfaaGreatDoor
