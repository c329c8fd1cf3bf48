/- The words of a right line, by its first word: what it says, plain. -/
import Derived.OwnWalk
import Derived.Test.YtapiedeekbfpnaaGreatDoorTr10
namespace Go.Proofs.YtapiedeekbfpnaaGreatDoor
open Go.RowKit Go.Shelf Go.Maps Go.WideMaps Go.Sort

/-- A word that is a register. -/
def WR (ws : List (List UInt8)) (i r : Nat) : Prop := ∃ c : UInt8, ws.getD i [] = [c] ∧ c.toNat = 97 + r
theorem reg_one {g : List UInt8} {v : Nat} (h : regF g = some v) : ∃ c : UInt8, g = [c] ∧ c.toNat = 97 + v := by
  unfold regF at h
  split at h
  · rename_i c
    split at h
    · rename_i hc
      have := Option.some.inj h
      exact ⟨c, rfl, by omega⟩
    · cases h
  · cases h
theorem nmb_of {g : List UInt8} {v m : Nat} (h : numF g = some v) (hv : v ≤ m) : nmbF g (m : Int) = (v : Int) := by
  unfold nmbF
  rw [h]
  simp only
  rw [if_pos (by omega)]
theorem tak0 {lines : Nat} {l l' : Ln} {g : List UInt8} (h : takP lines 0 l g = some l') : ∃ v, regF g = some v ∧ l' = { l with r := v } := by
  obtain ⟨v, hv, e⟩ := Option.map_eq_some_iff.1 (show (regF g).map (fun v => { l with r := v }) = some l' from h)
  exact ⟨v, hv, e.symm⟩
theorem tak1 {lines : Nat} {l l' : Ln} {g : List UInt8} (h : takP lines 1 l g = some l') : ∃ v, regF g = some v ∧ l' = { l with s := v } := by
  obtain ⟨v, hv, e⟩ := Option.map_eq_some_iff.1 (show (regF g).map (fun v => { l with s := v }) = some l' from h)
  exact ⟨v, hv, e.symm⟩
theorem tak2 {lines : Nat} {l l' : Ln} {g : List UInt8} (h : takP lines 2 l g = some l') : ∃ v, numF g = some v ∧ l' = { l with n := v } := by
  obtain ⟨v, hv, e⟩ := Option.map_eq_some_iff.1 (show (numF g).map (fun v => { l with n := v }) = some l' from h)
  exact ⟨v, hv, e.symm⟩
theorem tak3 {lines : Nat} {l l' : Ln} {g : List UInt8} (h : takP lines 3 l g = some l') : ∃ v, numF g = some v ∧ l' = { l with m := v } := by
  obtain ⟨v, hv, e⟩ := Option.map_eq_some_iff.1 (show (numF g).map (fun v => { l with m := v }) = some l' from h)
  exact ⟨v, hv, e.symm⟩
theorem tak4 {lines : Nat} {l l' : Ln} {g : List UInt8} (h : takP lines 4 l g = some l') : ∃ v, numF g = some v ∧ v ≤ lines ∧ l' = { l with n := v } := by
  obtain ⟨v, hv, e⟩ := Option.bind_eq_some_iff.1 (show (numF g).bind (fun v => if v ≤ lines then some { l with n := v } else Option.none) = some l' from h)
  split at e
  · rename_i hl
    exact ⟨v, hv, hl, (Option.some.inj e).symm⟩
  · cases e
theorem tak5 {lines : Nat} {l l' : Ln} {g : List UInt8} (h : takP lines 5 l g = some l') : ∃ v, numF g = some v ∧ v ≤ 99 ∧ l' = { l with n := v } := by
  obtain ⟨v, hv, e⟩ := Option.bind_eq_some_iff.1 (show (numF g).bind (fun v => if v ≤ 99 then some { l with n := v } else Option.none) = some l' from h)
  split at e
  · rename_i hl
    exact ⟨v, hv, hl, (Option.some.inj e).symm⟩
  · cases e
theorem tak7 {lines : Nat} {l l' : Ln} {g : List UInt8} (h : takP lines 7 l g = some l') : l' = { l with pa := bA g } := by
  have e : (if pathOk (bA g) = true then some { l with pa := bA g } else Option.none) = some l' := h
  split at e
  · exact (Option.some.inj e).symm
  · cases e
theorem tak8 {lines : Nat} {l l' : Ln} {g : List UInt8} (h : takP lines 8 l g = some l') : l' = { l with pa := bA g } := by
  have e : (if pathOk (bA g) = true ∨ g = [46] then some { l with pa := bA g } else Option.none) = some l' := h
  split at e
  · exact (Option.some.inj e).symm
  · cases e
theorem fold1 {lines k : Nat} {g : List UInt8} {l l' : Ln} (h : foldP lines [k] [g] l = some l') : takP lines k l g = some l' := by
  obtain ⟨l1, e1, e2⟩ := Option.bind_eq_some_iff.1 (show (takP lines k l g).bind (fun l' => foldP lines [] [] l') = some l' from h)
  obtain rfl := Option.some.inj e2
  exact e1
theorem fold2 {lines k j : Nat} {g f : List UInt8} {l l' : Ln} (h : foldP lines [k, j] [g, f] l = some l') : ∃ l1, takP lines k l g = some l1 ∧ takP lines j l1 f = some l' := by
  obtain ⟨l1, e1, e2⟩ := Option.bind_eq_some_iff.1 (show (takP lines k l g).bind (fun l' => foldP lines [j] [f] l') = some l' from h)
  exact ⟨l1, e1, fold1 e2⟩
theorem fold3 {lines k j i : Nat} {g f d : List UInt8} {l l' : Ln} (h : foldP lines [k, j, i] [g, f, d] l = some l') : ∃ l1 l2, takP lines k l g = some l1 ∧ takP lines j l1 f = some l2 ∧ takP lines i l2 d = some l' := by
  obtain ⟨l1, e1, e2⟩ := Option.bind_eq_some_iff.1 (show (takP lines k l g).bind (fun l' => foldP lines [j, i] [f, d] l') = some l' from h)
  obtain ⟨l2, e3, e4⟩ := fold2 e2
  exact ⟨l1, l2, e1, e3, e4⟩
theorem lenw1 {α : Type} {l : List α} (h : l.length = 1) : ∃ a, l = [a] := by
  match l, h with
  | [a], _ => exact ⟨a, rfl⟩
theorem lenw2 {α : Type} {l : List α} (h : l.length = 2) : ∃ a b, l = [a, b] := by
  match l, h with
  | [a, b], _ => exact ⟨a, b, rfl⟩
theorem lenw3 {α : Type} {l : List α} (h : l.length = 3) : ∃ a b c, l = [a, b, c] := by
  match l, h with
  | [a, b, c], _ => exact ⟨a, b, c, rfl⟩
theorem lenw4 {α : Type} {l : List α} (h : l.length = 4) : ∃ a b c d, l = [a, b, c, d] := by
  match l, h with
  | [a, b, c, d], _ => exact ⟨a, b, c, d, rfl⟩
section
variable {lines : Nat} {s : List UInt8} {l : Ln}
theorem lw_frm (hs : s.length ≤ 100000) (h : linF lines s = some l) {k : Nat} {w : List UInt8} {f : List Nat} (hk : wkF l = k) (h0 : k ≠ 0) (hf : frmL[k]? = some (w, f)) : (wdL [] s).length = f.length + 1 ∧ foldP lines f (wdL [] s).tail { Ln.none with wd := bA (Lib.cut s [32]).1 } = some l := by
  obtain ⟨f2, e1, e2, e3⟩ := lin_words hs h (by omega)
  rw [hk, hf] at e1
  obtain rfl : f = f2 := (congrArg Prod.snd (Option.some.inj e1))
  exact ⟨e2, e3⟩
/-- The first word. -/
theorem lw_wd (hs : s.length ≤ 100000) (h : linF lines s = some l) {k : Nat} {w : List UInt8} {f : List Nat} (hk : wkF l = k) (hf : frmL[k]? = some (w, f)) : (wdL [] s).getD 0 [] = w := by
  obtain ⟨_, _, f2, e1, _⟩ := lin_form hs h
  rw [hk, hf] at e1
  have e := congrArg Prod.fst (Option.some.inj e1)
  obtain ⟨r, hr⟩ := wdL_cut s
  rw [hr]
  exact e.symm
/-- read, list. -/
theorem lw_A (hs : s.length ≤ 100000) (h : linF lines s = some l) (hk : wkF l = 1 ∨ wkF l = 2) : (wdL [] s).length = 3 ∧ WR (wdL [] s) 1 l.r ∧ bA ((wdL [] s).getD 2 []) = l.pa := by
  rcases hk with hk | hk
  · obtain ⟨e2, e3⟩ := lw_frm hs h hk (by decide) rfl
    obtain ⟨w0, g1, g2, e⟩ := lenw3 e2
    rw [e] at e3 ⊢
    obtain ⟨l1, a1, a2⟩ := fold2 e3
    obtain ⟨v, v1, rfl⟩ := tak0 a1
    obtain rfl := tak7 a2
    exact ⟨rfl, reg_one v1, rfl⟩
  · obtain ⟨e2, e3⟩ := lw_frm hs h hk (by decide) rfl
    obtain ⟨w0, g1, g2, e⟩ := lenw3 e2
    rw [e] at e3 ⊢
    obtain ⟨l1, a1, a2⟩ := fold2 e3
    obtain ⟨v, v1, rfl⟩ := tak0 a1
    obtain rfl := tak8 a2
    exact ⟨rfl, reg_one v1, rfl⟩
/-- join, size. -/
theorem lw_B (hs : s.length ≤ 100000) (h : linF lines s = some l) (hk : wkF l = 3 ∨ wkF l = 5) : (wdL [] s).length = 3 ∧ WR (wdL [] s) 1 l.r ∧ WR (wdL [] s) 2 l.s := by
  have key : (wdL [] s).length = 3 ∧ foldP lines [0, 1] (wdL [] s).tail { Ln.none with wd := bA (Lib.cut s [32]).1 } = some l := by
    rcases hk with hk | hk
    · exact lw_frm hs h hk (by decide) rfl
    · exact lw_frm hs h hk (by decide) rfl
  obtain ⟨e2, e3⟩ := key
  obtain ⟨w0, g1, g2, e⟩ := lenw3 e2
  rw [e] at e3 ⊢
  obtain ⟨l1, a1, a2⟩ := fold2 e3
  obtain ⟨v, v1, rfl⟩ := tak0 a1
  obtain ⟨u, u1, rfl⟩ := tak1 a2
  exact ⟨rfl, reg_one v1, reg_one u1⟩
/-- cut. -/
theorem lw_C (hs : s.length ≤ 100000) (h : linF lines s = some l) (hk : wkF l = 4) : (wdL [] s).length = 4 ∧ WR (wdL [] s) 1 l.r ∧ nmbF ((wdL [] s).getD 2 []) ((999999 : Nat) : Int) = (l.n : Int) ∧ nmbF ((wdL [] s).getD 3 []) ((999999 : Nat) : Int) = (l.m : Int) := by
  obtain ⟨e2, e3⟩ := lw_frm hs h hk (by decide) rfl
  obtain ⟨w0, g1, g2, g3, e⟩ := lenw4 e2
  rw [e] at e3 ⊢
  obtain ⟨l1, l2, a1, a2, a3⟩ := fold3 e3
  obtain ⟨v, v1, rfl⟩ := tak0 a1
  obtain ⟨u, u1, rfl⟩ := tak2 a2
  obtain ⟨x, x1, rfl⟩ := tak3 a3
  exact ⟨rfl, reg_one v1, nmb_of u1 (numF_le u1), nmb_of x1 (numF_le x1)⟩
/-- sum. -/
theorem lw_D (hs : s.length ≤ 100000) (h : linF lines s = some l) (hk : wkF l = 6) : (wdL [] s).length = 2 ∧ WR (wdL [] s) 1 l.r := by
  obtain ⟨e2, e3⟩ := lw_frm hs h hk (by decide) rfl
  obtain ⟨w0, g1, e⟩ := lenw2 e2
  rw [e] at e3 ⊢
  obtain ⟨v, v1, rfl⟩ := tak0 (fold1 e3)
  exact ⟨rfl, reg_one v1⟩
/-- make, run. -/
theorem lw_E (hs : s.length ≤ 100000) (h : linF lines s = some l) (hk : wkF l = 7 ∨ wkF l = 8) : (wdL [] s).length = 3 ∧ bA ((wdL [] s).getD 1 []) = l.pa ∧ WR (wdL [] s) 2 l.r := by
  have key : (wdL [] s).length = 3 ∧ foldP lines [7, 0] (wdL [] s).tail { Ln.none with wd := bA (Lib.cut s [32]).1 } = some l := by
    rcases hk with hk | hk
    · exact lw_frm hs h hk (by decide) rfl
    · exact lw_frm hs h hk (by decide) rfl
  obtain ⟨e2, e3⟩ := key
  obtain ⟨w0, g1, g2, e⟩ := lenw3 e2
  rw [e] at e3 ⊢
  obtain ⟨l1, a1, a2⟩ := fold2 e3
  obtain rfl := tak7 a1
  obtain ⟨v, v1, rfl⟩ := tak0 a2
  exact ⟨rfl, rfl, reg_one v1⟩
/-- same, less. -/
theorem lw_F (hs : s.length ≤ 100000) (hn : lines ≤ 60) (h : linF lines s = some l) (hk : wkF l = 9 ∨ wkF l = 10) : (wdL [] s).length = 4 ∧ WR (wdL [] s) 1 l.r ∧ WR (wdL [] s) 2 l.s ∧ nmbF ((wdL [] s).getD 3 []) ((60 : Nat) : Int) = (l.n : Int) := by
  have key : (wdL [] s).length = 4 ∧ foldP lines [0, 1, 4] (wdL [] s).tail { Ln.none with wd := bA (Lib.cut s [32]).1 } = some l := by
    rcases hk with hk | hk
    · exact lw_frm hs h hk (by decide) rfl
    · exact lw_frm hs h hk (by decide) rfl
  obtain ⟨e2, e3⟩ := key
  obtain ⟨w0, g1, g2, g3, e⟩ := lenw4 e2
  rw [e] at e3 ⊢
  obtain ⟨l1, l2, a1, a2, a3⟩ := fold3 e3
  obtain ⟨v, v1, rfl⟩ := tak0 a1
  obtain ⟨u, u1, rfl⟩ := tak1 a2
  obtain ⟨x, x1, x2, rfl⟩ := tak4 a3
  exact ⟨rfl, reg_one v1, reg_one u1, nmb_of x1 (Nat.le_trans x2 hn)⟩
/-- goto. -/
theorem lw_G (hs : s.length ≤ 100000) (hn : lines ≤ 60) (h : linF lines s = some l) (hk : wkF l = 11) : (wdL [] s).length = 2 ∧ nmbF ((wdL [] s).getD 1 []) ((60 : Nat) : Int) = (l.n : Int) := by
  obtain ⟨e2, e3⟩ := lw_frm hs h hk (by decide) rfl
  obtain ⟨w0, g1, e⟩ := lenw2 e2
  rw [e] at e3 ⊢
  obtain ⟨x, x1, x2, rfl⟩ := tak4 (fold1 e3)
  exact ⟨rfl, nmb_of x1 (Nat.le_trans x2 hn)⟩
/-- exit. -/
theorem lw_H (hs : s.length ≤ 100000) (h : linF lines s = some l) (hk : wkF l = 12) : (wdL [] s).length = 2 ∧ nmbF ((wdL [] s).getD 1 []) ((99 : Nat) : Int) = (l.n : Int) := by
  obtain ⟨e2, e3⟩ := lw_frm hs h hk (by decide) rfl
  obtain ⟨w0, g1, e⟩ := lenw2 e2
  rw [e] at e3 ⊢
  obtain ⟨x, x1, x2, rfl⟩ := tak5 (fold1 e3)
  exact ⟨rfl, nmb_of x1 x2⟩
theorem wdN_miss {k : Nat} {t : List UInt8} (h : Lib.indexByte t 32 = -1) : wdN (k + 1) t = [t] := by
  unfold wdN Lib.splitK
  rw [if_pos (beq_iff_eq.2 (by rw [Lib.index_one]; exact h))]
theorem wdN_hit {k i : Nat} {t : List UInt8} (h : Lib.indexByte t 32 = i) : wdN (k + 1) t = t.take i :: wdN k (t.drop (i + 1)) := by
  unfold wdN
  rw [Lib.splitK.eq_def]
  simp only
  rw [if_neg (by rw [Lib.index_one, h]; simp), Lib.index_one, h]
  simp
/-- set. -/
theorem lw_0 (hs : s.length ≤ 100000) (h : linF lines s = some l) (hk : wkF l = 0) : 3 ≤ (wdL [] s).length ∧ WR (wdL [] s) 1 l.r ∧ l.tx = bA (s.drop 6) ∧ 6 ≤ s.length := by
  obtain ⟨_, _, f, f1, f2⟩ := lin_form hs h
  rw [hk] at f1
  have e1 := Option.some.inj f1
  have ef : f = [0, 6] := (congrArg Prod.snd e1).symm
  have ew : (Lib.cut s [32]).1 = [115, 101, 116] := (congrArg Prod.fst e1).symm
  unfold linF at h
  rw [f2, ef] at h
  simp only at h
  split at h
  · cases h
  · rename_i hlen
    have hlen : 3 ≤ (wdN 2 s).length := by simp at hlen; omega
    have ix : ∀ t : List UInt8, Lib.indexByte t 32 = -1 ∨ ∃ i : Nat, Lib.indexByte t 32 = i := fun t => by
      have := Lib.indexByte_ge t 32
      by_cases h : Lib.indexByte t 32 = -1
      · exact .inl h
      · exact .inr ⟨(Lib.indexByte t 32).toNat, by omega⟩
    rcases ix s with h1 | ⟨i, h1⟩
    · rw [wdN_miss h1] at hlen; simp at hlen
    · have hi : s.take i = [115, 101, 116] := by
        unfold Lib.cut at ew
        rw [Lib.index_one, h1, if_pos (by omega)] at ew
        simpa using ew
      rcases ix (s.drop (i + 1)) with h2 | ⟨j, h2⟩
      · rw [wdN_hit h1, wdN_miss h2] at hlen; simp at hlen
      · have h : foldP lines [0, 6] (wdN 2 s).tail { Ln.none with wd := bA (Lib.cut s [32]).1 } = some l := h
        rw [show wdN 2 s = _ from wdN_hit (k := 1) h1, show wdN 1 (s.drop (i + 1)) = _ from wdN_hit (k := 0) h2] at h
        have h : foldP lines [0, 6] [(s.drop (i + 1)).take j, ((s.drop (i + 1)).drop (j + 1))] { Ln.none with wd := bA (Lib.cut s [32]).1 } = some l := h
        obtain ⟨l1, a1, a2⟩ := fold2 h
        obtain ⟨v, v1, rfl⟩ := tak0 a1
        obtain rfl := Option.some.inj (show some { ({ ({ Ln.none with wd := bA (Lib.cut s [32]).1 } : Ln) with r := v } : Ln) with tx := bA ((s.drop (i + 1)).drop (j + 1)) } = some l from a2)
        have hw : wdL [] s = s.take i :: (s.drop (i + 1)).take j :: wdL [] ((s.drop (i + 1)).drop (j + 1)) := by
          rw [wdL_hit s [] i h1, wdL_hit _ [] j h2]; rfl
        obtain ⟨c, c1, c2⟩ := reg_one v1
        have hlt : ∀ (t : List UInt8) (k : Nat), Lib.indexByte t 32 = k → k < t.length := by
          intro t
          induction t with
          | nil => intro k h; simp [Lib.indexByte] at h
          | cons a b ih =>
            intro k h
            unfold Lib.indexByte at h
            by_cases ha : (a == 32) = true
            · rw [ha] at h; simp at h; simp; omega
            · have ha : (a == 32) = false := by simpa using ha
              rw [ha] at h
              have := Lib.indexByte_ge b 32
              by_cases hb : Lib.indexByte b 32 = -1
              · simp [hb] at h
              · simp [hb] at h
                have := ih (k - 1) (by omega)
                simp
                omega
        have b1 := hlt s i h1
        have b2 := hlt _ j h2
        have hi3 : i = 3 := by have := congrArg List.length hi; rw [List.length_take] at this; simp at this; omega
        have hj1 : j = 1 := by have := congrArg List.length c1; rw [List.length_take] at this; simp at this; simp at b2; omega
        subst hi3 hj1
        have hne := wdL_ne ((s.drop 4).drop 2) []
        refine ⟨?_, ⟨c, by rw [hw]; exact c1, c2⟩, ?_, ?_⟩
        · rw [hw]
          cases hx : wdL [] ((s.drop 4).drop 2) with
          | nil => exact absurd hx hne
          | cons a b => simp
        · show bA ((s.drop 4).drop 2) = bA (s.drop 6)
          rw [List.drop_drop]
        · simp at b2; omega
end
end Go.Proofs.YtapiedeekbfpnaaGreatDoor

/- The document's RunCommand: its first switch, at whatever line that is right. -/
namespace Go.Proofs.YtapiedeekbfpnaaGreatDoor
open Go.RowKit Go.Shelf Go.Maps Go.WideMaps Go.Sort
variable {A0 A1 A2 A3 A4 A5 A6 A7 A8 A9 B0 B1 B2 B3 B4 B5 B6 B7 B8 B9 C0 C1 C2 C3 C4 C5 C6 C7 C8 C9 D0 D1 D2 D3 D4 D5 D6 D7 D8 D9 E0 E1 E2 E3 E4 E5 E6 E7 E8 E9 G0 G1 G2 G3 G4 G5 G6 G7 G8 G9 H0 H1 H2 H3 H4 H5 H6 H7 H8 H9 I0 I1 I2 I3 I4 I5 I6 I7 I8 I9 J0 J1 J2 J3 J4 J5 J6 J7 J8 J9 K0 K1 K2 K3 K4 K5 K6 K7 K8 K9 M0 M1 M2 M3 M4 M5 M6 M7 M8 M9 N0 N1 N2 N3 N4 N5 N6 N7 N8 N9 O0 O1 O2 O3 O4 O5 O6 O7 O8 O9 P0 P1 P2 P3 P4 P5 P6 P7 P8 P9 R0 R1 R2 R3 R4 R5 R6 R7 R8 R9 S0 S1 S2 S3 S4 S5 S6 S7 S8 S9 T0 T1 T2 T3 T4 T5 T6 T7 T8 T9 U0 U1 U2 U3 U4 U5 U6 U7 U8 U9 V0 V1 V2 V3 V4 V5 V6 V7 V8 V9 W0 W1 W2 W3 W4 W5 W6 W7 W8 W9 X0 X1 X2 X3 X4 X5 X6 X7 X8 X9 Y0 Y1 Y2 Y3 Y4 Y5 Y6 Y7 Y8 Y9 Z0 Z1 Z2 Z3 Z4 Z5 Z6 Z7 Z8 Z9 j0 j1 j2 j3 j4 j5 j6 j7 j8 j9 o0 o1 o2 o3 o4 o5 o6 o7 o8 o9 y0 y1 y2 y3 y4 y5 y6 y7 y8 y9 z0 z1 z2 z3 z4 z5 z6 z7 z8 z9 x0 x1 x2 x3 x4 x5 x6 x7 x8 x9 i0 i1 i2 i3 i4 i5 i6 i7 i8 i9 d0 d1 d2 d3 d4 d5 d6 d7 d8 d9 e0 e1 e2 e3 e4 e5 e6 e7 e8 e9 f0 f1 f2 f3 f4 f5 f6 f7 f8 f9 p0 p1 p2 p3 p4 p5 p6 p7 p8 p9 v0 v1 v2 v3 v4 v5 v6 v7 v8 : Value}

/-- What the first switch comes to: the code, the register, the text, the path. -/
def Sw (F L : List Fl) (m : Mc) (l : Ln) (c t : Int) (x p : ByteArray) : Prop :=
  (wkF l ≤ 6 ∧ txR F m l = some x ∧ c = 0 ∧ t = (l.r : Int) ∧ p = ⟨#[]⟩) ∨
  (wkF l ≤ 6 ∧ txR F m l = none ∧ c = 101 ∧ t = -1 ∧ x = ⟨#[]⟩ ∧ p = ⟨#[]⟩) ∨
  ((wkF l = 7 ∨ wkF l = 8) ∧ c = cdX (!mayF L l.pa) ∧ t = -1 ∧ x = txF m l.r ∧ p = l.pa) ∨
  (9 ≤ wkF l ∧ c = 0 ∧ t = -1 ∧ x = ⟨#[]⟩ ∧ p = ⟨#[]⟩)
theorem ext6 (s : ByteArray) : s.extract 6 s.size = bA (s.data.toList.drop 6) := ba_ext (by
  show _ = (s.data.toList.drop 6).toArray.toList
  simp only [ByteArray.data_extract, Array.toList_extract, List.extract_eq_take_drop]
  rw [List.take_of_length_le]
  rw [List.length_drop, Array.length_toList]
  exact Nat.le_refl _)
theorem wr_word {w : World} {g : Nat} {ws : List (List UInt8)} (h : WdAt w g ws) {i r : Nat} (hi : i < ws.length) (hr : WR ws i r) : ∃ s1 : ByteArray, w.cell? ⟨g, i, none⟩ = some (.string s1) ∧ ∃ h0 : 0 < s1.size, s1[0].toNat = 97 + r := by
  obtain ⟨c, c1, c2⟩ := hr
  exact ⟨bA [c], by rw [h i hi, c1], by show 0 < 1; decide, c2⟩
theorem find_at {F : List Fl} {p : ByteArray} {f : Fl} (h : fndF F p = some f) : ∃ (j : Nat) (hj : j < F.length), F[j] = f ∧ pth F[j] = p.data.toList ∧ ∀ i (hi : i < F.length), i < j → pth F[i] ≠ p.data.toList := by
  unfold fndF at h
  obtain ⟨h1, ys, bs, h2, h3⟩ := List.find?_eq_some_iff_append.1 h
  have hj : ys.length < F.length := by rw [h2]; simp
  have e : F[ys.length] = f := by simp [h2]
  refine ⟨ys.length, hj, e, by rw [e]; exact of_decide_eq_true h1, fun i hi hij e2 => ?_⟩
  have : F[i] ∈ ys := by
    have : F[i] = ys[i] := by simp [h2, List.getElem_append_left hij]
    rw [this]
    exact List.getElem_mem hij
  have := h3 _ this
  simp [e2] at this
theorem find_no {F : List Fl} {p : ByteArray} (h : fndF F p = none) : ∀ f ∈ F, pth f ≠ p.data.toList := fun f hf e => by
  have := List.find?_eq_none.1 h f hf
  simp [e] at this

set_option maxHeartbeats 8000000 in
set_option maxRecDepth 100000 in
theorem sw_all (ao mo : Option Addr) (ac mc : Nat) (F L : List Fl) (m : Mc) (l : Ln) (s : ByteArray) (lines pw g n cap rg : Nat) (w : World)
    (hlin : linF lines s.data.toList = some l) (hs : s.size ≤ 100000) (hnn : n = (wdL [] s.data.toList).length) (hpw : w.cell? ⟨pw, 0, none⟩ = some (.slice (some ⟨g, 0, none⟩) n cap)) (hwd : WdAt w g (wdL [] s.data.toList))
    (hrg : ∀ i, i < 8 → w.cell? ⟨rg, i, none⟩ = some (.string (txF m i))) (hF : IsFl w ao F) (hTF : TrOk F) (hL : IsFl w mo L) (hm : MOk m L) (Q0 : Exit → Act → World → Prop)
    (hexit : ∀ (c t : Int) (x p : ByteArray), Sw F L m l c t x p → ∀ (Bk Bm Bq Bt Cx Cy Cz Db Dc Df Dg Dh Dj Dk Dm Dq Dt Dv Dw Dx Dy Dz Eb Ec Ef Eg Eh Ej Ek Em Eq Et Ev Ew Ex Ey Ez Gb Gc Gf Gg Gh Gj Gk Gm Gq Gt Gv Gw Gx Gy Gz Hb Hc Hf Hg Hh Hj Hk Hm Hq Ht Hv Hw Hx Hy Hz Ib Ic If Ig Ih Ij Ik Im Iq It Iv Iw Ix Iy Iz Jb Jc Jf Jg Jh Jj Jk Jm Jq Jt Jv Jw Jx Jy Jz Kb Kc Kf Kg Kh Kj Kk Km Kq Kt Kv Kw Kx Ky Kz Mb Mc Mf Mg Mh Mj Mk Mm Mq Mt Mv Mw Mx My Mz Nb Nc Nf Ng Nh Nj Nk Nm Nq Nt Nv Nw Nx Ny Nz Ob Oc Of Og Oh Oj Ok Om Oq Ot Ov Ow Ox Oy Oz Pb Pc Pf Pg Ph Pj Pk Pm Pq Pt Pv Pw Px Py Pz Rb Rc Rf Rg Rh : Value) (w' : World), Hid (Below w.heap.size w w') → Q0 .normal ⟨#[.slice ao F.length ac,A1,A2,A3,A4,A5,A6,A7,A8,.slice (some ⟨rg, 0, none⟩) 8 8,.slice mo L.length mc,B1,B2,.string s,.pointer (some ⟨pw, 0, none⟩),.func (.func 45) #[] #[.pointer (some ⟨pw, 0, none⟩)],B6,.int .i64 c,.int .i64 t,.string x,.string p,Bk,Bm,Bq,Bt,C5,C6,C7,C8,C9,D0,D1,D2,D3,D4,D5,D6,D7,D8,D9,E0,E1,Cx,Cy,Cz,Db,Dc,Df,Dg,Dh,Dj,Dk,Dm,Dq,Dt,Dv,Dw,Dx,Dy,Dz,Eb,Ec,Ef,Eg,Eh,Ej,Ek,Em,Eq,Et,Ev,Ew,Ex,Ey,Ez,Gb,Gc,Gf,Gg,Gh,Gj,Gk,Gm,Gq,Gt,Gv,Gw,Gx,Gy,Gz,Hb,Hc,Hf,Hg,Hh,Hj,Hk,Hm,Hq,Ht,Hv,Hw,Hx,Hy,Hz,Ib,Ic,If,Ig,Ih,Ij,Ik,Im,Iq,It,Iv,Iw,Ix,Iy,Iz,Jb,Jc,Jf,Jg,Jh,Jj,Jk,Jm,Jq,Jt,Jv,Jw,Jx,Jy,Jz,Kb,Kc,Kf,Kg,Kh,Kj,Kk,Km,Kq,Kt,Kv,Kw,Kx,Ky,Kz,Mb,Mc,Mf,Mg,Mh,Mj,Mk,Mm,Mq,Mt,Mv,Mw,Mx,My,Mz,Nb,Nc,Nf,Ng,Nh,Nj,Nk,Nm,Nq,Nt,Nv,Nw,Nx,Ny,Nz,Ob,Oc,Of,Og,Oh,Oj,Ok,Om,Oq,Ot,Ov,Ow,Ox,Oy,Oz,Pb,Pc,Pf,Pg,Ph,Pj,Pk,Pm,Pq,Pt,Pv,Pw,Px,Py,Pz,Rb,Rc,Rf,Rg,Rh,Y5,Y6,Y7,Y8,Y9,Z0,Z1,Z2,Z3,Z4,Z5,Z6,Z7,Z8,Z9,j0,j1,j2,j3,j4,j5,j6,j7,j8,j9,o0,o1,o2,o3,o4,o5,o6,o7,o8,o9,y0,y1,y2,y3,y4,y5,y6,y7,y8,y9,z0,z1,z2,z3,z4,z5,z6,z7,z8,z9,x0,x1,x2,x3,x4,x5,x6,x7,x8,x9,i0,i1,i2,i3,i4,i5,i6,i7,i8,i9,d0,d1,d2,d3,d4,d5,d6,d7,d8,d9,e0,e1,e2,e3,e4,e5,e6,e7,e8,e9,f0,f1,f2,f3,f4,f5,f6,f7,f8,f9,p0,p1,p2,p3,p4,p5,p6,p7,p8,p9,v0,v1,v2,v3,v4,v5,v6,v7,v8], []⟩ w') :
    Code.wp Tryz.prog (subC [true, true, true, true, false, true, false, false, true, false, true, true, true, true, true, true, true, false] (Tryz.f25.body.getD .skip)) Q0 ⟨#[.slice ao F.length ac,A1,A2,A3,A4,A5,A6,A7,A8,.slice (some ⟨rg, 0, none⟩) 8 8,.slice mo L.length mc,B1,B2,.string s,.pointer (some ⟨pw, 0, none⟩),.func (.func 45) #[] #[.pointer (some ⟨pw, 0, none⟩)],B6,.int .i64 0,.int .i64 (-1),.string ⟨#[]⟩,.string ⟨#[]⟩,C1,C2,C3,C4,C5,C6,C7,C8,C9,D0,D1,D2,D3,D4,D5,D6,D7,D8,D9,E0,E1,E2,E3,E4,E5,E6,E7,E8,E9,G0,G1,G2,G3,G4,G5,G6,G7,G8,G9,H0,H1,H2,H3,H4,H5,H6,H7,H8,H9,I0,I1,I2,I3,I4,I5,I6,I7,I8,I9,J0,J1,J2,J3,J4,J5,J6,J7,J8,J9,K0,K1,K2,K3,K4,K5,K6,K7,K8,K9,M0,M1,M2,M3,M4,M5,M6,M7,M8,M9,N0,N1,N2,N3,N4,N5,N6,N7,N8,N9,O0,O1,O2,O3,O4,O5,O6,O7,O8,O9,P0,P1,P2,P3,P4,P5,P6,P7,P8,P9,R0,R1,R2,R3,R4,R5,R6,R7,R8,R9,S0,S1,S2,S3,S4,S5,S6,S7,S8,S9,T0,T1,T2,T3,T4,T5,T6,T7,T8,T9,U0,U1,U2,U3,U4,U5,U6,U7,U8,U9,V0,V1,V2,V3,V4,V5,V6,V7,V8,V9,W0,W1,W2,W3,W4,W5,W6,W7,W8,W9,X0,X1,X2,X3,X4,X5,X6,X7,X8,X9,Y0,Y1,Y2,Y3,Y4,Y5,Y6,Y7,Y8,Y9,Z0,Z1,Z2,Z3,Z4,Z5,Z6,Z7,Z8,Z9,j0,j1,j2,j3,j4,j5,j6,j7,j8,j9,o0,o1,o2,o3,o4,o5,o6,o7,o8,o9,y0,y1,y2,y3,y4,y5,y6,y7,y8,y9,z0,z1,z2,z3,z4,z5,z6,z7,z8,z9,x0,x1,x2,x3,x4,x5,x6,x7,x8,x9,i0,i1,i2,i3,i4,i5,i6,i7,i8,i9,d0,d1,d2,d3,d4,d5,d6,d7,d8,d9,e0,e1,e2,e3,e4,e5,e6,e7,e8,e9,f0,f1,f2,f3,f4,f5,f6,f7,f8,f9,p0,p1,p2,p3,p4,p5,p6,p7,p8,p9,v0,v1,v2,v3,v4,v5,v6,v7,v8], []⟩ w := by
  have hs2 : s.data.toList.length ≤ 100000 := by rw [Array.length_toList]; exact hs
  obtain ⟨hok, _⟩ := linF_ok hs2 hlin
  have h13 : wkF l < 13 := (lin_form hs2 hlin).1
  have hlf : F.length ≤ 60 := hTF.ln
  have wz : ∀ i, (bA ((wdL [] s.data.toList).getD i [])).size ≤ 1000000 := fun i => by
    rw [show (bA ((wdL [] s.data.toList).getD i [])).size = ((wdL [] s.data.toList).getD i []).length from List.size_toArray]
    rw [List.getD_eq_getElem?_getD]
    cases hx : (wdL [] s.data.toList)[i]? with
    | none => simp
    | some x =>
      have := wdL_mem s.data.toList [] x (List.mem_of_getElem? hx)
      simp only [List.length_nil, Option.getD_some] at *
      omega
  have tz : ∀ i, (txF m i).size ≤ 1000000 := fun i => by have := txF_size hm i; omega
  have h0 : ∀ {k : Nat} {wd : List UInt8} {f : List Nat}, wkF l = k → frmL[k]? = some (wd, f) → w.cell? ⟨g, 0, none⟩ = some (.string (bA wd)) := fun hk hf => by
    have hne : (wdL [] s.data.toList).length ≠ 0 := fun e => wdL_ne _ _ (List.length_eq_zero_iff.1 e)
    rw [hwd 0 (by omega), lw_wd hs2 hlin hk hf]
  match hk : wkF l, h13 with
  | 0, _ =>
    obtain ⟨e1, e2, e3, e4⟩ := lw_0 hs2 hlin hk
    obtain ⟨s1, a1, a2, a3⟩ := wr_word hwd (by omega) e2
    rw [Array.length_toList] at e4
    refine setW pw g n cap rg l.r s s1 w hpw (h0 hk rfl) (by omega) a1 a2 a3 e4 (by omega) Q0 ?_
    rw [ext6, ← e3]
    exact hexit 0 _ l.tx _ (.inl ⟨by omega, by unfold txR; simp only [hk], rfl, rfl, rfl⟩)
  | 1, _ =>
    obtain ⟨e1, e2, e3⟩ := lw_A hs2 hlin (.inl hk)
    obtain ⟨s1, a1, a2, a3⟩ := wr_word hwd (by omega) e2
    have c2 := hwd 2 (by omega)
    rw [e3] at c2
    cases hf : fndF F l.pa with
    | none => exact read0W pw g n cap rg ac ao F l.pa w hpw (h0 hk rfl) (by omega) c2 hF (by omega) (find_no hf) Q0 (hexit 101 _ _ _ (.inr (.inl ⟨by omega, by unfold txR; simp only [hk, hf]; rfl, rfl, rfl, rfl, rfl⟩)))
    | some f =>
      obtain ⟨j, hj, j1, j2, j3⟩ := find_at hf
      exact read1W pw g n cap rg l.r ac j ao F s1 l.pa w hpw (h0 hk rfl) (by omega) a1 a2 a3 c2 hF (by omega) hj j2 j3 Q0 (hexit 0 _ _ _ (.inl ⟨by omega, by unfold txR; simp only [hk, hf]; rw [j1]; rfl, rfl, rfl, rfl⟩))
  | 2, _ =>
    obtain ⟨e1, e2, e3⟩ := lw_A hs2 hlin (.inr hk)
    obtain ⟨s1, a1, a2, a3⟩ := wr_word hwd (by omega) e2
    have c2 := hwd 2 (by omega)
    rw [e3] at c2
    exact listW pw g n cap rg l.r ac ao F s1 l.pa w hpw (h0 hk rfl) (by omega) a1 a2 a3 c2 hF (by omega) (fun f hf => flE_pa100 (hTF.fl f hf)) Q0 (hexit 0 _ _ _ (.inl ⟨by omega, by unfold txR; simp only [hk], rfl, rfl, rfl⟩))
  | 3, _ =>
    obtain ⟨e1, e2, e3⟩ := lw_B hs2 hlin (.inl hk)
    obtain ⟨s1, a1, a2, a3⟩ := wr_word hwd (by omega) e2
    obtain ⟨s2, b1, b2, b3⟩ := wr_word hwd (by omega) e3
    exact joinW pw g n cap rg l.r l.s s1 s2 _ _ w hpw (h0 hk rfl) (by omega) a1 a2 a3 b1 b2 b3 hok.r hok.s (hrg _ hok.r) (hrg _ hok.s) (tz _) (tz _) Q0 (hexit 0 _ _ _ (.inl ⟨by omega, by unfold txR; simp only [hk], rfl, rfl, rfl⟩))
  | 4, _ =>
    obtain ⟨e1, e2, e3, e4⟩ := lw_C hs2 hlin hk
    obtain ⟨s1, a1, a2, a3⟩ := wr_word hwd (by omega) e2
    exact cutW pw g n cap rg l.r l.n l.m s1 _ _ _ w hpw (h0 hk rfl) (by omega) a1 a2 a3 (hwd 2 (by omega)) (hwd 3 (by omega)) e3 (wz 2) e4 (wz 3) hok.m hok.n hok.r (hrg _ hok.r) Q0 (hexit 0 _ _ _ (.inl ⟨by omega, by unfold txR; simp only [hk], rfl, rfl, rfl⟩))
  | 5, _ =>
    obtain ⟨e1, e2, e3⟩ := lw_B hs2 hlin (.inr hk)
    obtain ⟨s1, a1, a2, a3⟩ := wr_word hwd (by omega) e2
    obtain ⟨s2, b1, b2, b3⟩ := wr_word hwd (by omega) e3
    exact size_W pw g n cap rg l.r l.s s1 s2 _ w hpw (h0 hk rfl) (by omega) a1 a2 a3 b1 b2 b3 hok.s (hrg _ hok.s) (tz _) Q0 (hexit 0 _ _ _ (.inl ⟨by omega, by unfold txR; simp only [hk], rfl, rfl, rfl⟩))
  | 6, _ =>
    obtain ⟨e1, e2⟩ := lw_D hs2 hlin hk
    obtain ⟨s1, a1, a2, a3⟩ := wr_word hwd (by omega) e2
    exact sumW pw g n cap rg l.r s1 _ w hpw (h0 hk rfl) (by omega) a1 a2 a3 hok.r (hrg _ hok.r) (tz _) Q0 (hexit 0 _ _ _ (.inl ⟨by omega, by unfold txR; simp only [hk], rfl, rfl, rfl⟩))
  | 7, _ =>
    obtain ⟨e1, e2, e3⟩ := lw_E hs2 hlin (.inl hk)
    obtain ⟨s2, b1, b2, b3⟩ := wr_word hwd (by omega) e3
    have c1 := hwd 1 (by omega)
    rw [e2] at c1
    exact makeW pw g n cap rg l.r mc mo L l.pa s2 _ w hpw (h0 hk rfl) (by omega) c1 b1 b2 b3 hok.r (hrg _ hok.r) hL hm.tr Q0 (hexit _ _ _ _ (.inr (.inr (.inl ⟨.inl hk, rfl, rfl, rfl, rfl⟩))))
  | 8, _ =>
    obtain ⟨e1, e2, e3⟩ := lw_E hs2 hlin (.inr hk)
    obtain ⟨s2, b1, b2, b3⟩ := wr_word hwd (by omega) e3
    have c1 := hwd 1 (by omega)
    rw [e2] at c1
    exact runW pw g n cap rg l.r mc mo L l.pa s2 _ w hpw (h0 hk rfl) (by omega) c1 b1 b2 b3 hok.r (hrg _ hok.r) hL hm.tr Q0 (hexit _ _ _ _ (.inr (.inr (.inl ⟨.inr hk, rfl, rfl, rfl, rfl⟩))))
  | 9, _ =>
    exact same_W pw g n cap rg w hpw (h0 hk rfl) (by have := wdL_ne s.data.toList []; have := List.length_pos_iff.2 this; omega) Q0 (hexit _ _ _ _ (.inr (.inr (.inr ⟨by omega, rfl, rfl, rfl, rfl⟩))))
  | 10, _ =>
    exact less_W pw g n cap rg w hpw (h0 hk rfl) (by have := wdL_ne s.data.toList []; have := List.length_pos_iff.2 this; omega) Q0 (hexit _ _ _ _ (.inr (.inr (.inr ⟨by omega, rfl, rfl, rfl, rfl⟩))))
  | 11, _ =>
    exact goto_W pw g n cap rg w hpw (h0 hk rfl) (by have := wdL_ne s.data.toList []; have := List.length_pos_iff.2 this; omega) Q0 (hexit _ _ _ _ (.inr (.inr (.inr ⟨by omega, rfl, rfl, rfl, rfl⟩))))
  | 12, _ =>
    exact exit_W pw g n cap rg w hpw (h0 hk rfl) (by have := wdL_ne s.data.toList []; have := List.length_pos_iff.2 this; omega) Q0 (hexit _ _ _ _ (.inr (.inr (.inr ⟨by omega, rfl, rfl, rfl, rfl⟩))))
  | k + 13, h => omega
end Go.Proofs.YtapiedeekbfpnaaGreatDoor

/- The document's RunCommand: behind its first switch, at whatever line that is right: what the program's machine comes to. -/
namespace Go.Proofs.YtapiedeekbfpnaaGreatDoor
open Go.RowKit Go.Shelf Go.Maps Go.WideMaps Go.Sort
variable {A0 A1 A2 A3 A4 A5 A6 A7 A8 A9 B0 B1 B2 B3 B4 B5 B6 B7 B8 B9 C0 C1 C2 C3 C4 C5 C6 C7 C8 C9 D0 D1 D2 D3 D4 D5 D6 D7 D8 D9 E0 E1 E2 E3 E4 E5 E6 E7 E8 E9 G0 G1 G2 G3 G4 G5 G6 G7 G8 G9 H0 H1 H2 H3 H4 H5 H6 H7 H8 H9 I0 I1 I2 I3 I4 I5 I6 I7 I8 I9 J0 J1 J2 J3 J4 J5 J6 J7 J8 J9 K0 K1 K2 K3 K4 K5 K6 K7 K8 K9 M0 M1 M2 M3 M4 M5 M6 M7 M8 M9 N0 N1 N2 N3 N4 N5 N6 N7 N8 N9 O0 O1 O2 O3 O4 O5 O6 O7 O8 O9 P0 P1 P2 P3 P4 P5 P6 P7 P8 P9 R0 R1 R2 R3 R4 R5 R6 R7 R8 R9 S0 S1 S2 S3 S4 S5 S6 S7 S8 S9 T0 T1 T2 T3 T4 T5 T6 T7 T8 T9 U0 U1 U2 U3 U4 U5 U6 U7 U8 U9 V0 V1 V2 V3 V4 V5 V6 V7 V8 V9 W0 W1 W2 W3 W4 W5 W6 W7 W8 W9 X0 X1 X2 X3 X4 X5 X6 X7 X8 X9 Y0 Y1 Y2 Y3 Y4 Y5 Y6 Y7 Y8 Y9 Z0 Z1 Z2 Z3 Z4 Z5 Z6 Z7 Z8 Z9 j0 j1 j2 j3 j4 j5 j6 j7 j8 j9 o0 o1 o2 o3 o4 o5 o6 o7 o8 o9 y0 y1 y2 y3 y4 y5 y6 y7 y8 y9 z0 z1 z2 z3 z4 z5 z6 z7 z8 z9 x0 x1 x2 x3 x4 x5 x6 x7 x8 x9 i0 i1 i2 i3 i4 i5 i6 i7 i8 i9 d0 d1 d2 d3 d4 d5 d6 d7 d8 d9 e0 e1 e2 e3 e4 e5 e6 e7 e8 e9 f0 f1 f2 f3 f4 f5 f6 f7 f8 f9 p0 p1 p2 p3 p4 p5 p6 p7 p8 p9 v0 v1 v2 v3 v4 v5 v6 v7 v8 : Value}

theorem path_ne {p : ByteArray} (h : pathOk p = true) : (p.toList == []) = false := by
  rw [Lib.toList_data]
  cases e : p.data.toList with
  | nil =>
    exfalso
    unfold pathOk piecesB at h
    rw [Bool.and_eq_true, e] at h
    have h2 : nameOk (bA []) = true := by simpa [parts, bA] using h.2
    unfold nameOk at h2
    rw [Lib.toList_data] at h2
    simp [bA] at h2
  | cons a b => rfl
theorem not4 : ∀ j, j < 9 → ∀ wd f, frmL[j]? = some (wd, f) → ((bA wd).toList == [115, 97, 109, 101]) = false ∧ ((bA wd).toList == [108, 101, 115, 115]) = false ∧ ((bA wd).toList == [103, 111, 116, 111]) = false ∧ ((bA wd).toList == [101, 120, 105, 116]) = false := by
  have key : ∀ j, j < 9 → ∀ p, frmL[j]? = some p → decide (p.1 = [115, 97, 109, 101]) = false ∧ decide (p.1 = [108, 101, 115, 115]) = false ∧ decide (p.1 = [103, 111, 116, 111]) = false ∧ decide (p.1 = [101, 120, 105, 116]) = false := by
    intro j hj p hp
    match j, hj with
    | 0, _ => obtain rfl := Option.some.inj hp; decide
    | 1, _ => obtain rfl := Option.some.inj hp; decide
    | 2, _ => obtain rfl := Option.some.inj hp; decide
    | 3, _ => obtain rfl := Option.some.inj hp; decide
    | 4, _ => obtain rfl := Option.some.inj hp; decide
    | 5, _ => obtain rfl := Option.some.inj hp; decide
    | 6, _ => obtain rfl := Option.some.inj hp; decide
    | 7, _ => obtain rfl := Option.some.inj hp; decide
    | 8, _ => obtain rfl := Option.some.inj hp; decide
    | j + 9, h => omega
  intro j hj wd f hf
  rw [eqb, eqb, eqb, eqb]
  exact key j hj _ hf
theorem IsFl.upB {w w' : World} {ao : Option Addr} {L : List Fl} {P : Nat} (h : IsFl w ao L) (hu : UpB P w w') (hn : ∀ x, ao = some x → x.block ≠ P) : IsFl w' ao L := by
  rcases h with h | ⟨g, o, rfl, hg, hc⟩
  · exact .inl h
  · exact .inr ⟨g, o, rfl, Nat.lt_of_lt_of_le hg hu.size, flAt_heap hc (hu.block g hg (hn _ rfl))⟩

/-- What a line leaves behind, if it goes on. -/
structure NxOk (F L : List Fl) (m : Mc) (l : Ln) (rg : Nat) (w w' : World) (ra : Option Addr) (rc : Nat) : Prop where
  run : (doM F L m l).ended = false
  up : UpB rg w w'
  regs : w'.heap[rg]? = some (.cells ((doM F L m l).tx.map Value.string).toArray 9 (0, 0))
  fl : IsFl w' ra (doL L m l)
  cap : (doL L m l).length ≤ rc
  nil : ra = none → rc = 0
  ne : ∀ x, ra = some x → x.block ≠ rg
theorem reg_cell {w : World} {rg : Nat} {m : Mc} {L : List Fl} (h : w.heap[rg]? = some (.cells (m.tx.map Value.string).toArray 9 (0, 0))) (hm : MOk m L) {i : Nat} (hi : i < 8) : w.cell? ⟨rg, i, none⟩ = some (.string (txF m i)) := by
  rw [Lib.cell_of_heap h, List.getElem?_toArray, List.getElem?_map, txF_get hm hi]
  rfl
theorem map_set (tx : List ByteArray) (r : Nat) (x : ByteArray) : (tx.map Value.string).toArray.setIfInBounds r (.string x) = ((tx.set r x).map Value.string).toArray := by
  rw [List.setIfInBounds_toArray, List.map_set]

set_option maxHeartbeats 8000000 in
set_option maxRecDepth 100000 in
theorem tl_all (mo : Option Addr) (mc : Nat) (F L : List Fl) (m : Mc) (l : Ln) (s : ByteArray) (lines pw g n cap rg fu : Nat) (c t : Int) (x p : ByteArray) (w : World)
    (hlin : linF lines s.data.toList = some l) (hs : s.size ≤ 100000) (hlines : lines ≤ 60) (hnn : n = (wdL [] s.data.toList).length) (hpw : w.cell? ⟨pw, 0, none⟩ = some (.slice (some ⟨g, 0, none⟩) n cap)) (hwd : WdAt w g (wdL [] s.data.toList))
    (hrb : w.heap[rg]? = some (.cells (m.tx.map Value.string).toArray 9 (0, 0))) (hpr : pw ≠ rg) (hgr : g ≠ rg)
    (hL : IsFl w mo L) (hmc : L.length ≤ mc) (hmn : mo = none → mc = 0) (hmr : ∀ x, mo = some x → x.block ≠ rg) (hm : MOk m L) (hen : m.ended = false) (hfu : fu ≤ 100000) (hfl : m.fuel ≤ fu) (hsw : Sw F L m l c t x p) (Q0 : Exit → Act → World → Prop)
    (hret : ∀ (code sp : Nat), (doM F L m l).ended = true → (doM F L m l).code = code → sp = fu - (doM F L m l).fuel → doL L m l = L → ∀ (Ab Ac Af Ag Ah Aj At Av Aw Ax Ay Az Bb Bc Bf Bg Bh Bj Bk Bm Bq Bt Bv Bw Bx By Bz Cb Cc Cf Cg Ch Cj Ck Cm Cq Ct Cv Cw Cx Cy Cz Db Dc Df Dg Dh Dj Dk Dm Dq Dt Dv Dw Dx Dy Dz Eb Ec Ef Eg Eh Ej Ek Em Eq Et Ev Ew Ex Ey Ez Gb Gc Gf Gg Gh Gj Gk Gm Gq Gt Gv Gw Gx Gy Gz Hb Hc Hf Hg Hh Hj Hk Hm Hq Ht Hv Hw Hx Hy Hz Ib Ic If Ig Ih Ij Ik Im Iq It Iv Iw Ix Iy Iz Jb Jc Jf Jg Jh Jj Jk Jm Jq Jt Jv Jw Jx Jy Jz Kb Kc Kf Kg Kh Kj Kk Km Kq Kt Kv Kw Kx Ky Kz Mb Mc Mf Mg Mh Mj Mk Mm Mq Mt Mv Mw Mx My Mz Nb Nc Nf Ng Nh Nj Nk Nm Nq Nt Nv Nw Nx Ny Nz Ob Oc Of Og Oh Oj Ok Om Oq Ot Ov Ow Ox Oy Oz Pb Pc Pf Pg Ph Pj Pk Pm Pq Pt Pv Pw Px Py Pz Rb Rc Rf Rg Rh Rj Rk Rm Rq Rt Rv Rw Rx Ry Rz Sb Sc Sf Sg Sh Sj Sk Sm Sq St Sv Sw Sx Sy Sz Tb Tc Tf Tg Th Tj Tk Tm Tq Tt Tv Tw Tx Ty Tz Ub Uc Uf Ug Uh Uj Uk Um Uq Ut Uv Uw Ux Uy Uz Vb Vc Vf Vg Vh Vj Vk Vm Vq Vt Vv Vw Vx Vy Vz Wb Wc Wf Wg Wh Wj Wk Wm Wq Wt Wv Ww Wx Wy Wz Xb Xc Xf Xg Xh Xj Xk Xm Xq Xt Xv Xw Xx Xy Xz Yb Yc Yf Yg Yh Yj Yk Ym Yq Yt Yv Yw Yx Yy Yz Zb Zc Zf Zg Zh Zj Zk Zm Zq : Value), Q0 .ret ⟨#[Ab,Ac,Af,Ag,Ah,Aj,.slice mo L.length mc,.int .i64 (code : Int),.int .i64 (sp : Int),At,Av,Aw,Ax,Ay,Az,Bb,Bc,Bf,Bg,Bh,Bj,Bk,Bm,Bq,Bt,Bv,Bw,Bx,By,Bz,Cb,Cc,Cf,Cg,Ch,Cj,Ck,Cm,Cq,Ct,Cv,Cw,Cx,Cy,Cz,Db,Dc,Df,Dg,Dh,Dj,Dk,Dm,Dq,Dt,Dv,Dw,Dx,Dy,Dz,Eb,Ec,Ef,Eg,Eh,Ej,Ek,Em,Eq,Et,Ev,Ew,Ex,Ey,Ez,Gb,Gc,Gf,Gg,Gh,Gj,Gk,Gm,Gq,Gt,Gv,Gw,Gx,Gy,Gz,Hb,Hc,Hf,Hg,Hh,Hj,Hk,Hm,Hq,Ht,Hv,Hw,Hx,Hy,Hz,Ib,Ic,If,Ig,Ih,Ij,Ik,Im,Iq,It,Iv,Iw,Ix,Iy,Iz,Jb,Jc,Jf,Jg,Jh,Jj,Jk,Jm,Jq,Jt,Jv,Jw,Jx,Jy,Jz,Kb,Kc,Kf,Kg,Kh,Kj,Kk,Km,Kq,Kt,Kv,Kw,Kx,Ky,Kz,Mb,Mc,Mf,Mg,Mh,Mj,Mk,Mm,Mq,Mt,Mv,Mw,Mx,My,Mz,Nb,Nc,Nf,Ng,Nh,Nj,Nk,Nm,Nq,Nt,Nv,Nw,Nx,Ny,Nz,Ob,Oc,Of,Og,Oh,Oj,Ok,Om,Oq,Ot,Ov,Ow,Ox,Oy,Oz,Pb,Pc,Pf,Pg,Ph,Pj,Pk,Pm,Pq,Pt,Pv,Pw,Px,Py,Pz,Rb,Rc,Rf,Rg,Rh,Rj,Rk,Rm,Rq,Rt,Rv,Rw,Rx,Ry,Rz,Sb,Sc,Sf,Sg,Sh,Sj,Sk,Sm,Sq,St,Sv,Sw,Sx,Sy,Sz,Tb,Tc,Tf,Tg,Th,Tj,Tk,Tm,Tq,Tt,Tv,Tw,Tx,Ty,Tz,Ub,Uc,Uf,Ug,Uh,Uj,Uk,Um,Uq,Ut,Uv,Uw,Ux,Uy,Uz,Vb,Vc,Vf,Vg,Vh,Vj,Vk,Vm,Vq,Vt,Vv,Vw,Vx,Vy,Vz,Wb,Wc,Wf,Wg,Wh,Wj,Wk,Wm,Wq,Wt,Wv,Ww,Wx,Wy,Wz,Xb,Xc,Xf,Xg,Xh,Xj,Xk,Xm,Xq,Xt,Xv,Xw,Xx,Xy,Xz,Yb,Yc,Yf,Yg,Yh,Yj,Yk,Ym,Yq,Yt,Yv,Yw,Yx,Yy,Yz,Zb,Zc,Zf,Zg,Zh,Zj,Zk,Zm,Zq], []⟩ w)
    (hnext : ∀ (ra : Option Addr) (rc : Nat) (w' : World), NxOk F L m l rg w w' ra rc → ∀ (Ak Am Aq Ay Az Bb Bc Bf Bg Bh Bj Bk Bm Bq Bt Bv Bw Bz Cb Cc Cf Cg Ch Cj Ck Cm Cq Ct Cv Cw Cx Cy Cz Db Dc Df Dg Dh Dj Dk Dm Dq Dt Dv Dw Dx Dy Dz Eb Ec Ef Eg Eh Ej Ek Em Eq Et Ev Ew Ex Ey Ez Gb Gc Gf Gg Gh Gj Gk Gm Gq Gt Gv Gw Gx Gy Gz Hb Hc Hf Hg Hh Hj Hk Hm Hq Ht Hv Hw Hx Hy Hz Ib Ic If Ig Ih Ij Ik Im Iq It Iv Iw Ix Iy Iz Jb Jc Jf Jg Jh Jj Jk Jm Jq Jt Jv Jw Jx Jy Jz Kb Kc Kf Kg Kh Kj Kk Km Kq Kt Kv Kw Kx Ky Kz Mb Mc Mf Mg Mh Mj Mk Mm Mq Mt Mv Mw Mx My Mz Nb Nc Nf Ng Nh Nj Nk Nm Nq Nt Nv Nw Nx Ny Nz Ob Oc Of Og Oh Oj Ok Om Oq Ot Ov Ow Ox Oy Oz Pb Pc Pf Pg Ph Pj Pk Pm Pq Pt Pv Pw Px Py Pz Rb Rc Rf Rg Rh Rj Rk Rm Rq Rt Rv Rw Rx Ry Rz Sb Sc Sf Sg Sh Sj Sk Sm Sq St Sv Sw Sx Sy Sz Tb Tc Tf Tg Th Tj Tk Tm Tq Tt Tv Tw Tx Ty Tz Ub Uc Uf Ug Uh Uj Uk Um Uq Ut Uv Uw Ux Uy Uz Vb Vc Vf Vg Vh Vj Vk Vm Vq Vt Vv Vw Vx Vy Vz Wb Wc Wf Wg Wh Wj Wk Wm Wq Wt Wv Ww Wx Wy Wz Xb Xc Xf Xg Xh Xj Xk Xm Xq Xt Xv Xw Xx Xy Xz Yb Yc Yf Yg Yh Yj Yk Ym Yq Yt Yv Yw Yx Yy Yz Zb Zc Zf Zg Zh : Value), Q0 .normal ⟨#[A0,A1,.int .i64 (fu : Int),A3,A4,A5,Ak,Am,Aq,.slice (some ⟨rg, 0, none⟩) 8 8,.slice ra (doL L m l).length rc,.int .i64 ((doM F L m l).fuel : Int),.int .i64 ((doM F L m l).next : Int),Ay,Az,Bb,Bc,Bf,Bg,Bh,Bj,Bk,Bm,Bq,Bt,Bv,Bw,C7,C8,Bz,Cb,Cc,Cf,Cg,Ch,Cj,Ck,Cm,Cq,Ct,Cv,Cw,Cx,Cy,Cz,Db,Dc,Df,Dg,Dh,Dj,Dk,Dm,Dq,Dt,Dv,Dw,Dx,Dy,Dz,Eb,Ec,Ef,Eg,Eh,Ej,Ek,Em,Eq,Et,Ev,Ew,Ex,Ey,Ez,Gb,Gc,Gf,Gg,Gh,Gj,Gk,Gm,Gq,Gt,Gv,Gw,Gx,Gy,Gz,Hb,Hc,Hf,Hg,Hh,Hj,Hk,Hm,Hq,Ht,Hv,Hw,Hx,Hy,Hz,Ib,Ic,If,Ig,Ih,Ij,Ik,Im,Iq,It,Iv,Iw,Ix,Iy,Iz,Jb,Jc,Jf,Jg,Jh,Jj,Jk,Jm,Jq,Jt,Jv,Jw,Jx,Jy,Jz,Kb,Kc,Kf,Kg,Kh,Kj,Kk,Km,Kq,Kt,Kv,Kw,Kx,Ky,Kz,Mb,Mc,Mf,Mg,Mh,Mj,Mk,Mm,Mq,Mt,Mv,Mw,Mx,My,Mz,Nb,Nc,Nf,Ng,Nh,Nj,Nk,Nm,Nq,Nt,Nv,Nw,Nx,Ny,Nz,Ob,Oc,Of,Og,Oh,Oj,Ok,Om,Oq,Ot,Ov,Ow,Ox,Oy,Oz,Pb,Pc,Pf,Pg,Ph,Pj,Pk,Pm,Pq,Pt,Pv,Pw,Px,Py,Pz,Rb,Rc,Rf,Rg,Rh,Rj,Rk,Rm,Rq,Rt,Rv,Rw,Rx,Ry,Rz,Sb,Sc,Sf,Sg,Sh,Sj,Sk,Sm,Sq,St,Sv,Sw,Sx,Sy,Sz,Tb,Tc,Tf,Tg,Th,Tj,Tk,Tm,Tq,Tt,Tv,Tw,Tx,Ty,Tz,Ub,Uc,Uf,Ug,Uh,Uj,Uk,Um,Uq,Ut,Uv,Uw,Ux,Uy,Uz,Vb,Vc,Vf,Vg,Vh,Vj,Vk,Vm,Vq,Vt,Vv,Vw,Vx,Vy,Vz,Wb,Wc,Wf,Wg,Wh,Wj,Wk,Wm,Wq,Wt,Wv,Ww,Wx,Wy,Wz,Xb,Xc,Xf,Xg,Xh,Xj,Xk,Xm,Xq,Xt,Xv,Xw,Xx,Xy,Xz,Yb,Yc,Yf,Yg,Yh,Yj,Yk,Ym,Yq,Yt,Yv,Yw,Yx,Yy,Yz,Zb,Zc,Zf,Zg,Zh,v5,v6,v7,v8], []⟩ w') :
    Code.wp Tryz.prog (subC [true, true, true, true, false, true, false, false, true, false, true, true, true, true, true, true, true, true] (Tryz.f25.body.getD .skip)) Q0 ⟨#[A0,A1,.int .i64 (fu : Int),A3,A4,A5,A6,A7,A8,.slice (some ⟨rg, 0, none⟩) 8 8,.slice mo L.length mc,.int .i64 (m.fuel : Int),.int .i64 (m.next : Int),B3,.pointer (some ⟨pw, 0, none⟩),.func (.func 45) #[] #[.pointer (some ⟨pw, 0, none⟩)],.int .i64 1,.int .i64 c,.int .i64 t,.string x,.string p,C1,C2,C3,C4,C5,C6,C7,C8,C9,D0,D1,D2,D3,D4,D5,D6,D7,D8,D9,E0,E1,E2,E3,E4,E5,E6,E7,E8,E9,G0,G1,G2,G3,G4,G5,G6,G7,G8,G9,H0,H1,H2,H3,H4,H5,H6,H7,H8,H9,I0,I1,I2,I3,I4,I5,I6,I7,I8,I9,J0,J1,J2,J3,J4,J5,J6,J7,J8,J9,K0,K1,K2,K3,K4,K5,K6,K7,K8,K9,M0,M1,M2,M3,M4,M5,M6,M7,M8,M9,N0,N1,N2,N3,N4,N5,N6,N7,N8,N9,O0,O1,O2,O3,O4,O5,O6,O7,O8,O9,P0,P1,P2,P3,P4,P5,P6,P7,P8,P9,R0,R1,R2,R3,R4,R5,R6,R7,R8,R9,S0,S1,S2,S3,S4,S5,S6,S7,S8,S9,T0,T1,T2,T3,T4,T5,T6,T7,T8,T9,U0,U1,U2,U3,U4,U5,U6,U7,U8,U9,V0,V1,V2,V3,V4,V5,V6,V7,V8,V9,W0,W1,W2,W3,W4,W5,W6,W7,W8,W9,X0,X1,X2,X3,X4,X5,X6,X7,X8,X9,Y0,Y1,Y2,Y3,Y4,Y5,Y6,Y7,Y8,Y9,Z0,Z1,Z2,Z3,Z4,Z5,Z6,Z7,Z8,Z9,j0,j1,j2,j3,j4,j5,j6,j7,j8,j9,o0,o1,o2,o3,o4,o5,o6,o7,o8,o9,y0,y1,y2,y3,y4,y5,y6,y7,y8,y9,z0,z1,z2,z3,z4,z5,z6,z7,z8,z9,x0,x1,x2,x3,x4,x5,x6,x7,x8,x9,i0,i1,i2,i3,i4,i5,i6,i7,i8,i9,d0,d1,d2,d3,d4,d5,d6,d7,d8,d9,e0,e1,e2,e3,e4,e5,e6,e7,e8,e9,f0,f1,f2,f3,f4,f5,f6,f7,f8,f9,p0,p1,p2,p3,p4,p5,p6,p7,p8,p9,v0,v1,v2,v3,v4,v5,v6,v7,v8], []⟩ w := by
  have hs2 : s.data.toList.length ≤ 100000 := by rw [Array.length_toList]; exact hs
  obtain ⟨hok, _⟩ := linF_ok hs2 hlin
  have h13 : wkF l < 13 := (lin_form hs2 hlin).1
  have hnz : (wdL [] s.data.toList).length ≠ 0 := fun e => wdL_ne _ _ (List.length_eq_zero_iff.1 e)
  have hn0 : 0 < n := by omega
  have h0 : ∀ {k : Nat} {wd : List UInt8} {f : List Nat}, wkF l = k → frmL[k]? = some (wd, f) → w.cell? ⟨g, 0, none⟩ = some (.string (bA wd)) := fun hk hf => by
    rw [hwd 0 (by omega), lw_wd hs2 hlin hk hf]
  have wz : ∀ i, (bA ((wdL [] s.data.toList).getD i [])).size ≤ 1000000 := fun i => by
    rw [show (bA ((wdL [] s.data.toList).getD i [])).size = ((wdL [] s.data.toList).getD i []).length from List.size_toArray]
    rw [List.getD_eq_getElem?_getD]
    cases hx : (wdL [] s.data.toList)[i]? with
    | none => simp
    | some x =>
      have := wdL_mem s.data.toList [] x (List.mem_of_getElem? hx)
      simp only [List.length_nil, Option.getD_some] at this ⊢
      omega
  have hdo := do_eq F L m l
  have hdl := doL_eq F L m l
  rcases hsw with ⟨h6, hx, rfl, rfl, rfl⟩ | ⟨h6, hx, rfl, rfl, rfl, rfl⟩ | ⟨h78, rfl, rfl, rfl, rfl⟩ | ⟨h9, rfl, rfl, rfl, rfl⟩
  · have hdl2 : doL L m l = L := by
      rw [hdl]
      unfold finL
      rw [if_neg (show ¬ ((wkF l = 7 ∨ wkF l = 8) ∧ mayF L l.pa = true) from fun h => by omega)]
      split <;> rfl
    by_cases hb : 100000 < x.size
    · have ec : cst F L m l = 1 := by unfold cst; rw [if_pos h6, hx]; simp only; rw [if_pos hb]
      have ef : fin F L m l = { m with ended := true, code := 102 } := by unfold fin; rw [if_pos h6, hx]; simp only; rw [if_pos hb]
      rw [ec, ef] at hdo
      refine bigT pw fu m.fuel l.r (fu - (m.fuel - 1)) x w hfu hfl hb (fun _ => rfl) Q0 (fun h => ?_) (fun h => ?_)
      · rw [if_pos h] at hdo
        intros; apply hret 104 fu (by rw [hdo]; first | done | rfl) (by rw [hdo]; first | done | rfl) (by rw [hdo]; first | done | rfl) hdl2
      · rw [if_neg h] at hdo
        intros; apply hret 102 _ (by rw [hdo]; first | done | rfl) (by rw [hdo]; first | done | rfl) (by rw [hdo]; first | done | rfl) hdl2
    · have ec : cst F L m l = 1 + x.size / 16 := by unfold cst; rw [if_pos h6, hx]; simp only; rw [if_neg hb]
      have ef : fin F L m l = { m with tx := m.tx.set l.r x } := by unfold fin; rw [if_pos h6, hx]; simp only; rw [if_neg hb]
      rw [ec, ef] at hdo
      obtain ⟨wd, f, hf⟩ : ∃ wd f, frmL[wkF l]? = some (wd, f) := ⟨_, _, List.getElem?_eq_getElem (show wkF l < frmL.length by show wkF l < 13; exact h13)⟩
      obtain ⟨b1, b2, b3, b4⟩ := not4 _ (by omega) wd f hf
      refine putT pw g n cap rg fu m.fuel l.r (m.fuel - (1 + x.size / 16)) (x.size / 16) x (bA wd) (txF m l.r) w hpw hn0 (h0 rfl hf) hpr hgr hok.r (reg_cell hrb hm hok.r) (Lib.frozen_of_heap hrb _) b1 b2 b3 b4 hfu hfl (by omega) rfl (fun _ => rfl) Q0 (fun h => ?_) (fun h => ?_)
      · rw [if_pos h] at hdo
        intros; apply hret 104 fu (by rw [hdo]; first | done | rfl) (by rw [hdo]; first | done | rfl) (by rw [hdo]; first | done | rfl) hdl2
      · rw [if_neg h] at hdo
        have hup : UpB rg w (w.setCell ⟨rg, l.r, none⟩ (.string x)) := UpB.set rg l.r w _
        have hN : NxOk F L m l rg w (w.setCell ⟨rg, l.r, none⟩ (.string x)) mo mc := by
          refine ⟨by rw [hdo]; exact hen, hup, ?_, by rw [hdl2]; exact hL.upB hup hmr, by rw [hdl2]; exact hmc, hmn, hmr⟩
          rw [hdo]
          show _ = some (Obj.cells ((m.tx.set l.r x).map Value.string).toArray 9 (0, 0))
          rw [← map_set]
          exact Go.Joins.block_setCell hrb _
        have hh := hnext mo mc _ hN
        rw [hdo, hdl2] at hh
        intros; apply hh
  · have hdl2 : doL L m l = L := by
      rw [hdl]
      unfold finL
      rw [if_neg (show ¬ ((wkF l = 7 ∨ wkF l = 8) ∧ mayF L l.pa = true) from fun h => by omega)]
      split <;> rfl
    have ec : cst F L m l = 1 := by unfold cst; rw [if_pos h6, hx]
    have ef : fin F L m l = { m with ended := true, code := 101 } := by unfold fin; rw [if_pos h6, hx]
    rw [ec, ef] at hdo
    refine failT pw fu m.fuel 101 (fu - (m.fuel - 1)) w hfu hfl (by decide) (by decide) (fun _ => rfl) Q0 (fun h => ?_) (fun h => ?_)
    · rw [if_pos h] at hdo
      intros; apply hret 104 fu (by rw [hdo]; first | done | rfl) (by rw [hdo]; first | done | rfl) (by rw [hdo]; first | done | rfl) hdl2
    · rw [if_neg h] at hdo
      intros; apply hret 101 _ (by rw [hdo]; first | done | rfl) (by rw [hdo]; first | done | rfl) (by rw [hdo]; first | done | rfl) hdl2
  · by_cases hmay : mayF L l.pa = true
    · have ec : cst F L m l = 1 + (txF m l.r).size / 16 := by unfold cst; rw [if_neg (by omega), if_pos (by omega), if_pos hmay]
      have ef : fin F L m l = m := by unfold fin; rw [if_neg (by omega), if_pos (by omega), if_pos hmay]
      have efl : finL L m l = putF L ⟨l.pa, txF m l.r, decide (wkF l = 8)⟩ := by unfold finL; rw [if_pos ⟨h78, hmay⟩]
      rw [ec, ef] at hdo
      rw [ec, efl] at hdl
      obtain ⟨wd, f, hf⟩ : ∃ wd f, frmL[wkF l]? = some (wd, f) := ⟨_, _, List.getElem?_eq_getElem (show wkF l < frmL.length by show wkF l < 13; exact h13)⟩
      obtain ⟨b1, b2, b3, b4⟩ := not4 _ (by omega) wd f hf
      have b5 : ((bA wd).toList == [114, 117, 110]) = decide (wkF l = 8) := by
        rw [eqb]
        rcases h78 with h | h
        · rw [h] at hf ⊢
          have e : wd = [109, 97, 107, 101] := (congrArg Prod.fst (Option.some.inj hf)).symm
          subst e
          decide
        · rw [h] at hf ⊢
          have e : wd = [114, 117, 110] := (congrArg Prod.fst (Option.some.inj hf)).symm
          subst e
          decide
      rw [hmay]
      refine makeT mo mc pw g n cap fu m.fuel (m.fuel - (1 + (txF m l.r).size / 16)) ((txF m l.r).size / 16) L (txF m l.r) l.pa (bA wd) (decide (wkF l = 8)) w hpw hn0 (h0 rfl hf) b1 b2 b3 b4 b5 (path_ne (lin_pa hs2 hlin h78)) hL hmc hmn hm.tr.ln hm.tr.up hfu hfl (txF_size hm _) rfl (fun _ => rfl) Q0 (fun h => ?_) (fun h => ?_)
      · rw [if_pos h] at hdo hdl
        intros; apply hret 104 fu (by rw [hdo]; first | done | rfl) (by rw [hdo]; first | done | rfl) (by rw [hdo]; first | done | rfl) hdl
      · rw [if_neg h] at hdo hdl
        intro Bc Bf Bv Bw Rj Rk Rm Rq Rt Rv Rw Rx Ry Rz Sb Sc Sf Sg Sh Sj Sk Sm Sq St Sv Sw Sx Sy Sz Tb Tc Tf Tg Th Tj Tk Tm Tq Tt Tv Tw Tx Ty Tz Ub Uc Uf Ug Uh Uj Uk Um Uq Ut Uv Uw Ux Uy Uz Vb Vc Vf Vg Vh Vj Vk Vm Vq Vt Vv Vw Vx Vy Vz Wb Wc Wf Wg Wh Wj Wk Wm Wq Wt Wv Ww Wx Wy Wz Xb Xc Xf Xg Xh Xj Xk Xm Xq Xt Xv Xw Xx Xy Xz Yb Yc Yf Yg Yh Yj Yk Ym Yq Yt Yv Yw Yx Yy Yz Zb Zc Zf Zg Zh ra rc w' HM
        have hM := HM.out
        have hlt : rg < w.heap.size := (Array.getElem?_eq_some_iff.1 hrb).1
        have hN : NxOk F L m l rg w w' ra rc := by
          refine ⟨by rw [hdo]; exact hen, UpB.of_below hM.bel, ?_, by rw [hdl]; exact hM.fl, by rw [hdl]; exact hM.cap, hM.nil, fun y hy => by have := hM.new y hy; omega⟩
          rw [hdo]
          exact (hM.bel.block rg hlt).trans hrb
        have hh := hnext ra rc w' hN
        rw [hdo, hdl] at hh
        apply hh
    · have hmay2 : mayF L l.pa = false := by simpa using hmay
      have ec : cst F L m l = 1 := by unfold cst; rw [if_neg (by omega), if_pos (by omega), if_neg hmay]
      have ef : fin F L m l = { m with ended := true, code := 103 } := by unfold fin; rw [if_neg (by omega), if_pos (by omega), if_neg hmay]
      have hdl2 : doL L m l = L := by
        rw [hdl]
        unfold finL
        rw [if_neg (show ¬ ((wkF l = 7 ∨ wkF l = 8) ∧ mayF L l.pa = true) from fun h => hmay h.2)]
        split <;> rfl
      rw [ec, ef] at hdo
      rw [hmay2]
      refine failT pw fu m.fuel 103 (fu - (m.fuel - 1)) w hfu hfl (by decide) (by decide) (fun _ => rfl) Q0 (fun h => ?_) (fun h => ?_)
      · rw [if_pos h] at hdo
        intros; apply hret 104 fu (by rw [hdo]; first | done | rfl) (by rw [hdo]; first | done | rfl) (by rw [hdo]; first | done | rfl) hdl2
      · rw [if_neg h] at hdo
        intros; apply hret 103 _ (by rw [hdo]; first | done | rfl) (by rw [hdo]; first | done | rfl) (by rw [hdo]; first | done | rfl) hdl2
  · have hdl2 : doL L m l = L := by
      rw [hdl]
      unfold finL
      rw [if_neg (show ¬ ((wkF l = 7 ∨ wkF l = 8) ∧ mayF L l.pa = true) from fun h => by omega)]
      split <;> rfl
    have ec : cst F L m l = 1 := by unfold cst; rw [if_neg (by omega), if_neg (by omega)]
    rw [ec] at hdo
    have hN : ∀ w', (doM F L m l).ended = false → (doM F L m l).tx = m.tx → Below w.heap.size w w' → NxOk F L m l rg w w' mo mc := fun w' he ht hb => by
      have hlt : rg < w.heap.size := (Array.getElem?_eq_some_iff.1 hrb).1
      exact ⟨he, UpB.of_below hb, by rw [ht]; exact (hb.block rg hlt).trans hrb, by rw [hdl2]; exact hL.below hb (Nat.le_refl _), by rw [hdl2]; exact hmc, hmn, hmr⟩
    have hout : m.fuel < 1 → ∀ (Ab Ac Af Ag Ah Aj At Av Aw Ax Ay Az Bb Bc Bf Bg Bh Bj Bk Bm Bq Bt Bv Bw Bx By Bz Cb Cc Cf Cg Ch Cj Ck Cm Cq Ct Cv Cw Cx Cy Cz Db Dc Df Dg Dh Dj Dk Dm Dq Dt Dv Dw Dx Dy Dz Eb Ec Ef Eg Eh Ej Ek Em Eq Et Ev Ew Ex Ey Ez Gb Gc Gf Gg Gh Gj Gk Gm Gq Gt Gv Gw Gx Gy Gz Hb Hc Hf Hg Hh Hj Hk Hm Hq Ht Hv Hw Hx Hy Hz Ib Ic If Ig Ih Ij Ik Im Iq It Iv Iw Ix Iy Iz Jb Jc Jf Jg Jh Jj Jk Jm Jq Jt Jv Jw Jx Jy Jz Kb Kc Kf Kg Kh Kj Kk Km Kq Kt Kv Kw Kx Ky Kz Mb Mc Mf Mg Mh Mj Mk Mm Mq Mt Mv Mw Mx My Mz Nb Nc Nf Ng Nh Nj Nk Nm Nq Nt Nv Nw Nx Ny Nz Ob Oc Of Og Oh Oj Ok Om Oq Ot Ov Ow Ox Oy Oz Pb Pc Pf Pg Ph Pj Pk Pm Pq Pt Pv Pw Px Py Pz Rb Rc Rf Rg Rh Rj Rk Rm Rq Rt Rv Rw Rx Ry Rz Sb Sc Sf Sg Sh Sj Sk Sm Sq St Sv Sw Sx Sy Sz Tb Tc Tf Tg Th Tj Tk Tm Tq Tt Tv Tw Tx Ty Tz Ub Uc Uf Ug Uh Uj Uk Um Uq Ut Uv Uw Ux Uy Uz Vb Vc Vf Vg Vh Vj Vk Vm Vq Vt Vv Vw Vx Vy Vz Wb Wc Wf Wg Wh Wj Wk Wm Wq Wt Wv Ww Wx Wy Wz Xb Xc Xf Xg Xh Xj Xk Xm Xq Xt Xv Xw Xx Xy Xz Yb Yc Yf Yg Yh Yj Yk Ym Yq Yt Yv Yw Yx Yy Yz Zb Zc Zf Zg Zh Zj Zk Zm Zq : Value), Q0 .ret ⟨#[Ab,Ac,Af,Ag,Ah,Aj,.slice mo L.length mc,.int .i64 ((104 : Nat) : Int),.int .i64 (fu : Int),At,Av,Aw,Ax,Ay,Az,Bb,Bc,Bf,Bg,Bh,Bj,Bk,Bm,Bq,Bt,Bv,Bw,Bx,By,Bz,Cb,Cc,Cf,Cg,Ch,Cj,Ck,Cm,Cq,Ct,Cv,Cw,Cx,Cy,Cz,Db,Dc,Df,Dg,Dh,Dj,Dk,Dm,Dq,Dt,Dv,Dw,Dx,Dy,Dz,Eb,Ec,Ef,Eg,Eh,Ej,Ek,Em,Eq,Et,Ev,Ew,Ex,Ey,Ez,Gb,Gc,Gf,Gg,Gh,Gj,Gk,Gm,Gq,Gt,Gv,Gw,Gx,Gy,Gz,Hb,Hc,Hf,Hg,Hh,Hj,Hk,Hm,Hq,Ht,Hv,Hw,Hx,Hy,Hz,Ib,Ic,If,Ig,Ih,Ij,Ik,Im,Iq,It,Iv,Iw,Ix,Iy,Iz,Jb,Jc,Jf,Jg,Jh,Jj,Jk,Jm,Jq,Jt,Jv,Jw,Jx,Jy,Jz,Kb,Kc,Kf,Kg,Kh,Kj,Kk,Km,Kq,Kt,Kv,Kw,Kx,Ky,Kz,Mb,Mc,Mf,Mg,Mh,Mj,Mk,Mm,Mq,Mt,Mv,Mw,Mx,My,Mz,Nb,Nc,Nf,Ng,Nh,Nj,Nk,Nm,Nq,Nt,Nv,Nw,Nx,Ny,Nz,Ob,Oc,Of,Og,Oh,Oj,Ok,Om,Oq,Ot,Ov,Ow,Ox,Oy,Oz,Pb,Pc,Pf,Pg,Ph,Pj,Pk,Pm,Pq,Pt,Pv,Pw,Px,Py,Pz,Rb,Rc,Rf,Rg,Rh,Rj,Rk,Rm,Rq,Rt,Rv,Rw,Rx,Ry,Rz,Sb,Sc,Sf,Sg,Sh,Sj,Sk,Sm,Sq,St,Sv,Sw,Sx,Sy,Sz,Tb,Tc,Tf,Tg,Th,Tj,Tk,Tm,Tq,Tt,Tv,Tw,Tx,Ty,Tz,Ub,Uc,Uf,Ug,Uh,Uj,Uk,Um,Uq,Ut,Uv,Uw,Ux,Uy,Uz,Vb,Vc,Vf,Vg,Vh,Vj,Vk,Vm,Vq,Vt,Vv,Vw,Vx,Vy,Vz,Wb,Wc,Wf,Wg,Wh,Wj,Wk,Wm,Wq,Wt,Wv,Ww,Wx,Wy,Wz,Xb,Xc,Xf,Xg,Xh,Xj,Xk,Xm,Xq,Xt,Xv,Xw,Xx,Xy,Xz,Yb,Yc,Yf,Yg,Yh,Yj,Yk,Ym,Yq,Yt,Yv,Yw,Yx,Yy,Yz,Zb,Zc,Zf,Zg,Zh,Zj,Zk,Zm,Zq], []⟩ w := fun h => by
      rw [if_pos h] at hdo
      exact hret 104 fu (by rw [hdo]; first | done | rfl) (by rw [hdo]; first | done | rfl) (by rw [hdo]; first | done | rfl) hdl2
    rcases (show wkF l = 9 ∨ wkF l = 10 ∨ wkF l = 11 ∨ wkF l = 12 by omega) with hk | hk | hk | hk
    · obtain ⟨e1, e2, e3, e4⟩ := lw_F hs2 hlines hlin (.inl hk)
      obtain ⟨s1, a1, a2, a3⟩ := wr_word hwd (by omega) e2
      obtain ⟨s2, c1, c2, c3⟩ := wr_word hwd (by omega) e3
      have ef : fin F L m l = if (txF m l.r).data.toList = (txF m l.s).data.toList then { m with next := l.n } else m := by unfold fin; rw [if_neg (by omega), if_neg (by omega), if_pos hk]
      rw [ef] at hdo
      have hbe := eqL (txF m l.r) (txF m l.s)
      by_cases hq : (txF m l.r).data.toList = (txF m l.s).data.toList
      · rw [if_pos hq] at hdo
        rw [decide_eq_true hq] at hbe
        refine sameT1 pw g n cap rg fu m.fuel (m.fuel - 1) l.n l.r l.s s1 s2 _ _ _ w hpw (h0 hk rfl) (by omega) a1 c1 (hwd 3 (by omega)) a2 a3 c2 c3 hok.r hok.s (reg_cell hrb hm hok.r) (reg_cell hrb hm hok.s) (wz 3) e4 hbe hfu hfl (fun _ => rfl) Q0 (fun h => by intros; apply hout h) (fun h Bc Bf Bv Bw Rj Rk Rm Rq Rt Rv Rw Rx Ry Rz Sb Sc Sf Sg Sh Sj Sk Sm Sq St Sv Sw Sx Sy Sz Tb Tc Tf Tg Th Tj Tk Tm Tq Tt Tv Tw Tx Ty Tz Ub Uc Uf Ug Uh Uj Uk Um Uq Ut Uv Uw Ux Uy Uz Vb Vc Vf Vg Vh Vj Vk Vm Vq Vt Vv Vw Vx Vy Vz Wb Wc Wf Wg Wh Wj Wk Wm Wq Wt Wv Ww Wx Wy Wz Xb Xc Xf Xg Xh Xj Xk Xm Xq Xt Xv Xw Xx Xy Xz Yb Yc Yf Yg Yh Yj Yk Ym Yq Yt Yv Yw Yx Yy Yz Zb Zc Zf Zg Zh w' HB => ?_)
        rw [if_neg h] at hdo
        have hh := hnext mo mc w' (hN w' (by rw [hdo]; exact hen) (by rw [hdo]; first | done | rfl) HB.out)
        rw [hdo, hdl2] at hh
        apply hh
      · rw [if_neg hq] at hdo
        rw [decide_eq_false hq] at hbe
        refine sameT0 pw g n cap rg fu m.fuel (m.fuel - 1) l.n l.r l.s s1 s2 _ _ _ w hpw (h0 hk rfl) (by omega) a1 c1 (hwd 3 (by omega)) a2 a3 c2 c3 hok.r hok.s (reg_cell hrb hm hok.r) (reg_cell hrb hm hok.s) (wz 3) e4 hbe hfu hfl (fun _ => rfl) Q0 (fun h => by intros; apply hout h) (fun h Bc Bf Bv Bw Rj Rk Rm Rq Rt Rv Rw Rx Ry Rz Sb Sc Sf Sg Sh Sj Sk Sm Sq St Sv Sw Sx Sy Sz Tb Tc Tf Tg Th Tj Tk Tm Tq Tt Tv Tw Tx Ty Tz Ub Uc Uf Ug Uh Uj Uk Um Uq Ut Uv Uw Ux Uy Uz Vb Vc Vf Vg Vh Vj Vk Vm Vq Vt Vv Vw Vx Vy Vz Wb Wc Wf Wg Wh Wj Wk Wm Wq Wt Wv Ww Wx Wy Wz Xb Xc Xf Xg Xh Xj Xk Xm Xq Xt Xv Xw Xx Xy Xz Yb Yc Yf Yg Yh Yj Yk Ym Yq Yt Yv Yw Yx Yy Yz Zb Zc Zf Zg Zh w' HB => ?_)
        rw [if_neg h] at hdo
        have hh := hnext mo mc w' (hN w' (by rw [hdo]; exact hen) (by rw [hdo]; first | done | rfl) HB.out)
        rw [hdo, hdl2] at hh
        apply hh
    · obtain ⟨e1, e2, e3, e4⟩ := lw_F hs2 hlines hlin (.inr hk)
      obtain ⟨s1, a1, a2, a3⟩ := wr_word hwd (by omega) e2
      obtain ⟨s2, c1, c2, c3⟩ := wr_word hwd (by omega) e3
      have ef : fin F L m l = if (txF m l.r).data.toList < (txF m l.s).data.toList then { m with next := l.n } else m := by unfold fin; rw [if_neg (by omega), if_neg (by omega), if_neg (by omega), if_pos hk]
      rw [ef] at hdo
      have hbe : Op.bytesLess (txF m l.r).toList (txF m l.s).toList = decide ((txF m l.r).data.toList < (txF m l.s).data.toList) := by rw [Lib.toList_data, Lib.toList_data, tlt]
      by_cases hq : (txF m l.r).data.toList < (txF m l.s).data.toList
      · rw [if_pos hq] at hdo
        rw [decide_eq_true hq] at hbe
        refine lessT1 pw g n cap rg fu m.fuel (m.fuel - 1) l.n l.r l.s s1 s2 _ _ _ w hpw (h0 hk rfl) (by omega) a1 c1 (hwd 3 (by omega)) a2 a3 c2 c3 hok.r hok.s (reg_cell hrb hm hok.r) (reg_cell hrb hm hok.s) (wz 3) e4 hbe hfu hfl (fun _ => rfl) Q0 (fun h => by intros; apply hout h) (fun h Bc Bf Bv Bw Rj Rk Rm Rq Rt Rv Rw Rx Ry Rz Sb Sc Sf Sg Sh Sj Sk Sm Sq St Sv Sw Sx Sy Sz Tb Tc Tf Tg Th Tj Tk Tm Tq Tt Tv Tw Tx Ty Tz Ub Uc Uf Ug Uh Uj Uk Um Uq Ut Uv Uw Ux Uy Uz Vb Vc Vf Vg Vh Vj Vk Vm Vq Vt Vv Vw Vx Vy Vz Wb Wc Wf Wg Wh Wj Wk Wm Wq Wt Wv Ww Wx Wy Wz Xb Xc Xf Xg Xh Xj Xk Xm Xq Xt Xv Xw Xx Xy Xz Yb Yc Yf Yg Yh Yj Yk Ym Yq Yt Yv Yw Yx Yy Yz Zb Zc Zf Zg Zh w' HB => ?_)
        rw [if_neg h] at hdo
        have hh := hnext mo mc w' (hN w' (by rw [hdo]; exact hen) (by rw [hdo]; first | done | rfl) HB.out)
        rw [hdo, hdl2] at hh
        apply hh
      · rw [if_neg hq] at hdo
        rw [decide_eq_false hq] at hbe
        refine lessT0 pw g n cap rg fu m.fuel (m.fuel - 1) l.n l.r l.s s1 s2 _ _ _ w hpw (h0 hk rfl) (by omega) a1 c1 (hwd 3 (by omega)) a2 a3 c2 c3 hok.r hok.s (reg_cell hrb hm hok.r) (reg_cell hrb hm hok.s) (wz 3) e4 hbe hfu hfl (fun _ => rfl) Q0 (fun h => by intros; apply hout h) (fun h Bc Bf Bv Bw Rj Rk Rm Rq Rt Rv Rw Rx Ry Rz Sb Sc Sf Sg Sh Sj Sk Sm Sq St Sv Sw Sx Sy Sz Tb Tc Tf Tg Th Tj Tk Tm Tq Tt Tv Tw Tx Ty Tz Ub Uc Uf Ug Uh Uj Uk Um Uq Ut Uv Uw Ux Uy Uz Vb Vc Vf Vg Vh Vj Vk Vm Vq Vt Vv Vw Vx Vy Vz Wb Wc Wf Wg Wh Wj Wk Wm Wq Wt Wv Ww Wx Wy Wz Xb Xc Xf Xg Xh Xj Xk Xm Xq Xt Xv Xw Xx Xy Xz Yb Yc Yf Yg Yh Yj Yk Ym Yq Yt Yv Yw Yx Yy Yz Zb Zc Zf Zg Zh w' HB => ?_)
        rw [if_neg h] at hdo
        have hh := hnext mo mc w' (hN w' (by rw [hdo]; exact hen) (by rw [hdo]; first | done | rfl) HB.out)
        rw [hdo, hdl2] at hh
        apply hh
    · obtain ⟨e1, e2⟩ := lw_G hs2 hlines hlin hk
      have ef : fin F L m l = { m with next := l.n } := by unfold fin; rw [if_neg (by omega), if_neg (by omega), if_neg (by omega), if_neg (by omega), if_pos hk]
      rw [ef] at hdo
      refine gotoT pw g n cap rg fu m.fuel (m.fuel - 1) l.n _ w hpw (h0 hk rfl) (by omega) (hwd 1 (by omega)) (wz 1) e2 hfu hfl (fun _ => rfl) Q0 (fun h => by intros; apply hout h) (fun h Bc Bf Bv Bw Rj Rk Rm Rq Rt Rv Rw Rx Ry Rz Sb Sc Sf Sg Sh Sj Sk Sm Sq St Sv Sw Sx Sy Sz Tb Tc Tf Tg Th Tj Tk Tm Tq Tt Tv Tw Tx Ty Tz Ub Uc Uf Ug Uh Uj Uk Um Uq Ut Uv Uw Ux Uy Uz Vb Vc Vf Vg Vh Vj Vk Vm Vq Vt Vv Vw Vx Vy Vz Wb Wc Wf Wg Wh Wj Wk Wm Wq Wt Wv Ww Wx Wy Wz Xb Xc Xf Xg Xh Xj Xk Xm Xq Xt Xv Xw Xx Xy Xz Yb Yc Yf Yg Yh Yj Yk Ym Yq Yt Yv Yw Yx Yy Yz Zb Zc Zf Zg Zh w' HB => ?_)
      rw [if_neg h] at hdo
      have hh := hnext mo mc w' (hN w' (by rw [hdo]; exact hen) (by rw [hdo]; first | done | rfl) HB.out)
      rw [hdo, hdl2] at hh
      apply hh
    · obtain ⟨e1, e2⟩ := lw_H hs2 hlin hk
      have ef : fin F L m l = { m with ended := true, code := l.n } := by unfold fin; rw [if_neg (by omega), if_neg (by omega), if_neg (by omega), if_neg (by omega), if_neg (by omega)]
      rw [ef] at hdo
      refine exitT pw g n cap rg fu m.fuel (m.fuel - 1) l.n (fu - (m.fuel - 1)) _ w hpw (h0 hk rfl) (by omega) (hwd 1 (by omega)) (wz 1) e2 (fun _ => rfl) hfu hfl (fun _ => rfl) Q0 (fun h => by intros; apply hout h) (fun h Aw Bc Bf Bv Bw Rj Rk Rm Rq Rt Rv Rw Rx Ry Rz Sb Sc Sf Sg Sh Sj Sk Sm Sq St Sv Sw Sx Sy Sz Tb Tc Tf Tg Th Tj Tk Tm Tq Tt Tv Tw Tx Ty Tz Ub Uc Uf Ug Uh Uj Uk Um Uq Ut Uv Uw Ux Uy Uz Vb Vc Vf Vg Vh Vj Vk Vm Vq Vt Vv Vw Vx Vy Vz Wb Wc Wf Wg Wh Wj Wk Wm Wq Wt Wv Ww Wx Wy Wz Xb Xc Xf Xg Xh Xj Xk Xm Xq Xt Xv Xw Xx Xy Xz Yb Yc Yf Yg Yh Yj Yk Ym Yq Yt Yv Yw Yx Yy Yz Zb Zc Zf Zg Zh => ?_)
      rw [if_neg h] at hdo
      apply hret l.n _ (by rw [hdo]; first | done | rfl) (by rw [hdo]; first | done | rfl) (by rw [hdo]; first | done | rfl) hdl2
end Go.Proofs.YtapiedeekbfpnaaGreatDoor

/- What was made is made by a line that makes it, plain. -/
namespace Go.Proofs.YtapiedeekbfpnaaGreatDoor
open Go.RowKit Go.Shelf Go.Maps Go.WideMaps Go.Sort

/-- A line makes a file. -/
def MkBy (l : Ln) (f : Fl) : Prop := (wkF l = 7 ∧ f.rn = false ∨ wkF l = 8 ∧ f.rn = true) ∧ l.pa = f.pa
theorem run_made {F : List Fl} {ls : List Ln} : ∀ (k : Nat) (m : Mc) (L : List Fl) (f : Fl), f ∈ (runM F ls k m L).2 → f ∈ L ∨ ∃ l ∈ ls, MkBy l f
  | 0, _, _, _, h => .inl h
  | k + 1, m, L, f, h => by
    by_cases hs : stp ls m = true
    · rw [runM_stp F ls m L hs] at h; exact .inl h
    · have hs : stp ls m = false := by simpa using hs
      rw [step_eq F ls k m L hs] at h
      have hn : m.next < ls.length := by
        unfold stp at hs
        rw [Bool.or_eq_false_iff] at hs
        have := of_decide_eq_false hs.2
        omega
      have hmem : lnAt ls m ∈ ls := by
        unfold lnAt
        rw [List.getD_eq_getElem?_getD, List.getElem?_eq_getElem hn]
        exact List.getElem_mem hn
      split at h
      · exact .inl h
      · rcases run_made k _ _ f h with h | h
        · unfold finL at h
          split at h
          · rename_i hk
            rcases (putF_mem L _ f).1 h with rfl | ⟨h, _⟩
            · refine .inr ⟨_, hmem, ?_, rfl⟩
              rcases hk.1 with e | e
              · exact .inl ⟨e, by simp [e]⟩
              · exact .inr ⟨e, by simp [e]⟩
            · exact .inl h
          · exact .inl h
        · exact .inr h
/-- A command's line, as words, makes a file. -/
def mkd (x : Fl) (s : ByteArray) : Bool := ((decide ((wdL [] s.data.toList).getD 0 [] = [109, 97, 107, 101]) && !x.rn) || (decide ((wdL [] s.data.toList).getD 0 [] = [114, 117, 110]) && x.rn)) && decide ((wdL [] s.data.toList).getD 1 [] = pth x)
theorem wd0 (s : List UInt8) : (wdL [] s).getD 0 [] = (Lib.cut s [32]).1 := by
  obtain ⟨r, hr⟩ := wdL_cut s
  rw [hr]
  rfl
/-- A line that makes: its words. -/
theorem lin_make {lines : Nat} {s : List UInt8} {l : Ln} (hs : s.length ≤ 100000) (h : linF lines s = some l) (hk : wkF l = 7 ∨ wkF l = 8) : (wdL [] s).length = 3 ∧ (wdL [] s).getD 1 [] = l.pa.data.toList := by
  obtain ⟨f, f1, f2, f3⟩ := lin_words hs h (by omega)
  have e : f = [7, 0] := by
    rcases hk with hk | hk
    · rw [hk] at f1; exact (congrArg Prod.snd (Option.some.inj f1)).symm
    · rw [hk] at f1; exact (congrArg Prod.snd (Option.some.inj f1)).symm
  subst e
  refine ⟨f2, ?_⟩
  match hw : wdL [] s, f2 with
  | [a, b, c], _ =>
    rw [hw] at f3
    obtain ⟨l1, e1, e2⟩ := Option.bind_eq_some_iff.1 (show (takP lines 7 _ b).bind (fun l' => foldP lines [0] [c] l') = some l from f3)
    obtain ⟨l2, e3, e4⟩ := Option.bind_eq_some_iff.1 (show (takP lines 0 l1 c).bind (fun l' => foldP lines [] [] l') = some l from e2)
    have e4 : l2 = l := Option.some.inj e4
    subst e4
    rw [takP_pa0 e3]
    have e1 : (if pathOk (bA b) = true then some { ({ Ln.none with wd := bA (Lib.cut s [32]).1 } : Ln) with pa := bA b } else Option.none) = some l1 := e1
    split at e1
    · obtain rfl := Option.some.inj e1
      simp [bA]
    · cases e1
theorem wrd_kind {lines : Nat} {s : List UInt8} {l : Ln} (hs : s.length ≤ 100000) (h : linF lines s = some l) : (wdL [] s).getD 0 [] = wrdL.getD (wkF l) [] ∧ wkF l < 13 := by
  obtain ⟨h13, h2, f, f1, _⟩ := lin_form hs h
  refine ⟨?_, h13⟩
  rw [wd0]
  have : wrdL[wkF l]? = some (Lib.cut s [32]).1 := by
    show (frmL.map (·.1))[wkF l]? = _
    rw [List.getElem?_map, f1]
    rfl
  rw [List.getD_eq_getElem?_getD, this]
  rfl
theorem lns_of {ss : List ByteArray} {l : Ln} (h : (chkF ss).2 = 0) (hl : l ∈ lnsF ss.length ss) : ∃ s ∈ ss, s.data.toList.length ≤ 100000 ∧ linF ss.length s.data.toList = some l := by
  unfold chkF at h
  split at h
  · cases h
  · rename_i hn
    obtain ⟨s, hs, e⟩ := List.mem_filterMap.1 hl
    refine ⟨s, hs, ?_, e⟩
    rw [Array.length_toList]
    exact Nat.le_of_not_lt fun h => hn (.inr ⟨s, hs, h⟩)
/-- Each line of a command that is right is taken apart. -/
theorem chk_all {ss : List ByteArray} (h : (chkF ss).2 = 0) {s : ByteArray} (hs : s ∈ ss) : s.size ≤ 100000 ∧ ∃ l ∈ lnsF ss.length ss, linF ss.length s.data.toList = some l := by
  unfold chkF at h
  split at h
  · cases h
  · rename_i hn
    split at h
    · cases h
    · rename_i hb
      unfold badF at hb
      rw [List.findIdx?_eq_none_iff] at hb
      have h1 := hb s hs
      refine ⟨Nat.le_of_not_lt fun h => hn (.inr ⟨s, hs, h⟩), ?_⟩
      cases hl : linF ss.length s.data.toList with
      | none => rw [hl] at h1; cases h1
      | some l => exact ⟨l, List.mem_filterMap.2 ⟨s, hs, hl⟩, rfl⟩
theorem rn_made {F : List Fl} {ss : List ByteArray} {fuel : Int} (h : rnE F ss fuel = 0) {x : Fl} (hx : x ∈ rnL F ss fuel) : ss.any (mkd x) = true := by
  obtain ⟨fu, rfl, _, _, h2⟩ := rn_zero h
  rw [(rn_val h).1] at hx
  rcases run_made _ _ _ x hx with h3 | ⟨l, hl, hk, hp⟩
  · simp at h3
  · obtain ⟨s, hs, hsz, hlin⟩ := lns_of h2 hl
    rw [List.any_eq_true]
    refine ⟨s, hs, ?_⟩
    obtain ⟨w0, h13⟩ := wrd_kind hsz hlin
    obtain ⟨_, w1⟩ := lin_make hsz hlin (by rcases hk with ⟨e, _⟩ | ⟨e, _⟩ <;> simp [e])
    unfold mkd
    rw [w1, hp]
    rw [w0]
    have e3 : decide (x.pa.data.toList = pth x) = true := decide_eq_true rfl
    rw [e3, Bool.and_true]
    rcases hk with ⟨e, e2⟩ | ⟨e, e2⟩
    · rw [e, e2]; rfl
    · rw [e, e2]; rfl
/-- What the words of a right line are where one asks. -/
theorem mkd_words {ss : List ByteArray} (h : (chkF ss).2 = 0) {s : ByteArray} (hs : s ∈ ss) (hw : (wdL [] s.data.toList).getD 0 [] = [109, 97, 107, 101] ∨ (wdL [] s.data.toList).getD 0 [] = [114, 117, 110]) : (wdL [] s.data.toList).length = 3 := by
  obtain ⟨hsz, l, hl, hlin⟩ := chk_all h hs
  have hsz2 : s.data.toList.length ≤ 100000 := by rw [Array.length_toList]; exact hsz
  obtain ⟨w0, h13⟩ := wrd_kind hsz2 hlin
  refine (lin_make hsz2 hlin ?_).1
  rw [w0] at hw
  have key : ∀ j, j < 13 → (wrdL.getD j [] = [109, 97, 107, 101] ∨ wrdL.getD j [] = [114, 117, 110]) → j = 7 ∨ j = 8 := by decide
  exact key _ h13 hw
end Go.Proofs.YtapiedeekbfpnaaGreatDoor

/- The document's RunCommand, whole: it comes to what the program's machine comes to. -/
namespace Go.Proofs.YtapiedeekbfpnaaGreatDoor
open Go.RowKit Go.Shelf Go.Maps Go.WideMaps Go.Sort
variable {A0 A1 A2 A3 A4 A5 A6 A7 A8 A9 B0 B1 B2 B3 B4 B5 B6 B7 B8 B9 C0 C1 C2 C3 C4 C5 C6 C7 C8 C9 D0 D1 D2 D3 D4 D5 D6 D7 D8 D9 E0 E1 E2 E3 E4 E5 E6 E7 E8 E9 G0 G1 G2 G3 G4 G5 G6 G7 G8 G9 H0 H1 H2 H3 H4 H5 H6 H7 H8 H9 I0 I1 I2 I3 I4 I5 I6 I7 I8 I9 J0 J1 J2 J3 J4 J5 J6 J7 J8 J9 K0 K1 K2 K3 K4 K5 K6 K7 K8 K9 M0 M1 M2 M3 M4 M5 M6 M7 M8 M9 N0 N1 N2 N3 N4 N5 N6 N7 N8 N9 O0 O1 O2 O3 O4 O5 O6 O7 O8 O9 P0 P1 P2 P3 P4 P5 P6 P7 P8 P9 R0 R1 R2 R3 R4 R5 R6 R7 R8 R9 S0 S1 S2 S3 S4 S5 S6 S7 S8 S9 T0 T1 T2 T3 T4 T5 T6 T7 T8 T9 U0 U1 U2 U3 U4 U5 U6 U7 U8 U9 V0 V1 V2 V3 V4 V5 V6 V7 V8 V9 W0 W1 W2 W3 W4 W5 W6 W7 W8 W9 X0 X1 X2 X3 X4 X5 X6 X7 X8 X9 Y0 Y1 Y2 Y3 Y4 Y5 Y6 Y7 Y8 Y9 Z0 Z1 Z2 Z3 Z4 Z5 Z6 Z7 Z8 Z9 j0 j1 j2 j3 j4 j5 j6 j7 j8 j9 o0 o1 o2 o3 o4 o5 o6 o7 o8 o9 y0 y1 y2 y3 y4 y5 y6 y7 y8 y9 z0 z1 z2 z3 z4 z5 z6 z7 z8 z9 x0 x1 x2 x3 x4 x5 x6 x7 x8 x9 i0 i1 i2 i3 i4 i5 i6 i7 i8 i9 d0 d1 d2 d3 d4 d5 d6 d7 d8 d9 e0 e1 e2 e3 e4 e5 e6 e7 e8 e9 f0 f1 f2 f3 f4 f5 f6 f7 f8 f9 p0 p1 p2 p3 p4 p5 p6 p7 p8 p9 v0 v1 v2 v3 v4 v5 v6 v7 v8 : Value}

theorem fm_len {α β : Type} (f : α → Option β) : ∀ l : List α, (∀ a ∈ l, (f a).isSome = true) → (l.filterMap f).length = l.length ∧ ∀ (i : Nat) (hi : i < l.length), (l.filterMap f)[i]? = f l[i]
  | [], _ => ⟨rfl, fun i hi => by simp at hi⟩
  | a :: l, h => by
    obtain ⟨b, hb⟩ := Option.isSome_iff_exists.1 (h a (by simp))
    obtain ⟨h1, h2⟩ := fm_len f l fun x hx => h x (by simp [hx])
    rw [List.filterMap_cons_some hb]
    refine ⟨by simp [h1], fun i hi => ?_⟩
    cases i with
    | zero => simp [hb]
    | succ i => simpa using h2 i (by simpa using hi)
/-- The lines of a right command, one by one. -/
theorem lns_at {ss : List ByteArray} (h : (chkF ss).2 = 0) : (lnsF ss.length ss).length = ss.length ∧ ∀ (i : Nat) (hi : i < ss.length), ss[i].size ≤ 100000 ∧ linF ss.length ss[i].data.toList = some ((lnsF ss.length ss).getD i Ln.none) := by
  obtain ⟨h1, h2⟩ := fm_len (fun s : ByteArray => linF ss.length s.data.toList) ss fun s hs => by
    obtain ⟨_, l, _, e⟩ := chk_all h hs
    rw [e]
    rfl
  refine ⟨h1, fun i hi => ?_⟩
  obtain ⟨a, l, _, e⟩ := chk_all h (List.getElem_mem hi)
  refine ⟨a, ?_⟩
  have := h2 i hi
  rw [e] at this ⊢
  unfold lnsF
  rw [List.getD_eq_getElem?_getD, this]
  rfl
theorem do_run {F L : List Fl} {m : Mc} {l : Ln} (h : (doM F L m l).ended = false) (hc : m.code = 0) (hx : ExOk l) : (doM F L m l).code = 0 ∧ (doM F L m l).fuel < m.fuel := by
  have hd := do_eq F L m l
  by_cases hf : m.fuel < cst F L m l
  · rw [if_pos hf] at hd
    rw [hd] at h
    cases h
  · rw [if_neg hf] at hd
    have := cst_pos F L m l
    obtain ⟨_, c2⟩ := fin_code (F := F) (L := L) (m := m) (l := l) hc hx
    rw [hd] at h ⊢
    exact ⟨c2 h, by show m.fuel - cst F L m l < m.fuel; omega⟩

/-- What holds of RunCommand's loop. -/
structure RI (F : List Fl) (ss : List ByteArray) (fu rg : Nat) (w : World) (mo : Option Addr) (mc : Nat) (L : List Fl) (m : Mc) (k : Nat) (wr : World) : Prop where
  bel : Below w.heap.size w wr
  rge : w.heap.size ≤ rg
  regs : wr.heap[rg]? = some (.cells (m.tx.map Value.string).toArray 9 (0, 0))
  fl : IsFl wr mo L
  cap : L.length ≤ mc
  nil : mo = none → mc = 0
  ne : ∀ x, mo = some x → x.block ≠ rg
  ok : MOk m L
  en : m.ended = false
  cd : m.code = 0
  fuu : m.fuel ≤ fu
  kk : m.fuel < k
  run : runM F (lnsF ss.length ss) k m L = rnR F (lnsF ss.length ss) fu
/-- How RunCommand ends. -/
def RcP (F : List Fl) (ss : List ByteArray) (fu : Nat) (w : World) (e : Ending) (w' : World) : Prop :=
  ∃ ra rc, e = .returned (.tuple #[.slice ra (rnR F (lnsF ss.length ss) fu).2.length rc, .int .i64 ((rnR F (lnsF ss.length ss) fu).1.code : Int), .int .i64 ((fu - (rnR F (lnsF ss.length ss) fu).1.fuel : Nat) : Int)]) ∧ IsFl w' ra (rnR F (lnsF ss.length ss) fu).2 ∧ Below w.heap.size w w'
theorem RI.out {F : List Fl} {ss : List ByteArray} {fu rg : Nat} {w wr : World} {mo : Option Addr} {mc k : Nat} {L : List Fl} {m : Mc} (h : RI F ss fu rg w mo mc L m k wr) (hs : stp (lnsF ss.length ss) m = true) : RcP F ss fu w (.returned (.tuple #[.slice mo L.length mc, .int .i64 (m.code : Int), .int .i64 ((fu - m.fuel : Nat) : Int)])) wr := by
  have e := h.run
  rw [runM_stp _ _ _ _ hs] at e
  refine ⟨mo, mc, ?_, ?_, h.bel⟩
  · rw [← e]
  · rw [← e]; exact h.fl
/-- One line further. -/
theorem RI.next {F : List Fl} {ss : List ByteArray} {fu rg : Nat} {w wr w1 w2 : World} {mo ra : Option Addr} {mc rc k : Nat} {L : List Fl} {m : Mc} (h : RI F ss fu rg w mo mc L m k wr) (hck : (chkF ss).2 = 0) (hn : m.next < ss.length) (hb : Below wr.heap.size wr w1) (hx : NxOk F L (nxM m) (lnAt (lnsF ss.length ss) m) rg w1 w2 ra rc) :
    ∃ k2, RI F ss fu rg w ra rc (doL L (nxM m) (lnAt (lnsF ss.length ss) m)) (doM F L (nxM m) (lnAt (lnsF ss.length ss) m)) k2 w2 ∧ (doM F L (nxM m) (lnAt (lnsF ss.length ss) m)).fuel < m.fuel := by
  obtain ⟨hl, hat⟩ := lns_at hck
  obtain ⟨hsz, hlin⟩ := hat m.next hn
  have hs2 : (ss[m.next]).data.toList.length ≤ 100000 := by rw [Array.length_toList]; exact hsz
  have hlin2 : linF ss.length (ss[m.next]).data.toList = some (lnAt (lnsF ss.length ss) m) := hlin
  obtain ⟨c1, c2⟩ := do_run (F := F) (L := L) (m := nxM m) hx.run h.cd (lin_ex hs2 hlin2)
  have hst : stp (lnsF ss.length ss) m = false := by
    unfold stp
    rw [h.en, hl, decide_eq_false (by omega)]
    rfl
  have hk := h.kk
  obtain ⟨k2, rfl⟩ : ∃ k2, k = k2 + 1 := ⟨k - 1, by omega⟩
  have c2 : (doM F L (nxM m) (lnAt (lnsF ss.length ss) m)).fuel < m.fuel := c2
  have hfu := h.fuu
  have hr := h.run
  rw [runM_go F _ m L hst] at hr
  have hb1 : Below w.heap.size w w1 := below_low h.bel hb h.bel.size
  refine ⟨k2, ⟨?_, h.rge, hx.regs, hx.fl, hx.cap, hx.nil, hx.ne, MOk.do (show MOk (nxM m) L from h.ok.tx_same rfl) _ (lin_pa hs2 hlin2), hx.run, c1, by omega, by omega, hr⟩, c2⟩
  have hu := hx.up.below h.rge hb1.size
  exact hb1.trans hu
theorem RI.ends {F : List Fl} {ss : List ByteArray} {fu rg : Nat} {w wr w1 : World} {mo : Option Addr} {mc k : Nat} {L : List Fl} {m : Mc} (h : RI F ss fu rg w mo mc L m k wr) (hck : (chkF ss).2 = 0) (hn : m.next < ss.length) (hb : Below wr.heap.size wr w1) {code sp : Nat}
    (e1 : (doM F L (nxM m) (lnAt (lnsF ss.length ss) m)).ended = true) (e2 : (doM F L (nxM m) (lnAt (lnsF ss.length ss) m)).code = code) (e3 : sp = fu - (doM F L (nxM m) (lnAt (lnsF ss.length ss) m)).fuel) (e4 : doL L (nxM m) (lnAt (lnsF ss.length ss) m) = L) :
    RcP F ss fu w (.returned (.tuple #[.slice mo L.length mc, .int .i64 (code : Int), .int .i64 (sp : Int)])) w1 := by
  obtain ⟨hl, _⟩ := lns_at hck
  have hst : stp (lnsF ss.length ss) m = false := by
    unfold stp
    rw [h.en, hl, decide_eq_false (by omega)]
    rfl
  have hk := h.kk
  obtain ⟨k2, rfl⟩ : ∃ k2, k = k2 + 1 := ⟨k - 1, by omega⟩
  have hr := h.run
  rw [runM_go F _ m L hst, runM_stp _ _ _ _ (by unfold stp; rw [e1]; rfl), e4] at hr
  refine ⟨mo, mc, ?_, ?_, below_low h.bel hb h.bel.size⟩
  · rw [← hr, ← e2, e3]
  · rw [← hr]; exact h.fl.up hb
theorem sStrR : (Tryz.prog.info? 9).map (fun i => (i.zero, i.size, i.bytes)) = some (some (.string ⟨#[]⟩), 1, 16) := by kernel_rfl
theorem made8 : ((List.replicate 8 (⟨#[]⟩ : ByteArray)).map Value.string).toArray = madeCells #[.string ⟨#[]⟩] 8 := Array.toList_inj.1 (by rw [toList_madeCells_one]; rfl)
theorem WordsN (s : ByteArray) (W : World) (hs : s.size ≤ 100000) :
    Calls Tryz.prog 17 #[.string s] W fun e w' => ∃ g cap, e = .returned (.slice (some ⟨g, 0, none⟩) (wdL [] s.data.toList).length cap) ∧ Hid (WdAt w' g (wdL [] s.data.toList) ∧ Below W.heap.size W w' ∧ W.heap.size ≤ g ∧ g < w'.heap.size) := by
  refine (WordsOf_any s W hs).mono ?_
  rintro e w' ⟨v, rfl, h1, h2⟩
  have hne := wdL_ne s.data.toList []
  generalize wdL [] s.data.toList = ws at *
  have hl : ws.length ≠ 0 := fun e => hne (List.length_eq_zero_iff.1 e)
  rcases h1.2 with ⟨_, hz⟩ | ⟨g, cap, cur, rfl, _⟩
  · exact absurd hz hl
  · refine ⟨g, cap, rfl, fun j hj => ?_, h2, (h1.lt g rfl).1, (h1.lt g rfl).2⟩
    have := h1.cells rfl j (.string (bA (ws.getD j []))) (by unfold strs; rw [List.getElem?_map, List.getElem?_eq_getElem hj, List.getD_eq_getElem?_getD, List.getElem?_eq_getElem hj]; rfl)
    rwa [addr_add, Nat.zero_add] at this

set_option maxHeartbeats 16000000 in
set_option maxRecDepth 100000 in
theorem RunCommand_any (ao co : Option Addr) (ac cc : Nat) (F : List Fl) (ss : List ByteArray) (fu : Nat) (w : World) (hF : IsFl w ao F) (hTF : TrOk F) (ht : TxAt w co ss) (hck : (chkF ss).2 = 0) (hfu : fu ≤ 100000) :
    Calls Tryz.prog 25 #[.slice ao F.length ac, .slice co ss.length cc, .int .i64 (fu : Int)] w (RcP F ss fu w) := by
  have HF : Hid (IsFl w ao F ∧ TrOk F) := ⟨hF, hTF⟩
  have HT : Hid (TxAt w co ss) := ht
  have HCK : Hid ((chkF ss).2 = 0) := hck
  have hln : (ss.length : Int) ≤ 60 := by have := (lns_ok hck).1; omega
  have HFU : Hid (fu ≤ 100000) := hfu
  have hfi : (fu : Int) ≤ 100000 := by omega
  have hmk : (Instr.makeSlice 23 (.int .i64 8) (.int .i64 8)).run Tryz.prog w = .ok (.slice (some ⟨w.heap.size, 0, none⟩) 8 8) (w.alloc (.cells (madeCells #[.string ⟨#[]⟩] 8) 9)) := run_make_row' (P := Tryz.prog) 23 9 (.string ⟨#[]⟩) 16 Tryz.underlying23 sStrR rfl .i64 .i64 8 (by decide) (by decide) w
  obtain ⟨w0, hw0⟩ : ∃ w0, w0 = w.alloc (.cells (madeCells #[.string ⟨#[]⟩] 8) 9) := ⟨_, rfl⟩
  rw [← hw0] at hmk
  have HRI : Hid (RI F ss fu w.heap.size w none 0 [] (mz fu) (fu + 1) w0) := by
    refine ⟨?_, Nat.le_refl _, ?_, .inl rfl, Nat.le_refl _, fun _ => rfl, (fun x e => by cases e), mz_ok fu, rfl, rfl, Nat.le_refl _, Nat.lt_succ_self _, rfl⟩
    · rw [hw0]; exact (Below.refl _ w).alloc (Nat.le_refl _) _
    · rw [hw0, show ((mz fu).tx.map Value.string).toArray = madeCells #[.string ⟨#[]⟩] 8 from made8]; exact heap_alloc_new w _
  clear hF hTF ht hck hfu hw0
  go_enter Tryz.func25, Tryz.ntmps25
  go_wp2
  obtain ⟨rg, hrg⟩ : ∃ rg, rg = w.heap.size := ⟨_, rfl⟩
  rw [← hrg]
  have HRG : Hid (RI F ss fu rg w none 0 [] (mz fu) (fu + 1) w0) := by rw [hrg]; exact HRI.out
  clear hrg HRI hmk
  go_loopw [10, 11, 12] (fun v10 v11 v12 wr => ∃ (mo : Option Addr) (mc : Nat) (L : List Fl) (m : Mc) (k : Nat), v10 = .slice mo L.length mc ∧ v11 = .int .i64 (m.fuel : Int) ∧ v12 = .int .i64 (m.next : Int) ∧ Hid (RI F ss fu rg w mo mc L m k wr)) (fun _ v11 _ _ => (RowKit.intOf v11).toNat)
  case atStart => exact ⟨none, 0, [], mz fu, fu + 1, rfl, rfl, rfl, HRG⟩
  case round =>
    obtain ⟨mo, mc, L, m, k, rfl, rfl, rfl, HI⟩ := hrel
    by_cases hn : m.next < ss.length
    · have hni : (m.next : Int) < (ss.length : Int) := by omega
      obtain ⟨tg, to, rfl, htg, htc⟩ := (HT.out.below HI.out.bel).get hn
      obtain ⟨hl, hat⟩ := lns_at HCK.out
      obtain ⟨hsz, hlin⟩ := hat m.next hn
      have HNX : Hid (m.next < ss.length) := hn
      have HLN : Hid (linF ss.length (ss[m.next]).data.toList = some (lnAt (lnsF ss.length ss) m) ∧ (ss[m.next]).size ≤ 100000) := ⟨hlin, hsz⟩
      have HWd := WordsN ss[m.next] wr hsz
      clear hl hat hlin hsz htg
      generalize ss[m.next] = s at *
      clear hn
      obtain ⟨n0, hn0⟩ : ∃ n0, n0 = (wdL [] s.data.toList).length := ⟨_, rfl⟩
      rw [← hn0] at HWd
      have HN0 : Hid (n0 = (wdL [] s.data.toList).length) := hn0
      have HWd2 : Hid (Calls Tryz.prog 17 #[.string s] wr fun e w' => ∃ g cap, e = .returned (.slice (some ⟨g, 0, none⟩) n0 cap) ∧ Hid (WdAt w' g (wdL [] s.data.toList) ∧ Below wr.heap.size wr w' ∧ wr.heap.size ≤ g ∧ g < w'.heap.size)) := HWd
      obtain ⟨n1, hn1⟩ : ∃ n1, n1 = (nxM m).next := ⟨_, rfl⟩
      have HN1 : Hid (n1 = (nxM m).next) := hn1
      have e1 : (m.next : Int) + 1 = (n1 : Int) := by have : n1 = m.next + 1 := hn1; omega
      have e2 : IntKind.i64.wrap (n1 : Int) = (n1 : Int) := by rw [IntKind.wrap_i64]; have : n1 = m.next + 1 := hn1; have := HNX.out; omega
      clear hn0 HWd hn1
      obtain ⟨SWL, hSW⟩ : ∃ c, c = (subC [true, true, true, true, false, true, false, false, true, false, true, true, true, true, true, true, true, false] (Tryz.f25.body.getD .skip)) := ⟨_, rfl⟩
      have HSW : Hid (SWL = (subC [true, true, true, true, false, true, false, false, true, false, true, true, true, true, true, true, true, false] (Tryz.f25.body.getD .skip))) := hSW
      have hl1 := hSW.symm
      conv at hl1 => lhs; whnf
      rw [hl1]
      clear hl1 hSW
      obtain ⟨TLL, hTL⟩ : ∃ c, c = (subC [true, true, true, true, false, true, false, false, true, false, true, true, true, true, true, true, true, true] (Tryz.f25.body.getD .skip)) := ⟨_, rfl⟩
      have HTL : Hid (TLL = (subC [true, true, true, true, false, true, false, false, true, false, true, true, true, true, true, true, true, true] (Tryz.f25.body.getD .skip))) := hTL
      have hl2 := hTL.symm
      conv at hl2 => lhs; whnf
      rw [hl2]
      clear hl2 hTL
      go_wp2_with (first
        | (go_at_call 17; refine HWd2.out.mono ?_; rintro e w1 ⟨g, cap, rfl, HW⟩)
        | go_in)
      obtain ⟨V, hV⟩ : ∃ V, V = w1.alloc (.cells #[.slice (some ⟨g, 0, none⟩) n0 cap] 23) := ⟨_, rfl⟩
      rw [← hV]
      obtain ⟨pw, hpw⟩ : ∃ pw, pw = w1.heap.size := ⟨_, rfl⟩
      rw [← hpw]
      obtain ⟨q1, q2, q3, q4⟩ := HW.out
      have hbV : Below w1.heap.size w1 V := by rw [hV]; exact (Below.refl _ w1).alloc (Nat.le_refl _) _
      have hbw : Below wr.heap.size wr V := below_low q2 hbV q2.size
      have cpw : V.cell? ⟨pw, 0, none⟩ = some (.slice (some ⟨g, 0, none⟩) n0 cap) := by rw [hV, hpw]; exact Lib.cell_of_heap (heap_alloc_new w1 _) 0
      have hwdV : WdAt V g (wdL [] s.data.toList) := fun j hj => (World.cell?_of_block (hbV.block g q4)).trans (q1 j hj)
      have hI := HI.out
      have hrlt : rg < wr.heap.size := (Array.getElem?_eq_some_iff.1 hI.regs).1
      have hokn : MOk (nxM m) L := hI.ok.tx_same rfl
      have hrV : V.heap[rg]? = some (.cells ((nxM m).tx.map Value.string).toArray 9 (0, 0)) := (hbw.block rg hrlt).trans hI.regs
      have hbv0 : Below w.heap.size w V := below_low hI.bel hbw hI.bel.size
      have hgs := q2.size
      clear q1 hV
      rw [HSW.out]
      refine sw_all ao mo ac mc F L (nxM m) _ s ss.length pw g n0 cap rg V HLN.out.1 HLN.out.2 HN0.out cpw hwdV (fun i hi => reg_cell hrV hokn hi) (HF.out.1.below hbv0 (Nat.le_refl _)) HF.out.2 (hI.fl.up hbw) hokn _ ?_
      intro c t x p hsw Bk Bm Bq Bt Cx Cy Cz Db Dc Df Dg Dh Dj Dk Dm Dq Dt Dv Dw Dx Dy Dz Eb Ec Ef Eg Eh Ej Ek Em Eq Et Ev Ew Ex Ey Ez Gb Gc Gf Gg Gh Gj Gk Gm Gq Gt Gv Gw Gx Gy Gz Hb Hc Hf Hg Hh Hj Hk Hm Hq Ht Hv Hw Hx Hy Hz Ib Ic If Ig Ih Ij Ik Im Iq It Iv Iw Ix Iy Iz Jb Jc Jf Jg Jh Jj Jk Jm Jq Jt Jv Jw Jx Jy Jz Kb Kc Kf Kg Kh Kj Kk Km Kq Kt Kv Kw Kx Ky Kz Mb Mc Mf Mg Mh Mj Mk Mm Mq Mt Mv Mw Mx My Mz Nb Nc Nf Ng Nh Nj Nk Nm Nq Nt Nv Nw Nx Ny Nz Ob Oc Of Og Oh Oj Ok Om Oq Ot Ov Ow Ox Oy Oz Pb Pc Pf Pg Ph Pj Pk Pm Pq Pt Pv Pw Px Py Pz Rb Rc Rf Rg Rh w3 HB3
      have hb3 : Below wr.heap.size wr w3 := below_low hbw HB3.out hbw.size
      have hpl : pw < V.heap.size := World.block_lt_of_cell? V _ cpw
      have hgl : g < V.heap.size := Nat.lt_of_lt_of_le q4 hbV.size
      go_wp2
      rw [HTL.out]
      rw [HN1.out]
      refine tl_all mo mc F L (nxM m) _ s ss.length pw g n0 cap rg fu c t x p w3 HLN.out.1 HLN.out.2 (lns_ok HCK.out).1 HN0.out ((World.cell?_of_block (HB3.out.block pw hpl)).trans cpw) (fun j hj => (World.cell?_of_block (HB3.out.block g hgl)).trans (hwdV j hj)) ((HB3.out.block rg (by have := hbV.size; omega)).trans hrV) (by omega) (by omega) (hI.fl.up hb3) hI.cap hI.nil hI.ne hokn hI.en HFU.out hI.fuu hsw _ ?_ ?_
      · intro code sp d1 d2 d3 d4 Ab Ac Af Ag Ah Aj At Av Aw Ax Ay Az Bb Bc Bf Bg Bh Bj Bk Bm Bq Bt Bv Bw Bx By Bz Cb Cc Cf Cg Ch Cj Ck Cm Cq Ct Cv Cw Cx Cy Cz Db Dc Df Dg Dh Dj Dk Dm Dq Dt Dv Dw Dx Dy Dz Eb Ec Ef Eg Eh Ej Ek Em Eq Et Ev Ew Ex Ey Ez Gb Gc Gf Gg Gh Gj Gk Gm Gq Gt Gv Gw Gx Gy Gz Hb Hc Hf Hg Hh Hj Hk Hm Hq Ht Hv Hw Hx Hy Hz Ib Ic If Ig Ih Ij Ik Im Iq It Iv Iw Ix Iy Iz Jb Jc Jf Jg Jh Jj Jk Jm Jq Jt Jv Jw Jx Jy Jz Kb Kc Kf Kg Kh Kj Kk Km Kq Kt Kv Kw Kx Ky Kz Mb Mc Mf Mg Mh Mj Mk Mm Mq Mt Mv Mw Mx My Mz Nb Nc Nf Ng Nh Nj Nk Nm Nq Nt Nv Nw Nx Ny Nz Ob Oc Of Og Oh Oj Ok Om Oq Ot Ov Ow Ox Oy Oz Pb Pc Pf Pg Ph Pj Pk Pm Pq Pt Pv Pw Px Py Pz Rb Rc Rf Rg Rh Rj Rk Rm Rq Rt Rv Rw Rx Ry Rz Sb Sc Sf Sg Sh Sj Sk Sm Sq St Sv Sw Sx Sy Sz Tb Tc Tf Tg Th Tj Tk Tm Tq Tt Tv Tw Tx Ty Tz Ub Uc Uf Ug Uh Uj Uk Um Uq Ut Uv Uw Ux Uy Uz Vb Vc Vf Vg Vh Vj Vk Vm Vq Vt Vv Vw Vx Vy Vz Wb Wc Wf Wg Wh Wj Wk Wm Wq Wt Wv Ww Wx Wy Wz Xb Xc Xf Xg Xh Xj Xk Xm Xq Xt Xv Xw Xx Xy Xz Yb Yc Yf Yg Yh Yj Yk Ym Yq Yt Yv Yw Yx Yy Yz Zb Zc Zf Zg Zh Zj Zk Zm Zq
        have HE := hI.ends HCK.out HNX.out hb3 d1 d2 d3 d4
        go_ret3
        exact HE
      · intro ra rc w4 hN Ak Am Aq Ay Az Bb Bc Bf Bg Bh Bj Bk Bm Bq Bt Bv Bw Bz Cb Cc Cf Cg Ch Cj Ck Cm Cq Ct Cv Cw Cx Cy Cz Db Dc Df Dg Dh Dj Dk Dm Dq Dt Dv Dw Dx Dy Dz Eb Ec Ef Eg Eh Ej Ek Em Eq Et Ev Ew Ex Ey Ez Gb Gc Gf Gg Gh Gj Gk Gm Gq Gt Gv Gw Gx Gy Gz Hb Hc Hf Hg Hh Hj Hk Hm Hq Ht Hv Hw Hx Hy Hz Ib Ic If Ig Ih Ij Ik Im Iq It Iv Iw Ix Iy Iz Jb Jc Jf Jg Jh Jj Jk Jm Jq Jt Jv Jw Jx Jy Jz Kb Kc Kf Kg Kh Kj Kk Km Kq Kt Kv Kw Kx Ky Kz Mb Mc Mf Mg Mh Mj Mk Mm Mq Mt Mv Mw Mx My Mz Nb Nc Nf Ng Nh Nj Nk Nm Nq Nt Nv Nw Nx Ny Nz Ob Oc Of Og Oh Oj Ok Om Oq Ot Ov Ow Ox Oy Oz Pb Pc Pf Pg Ph Pj Pk Pm Pq Pt Pv Pw Px Py Pz Rb Rc Rf Rg Rh Rj Rk Rm Rq Rt Rv Rw Rx Ry Rz Sb Sc Sf Sg Sh Sj Sk Sm Sq St Sv Sw Sx Sy Sz Tb Tc Tf Tg Th Tj Tk Tm Tq Tt Tv Tw Tx Ty Tz Ub Uc Uf Ug Uh Uj Uk Um Uq Ut Uv Uw Ux Uy Uz Vb Vc Vf Vg Vh Vj Vk Vm Vq Vt Vv Vw Vx Vy Vz Wb Wc Wf Wg Wh Wj Wk Wm Wq Wt Wv Ww Wx Wy Wz Xb Xc Xf Xg Xh Xj Xk Xm Xq Xt Xv Xw Xx Xy Xz Yb Yc Yf Yg Yh Yj Yk Ym Yq Yt Yv Yw Yx Yy Yz Zb Zc Zf Zg Zh
        obtain ⟨k2, h2, hlt⟩ := hI.next HCK.out HNX.out hb3 hN
        go_wp2
        refine ⟨⟨ra, rc, _, _, k2, rfl, rfl, rfl, h2⟩, ?_⟩
        simp [RowKit.intOf]
        omega
    · have hni : ¬ (m.next : Int) < (ss.length : Int) := by omega
      have hI := HI.out
      have hst : stp (lnsF ss.length ss) m = true := by
        unfold stp
        rw [(lns_at HCK.out).1, decide_eq_true (by omega), Bool.or_true]
      have HE := hI.out hst
      have hfu2 := hI.fuu
      have k1 : (fu : Int) - (m.fuel : Int) = ((fu - m.fuel : Nat) : Int) := by omega
      have k2 : IntKind.i64.wrap ((fu - m.fuel : Nat) : Int) = ((fu - m.fuel : Nat) : Int) := by rw [IntKind.wrap_i64]; omega
      rw [hI.cd] at HE
      have HE2 : Hid (RcP F ss fu w (.returned (.tuple #[.slice mo L.length mc, .int .i64 ((0 : Nat) : Int), .int .i64 ((fu - m.fuel : Nat) : Int)])) wr) := HE
      obtain ⟨sp, hsp⟩ : ∃ sp, sp = fu - m.fuel := ⟨_, rfl⟩
      rw [← hsp] at k1 k2 HE2
      clear hI hst HE hfu2 hsp HF HT HI HRG
      go_wp2
      go_ret3
      exact HE2.out
end Go.Proofs.YtapiedeekbfpnaaGreatDoor

/- The document's RightLine: what it leans on. -/
namespace Go.Proofs.YtapiedeekbfpnaaGreatDoor
open Go.RowKit Go.Shelf

/-- Words in memory, and the variable that holds them. -/
structure RW (W : World) (Y g n cap : Nat) (ws : List (List UInt8)) : Prop where
  y : W.cell? ⟨Y, 0, none⟩ = some (.slice (some ⟨g, 0, none⟩) n cap)
  cells : ∀ j x, ws[j]? = some x → W.cell? ⟨g, j, none⟩ = some (.string (bA x)) ∧ j < n ∧ (bA x).size ≤ 1000000
  yl : Y < W.heap.size
  gl : g < W.heap.size
theorem RW.below {W W' : World} {Y g n cap : Nat} {ws : List (List UInt8)} (h : RW W Y g n cap ws) (hb : Below W.heap.size W W') : RW W' Y g n cap ws :=
  ⟨(hb.cell (p := ⟨Y, 0, none⟩) h.yl).trans h.y, fun j x hx => ⟨(hb.cell (p := ⟨g, j, none⟩) h.gl).trans (h.cells j x hx).1, (h.cells j x hx).2⟩, Nat.lt_of_lt_of_le h.yl hb.size, Nat.lt_of_lt_of_le h.gl hb.size⟩

set_option maxHeartbeats 1000000 in
set_option maxRecDepth 100000 in
theorem r_any {W : World} {Y g n cap : Nat} {ws : List (List UInt8)} (h : RW W Y g n cap ws) (i : Nat) {x : List UInt8} (hx : ws[i]? = some x) :
    Calls Tryz.prog 95 #[.int .i64 (i : Int), .pointer (some ⟨Y, 0, none⟩)] W fun e w' => e = .returned (.bool (regF x).isSome) ∧ w' = W := by
  have c1 := h.y
  obtain ⟨c2, hin, hsz⟩ := h.cells i x hx
  have HR : Hid (Calls Tryz.prog 96 #[.string (bA x)] W fun e w' => e = .returned (.bool (regF x).isSome) ∧ w' = W) := by
    have := IsRegister_any (bA x) W hsz
    rwa [show (bA x).data.toList = x by unfold bA; simp] at this
  have hini : (i : Int) < (n : Int) := by omega
  clear h hx hsz hin
  generalize (regF x).isSome = bb at *
  generalize bA x = xx at *
  go_enter Tryz.func95, Tryz.ntmps95
  go_wp2_with (first | (go_at_call 96; refine HR.out.mono ?_; rintro e w1 ⟨rfl, hw⟩; subst w1) | go_in)
  go_ret
  exact ⟨rfl, rfl⟩

/-- The words come. -/
theorem words_front (s : ByteArray) (w : World) (hs : s.size ≤ 100000) {n : Nat} {ws : List (List UInt8)} (hws : wdL [] s.data.toList = ws) (hn : ws.length = n) :
    Calls Tryz.prog 17 #[.string s] w fun e w1 => ∃ g cap, e = .returned (.slice (some ⟨g, 0, none⟩) n cap) ∧ Hid (Below w.heap.size w w1) ∧ RW (w1.alloc (.cells #[.slice (some ⟨g, 0, none⟩) n cap] 23)) w1.heap.size g n cap ws := by
  refine (WordsOf_any s w hs).mono ?_
  rintro e w1 ⟨v, rfl, ho, hb⟩
  rw [hws] at ho
  have hpos : 0 < ws.length := List.length_pos_iff.2 (by rw [← hws]; exact wdL_ne _ _)
  have ho2 : w1.ownsRow w.heap.size 9 1 v (ws.map bA).length ((ws.map bA).map Value.string) := by
    rw [List.length_map, List.map_map]
    exact ho
  obtain ⟨g, cap, rfl, hc⟩ := own_cells ho2 (by rw [List.length_map]; exact hpos)
  have hml : (ws.map bA).length = n := by rw [List.length_map, hn]
  rw [hml]
  have hg : g < w1.heap.size := World.block_lt_of_cell? w1 ⟨g, 0, none⟩ (hc 0 (by omega))
  have hal : Below w1.heap.size w1 (w1.alloc (.cells #[.slice (some ⟨g, 0, none⟩) n cap] 23)) := (Below.refl _ _).alloc (Nat.le_refl _) _
  refine ⟨g, cap, rfl, hb, ?_, fun j x hx => ?_, by rw [World.size_alloc]; omega, by rw [World.size_alloc]; omega⟩
  · rw [Lib.cell_of_heap (heap_alloc_new w1 _)]
    rfl
  · have hj : j < ws.length := (List.getElem?_eq_some_iff.1 hx).1
    have h1 := hc j (by omega)
    refine ⟨(hal.cell (p := ⟨g, j, none⟩) hg).trans (h1.trans ?_), by omega, ?_⟩
    · rw [List.getElem_map]
      rw [List.getElem?_eq_getElem hj] at hx
      rw [Option.some.inj hx]
    · have h2 : x ∈ wdL [] s.data.toList := by rw [hws]; exact List.mem_of_getElem? hx
      have h3 := wdL_mem _ _ x h2
      rw [show (bA x).size = x.length from size_of rfl]
      have hsl : s.size = s.data.toList.length := size_of rfl
      have h4 : ([] : List UInt8).length = 0 := rfl
      omega
theorem wd_size {s : ByteArray} (hs : s.size ≤ 100000) {ws : List (List UInt8)} (hws : wdL [] s.data.toList = ws) {x : List UInt8} (hx : x ∈ ws) : (bA x).size ≤ 1000000 := by
  have h3 := wdL_mem s.data.toList [] x (by rw [hws]; exact hx)
  have hsl : s.size = s.data.toList.length := size_of rfl
  have h4 : ([] : List UInt8).length = 0 := rfl
  rw [show (bA x).size = x.length from size_of rfl]
  omega
theorem nmb_neg {s : List UInt8} {m : Int} (h : ¬ 0 ≤ nmbF s m) : nmbF s m = -1 := by
  unfold nmbF at h ⊢
  split
  · rename_i v hv
    rw [hv] at h
    simp only at h
    split
    · rename_i h2
      rw [if_pos h2] at h
      omega
    · rfl
  · rfl
theorem okP_num (lines k : Nat) (x : List UInt8) (m : Nat) (h : (k = 2 ∧ m = 999999) ∨ (k = 3 ∧ m = 999999) ∨ (k = 4 ∧ m = lines) ∨ (k = 5 ∧ m = 99)) : okP lines k x = decide (0 ≤ nmbF (bA x).data.toList (m : Int)) := by
  rw [show (bA x).data.toList = x by unfold bA; simp]
  unfold okP nmbF
  cases hn : numF x with
  | none => rcases h with ⟨rfl, rfl⟩ | ⟨rfl, rfl⟩ | ⟨rfl, rfl⟩ | ⟨rfl, rfl⟩ <;> simp
  | some v =>
    have hle := numF_le hn
    rcases h with ⟨rfl, rfl⟩ | ⟨rfl, rfl⟩ | ⟨rfl, rfl⟩ | ⟨rfl, rfl⟩
    · simp; split <;> omega
    · simp; split <;> omega
    · simp; split <;> simp <;> omega
    · simp; split <;> simp <;> omega
theorem rig_of {lines : Nat} {s : List UInt8} {ws : List (List UInt8)} {x : List UInt8} {f : List Nat} {rest : List (List UInt8)} (hws : wdL [] s = ws) (h : ws = x :: rest) (hf : frmF x = some f) (h6 : f ≠ [0, 6]) : rigF lines s = (decide (ws.length = f.length + 1) && allP lines f rest) := by
  obtain ⟨r, hr⟩ := wdL_cut s
  rw [hws, h] at hr
  injection hr with h1 h2
  unfold rigF
  rw [← h1, hf]
  simp only
  rw [if_neg h6, hws, h]
  rfl
theorem rig_set {lines : Nat} {s : List UInt8} {ws : List (List UInt8)} {x : List UInt8} {rest : List (List UInt8)} (hws : wdL [] s = ws) (h : ws = x :: rest) (hf : frmF x = some [0, 6]) : rigF lines s = (decide (3 ≤ ws.length) && allP lines [0] rest) := by
  obtain ⟨r, hr⟩ := wdL_cut s
  rw [hws, h] at hr
  injection hr with h1 h2
  unfold rigF
  rw [← h1, hf]
  simp only
  rw [if_pos trivial, hws, h]
  rfl
theorem rig_no {lines : Nat} {s : List UInt8} {ws : List (List UInt8)} {x : List UInt8} {rest : List (List UInt8)} (hws : wdL [] s = ws) (h : ws = x :: rest) (hf : frmF x = none) : rigF lines s = false := by
  obtain ⟨r, hr⟩ := wdL_cut s
  rw [hws, h] at hr
  injection hr with h1 h2
  unfold rigF
  rw [← h1, hf]
end Go.Proofs.YtapiedeekbfpnaaGreatDoor
