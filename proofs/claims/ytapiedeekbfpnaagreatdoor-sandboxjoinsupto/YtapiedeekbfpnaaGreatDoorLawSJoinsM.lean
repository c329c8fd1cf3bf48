/- SandboxJoins holds in its second form, its listed variables tied to the program's text: for all files, every command and every text that can be read, of no more bulk than the form says, a command that ends with 0 behind its last line, and two lines behind it, do what both do; all read behind the call as they read before. -/
import Derived.Test.YtapiedeekbfpnaaGreatDoorSbErM
import Derived.Test.YtapiedeekbfpnaaGreatDoorSbUpM
import Derived.Test.YtapiedeekbfpnaaGreatDoorSbI2M
import Derived.Test.YtapiedeekbfpnaaGreatDoorTa7
import Derived.Test.YtapiedeekbfpnaaGreatDoorSd8M
import Derived.Deep.QuietTactic
import Derived.BigQuiet
import Derived.BigRegion
namespace Go.Proofs.YtapiedeekbfpnaaGreatDoor
open Go.ChangeMaps (open_string shut_string)
open Go.ChangeShapes Go.WideShapes Go.ChangeAt Go.RowKit Go.Shelf Go.Sort
attribute [local go_sem ↓] appS_eq

/-- How Run ends: its files lie somewhere, within a slice that has room for them. -/
theorem RunD (ao co : Option Addr) (cap ccap : Nat) (F : List Fl) (ss : List ByteArray) (w W : World) (hw : Below w.heap.size w W) (hl : IsFl W ao F) (ht : TxAt W co ss) (he : Env W) (hlen : ss.length ≤ 4611686018427387904) :
    Calls Tryz.prog 9 #[.slice ao F.length cap, .slice co ss.length ccap, .int .i64 100000] W fun e w' => ∃ ra rc, e = .returned (.tuple #[.slice ra (rnL F ss ((100000 : Nat) : Int)).length rc, .int .i64 (rnC F ss ((100000 : Nat) : Int) : Int), .int .i64 (rnS F ss ((100000 : Nat) : Int) : Int), .int .i64 (rnE F ss ((100000 : Nat) : Int))]) ∧ Hid (Below w.heap.size w w' ∧ IsFl w' ra (rnL F ss ((100000 : Nat) : Int)) ∧ (rnL F ss ((100000 : Nat) : Int)).length ≤ rc ∧ Below W.heap.size W w') := by
  refine (Run_any ao co cap ccap F ss ((100000 : Nat) : Int) W hl ht he hlen (by omega) (by omega)).mono ?_
  rintro e w' ⟨ra, rc, rfl, h1, h2⟩
  refine ⟨ra, rc, rfl, below_low hw h2.out hw.size, own_files h1.out rfl, ?_, h2.out⟩
  rcases h1.out.2 with ⟨e, _⟩ | ⟨g, c, cur, e, _, _, hle, _⟩
  · injection e with _ e1 e2
    omega
  · injection e with _ _ e2
    omega
theorem wrap_small (a n : Nat) (h : a ≤ n) (hn : (n : Int) ≤ 60) : IntKind.i64.wrap (a : Int) = (a : Int) := by
  rw [IntKind.wrap_i64]
  omega
theorem join_num (n S1 S2 : Nat) (hn : n ≤ 1048576) (hS : S2 ≤ 100000 + 100000) (h : S2 = S1 + 2 + 2 * (n / 16)) : ∃ q q2 s3 : Nat, ((n : Int)).tdiv 16 = (q : Int) ∧ IntKind.i64.wrap (q : Int) = (q : Int) ∧ (2 : Int) * (q : Int) = (q2 : Int) ∧ IntKind.i64.wrap (q2 : Int) = (q2 : Int) ∧ (S1 : Int) + 2 = (s3 : Int) ∧ IntKind.i64.wrap (s3 : Int) = (s3 : Int) ∧ (s3 : Int) + (q2 : Int) = (S2 : Int) ∧ IntKind.i64.wrap (S2 : Int) = (S2 : Int) := by
  refine ⟨n / 16, 2 * (n / 16), S1 + 2, rfl, ?_, by omega, ?_, by omega, ?_, by omega, ?_⟩ <;> rw [IntKind.wrap_i64] <;> omega
/-- A file's cells. -/
theorem fl_at {W : World} {ra : Option Addr} {X : List Fl} (h : IsFl W ra X) {j : Nat} (hj : j < X.length) : ∃ g o, ra = some ⟨g, o, none⟩ ∧ g < W.heap.size ∧ FlAt g o X W := by
  rcases h with h | h
  · rw [h] at hj; simp at hj
  · exact h

set_option maxHeartbeats 16000000 in
set_option maxRecDepth 100000 in
theorem joins_walk (ao co : Option Addr) (cap ccap : Nat) (F : List Fl) (ss : List ByteArray) (t : ByteArray) (w : World) (hl : IsFl w ao F) (ht : TxAt w co ss) (he : Env w) (hlen : ss.length ≤ 1048576) (hts : ∀ s ∈ ss, s.size ≤ 1048576) (htz : t.size ≤ 1048576) (hnil : co = none → ccap = 0) :
    Calls Tryz.prog 8 #[.slice ao F.length cap, .slice co ss.length ccap, .string t] w fun e w' => e = .returned (.bool true) ∧ Below w.heap.size w w' := by
  have HBg : Hid (Calls Tryz.prog 11 #[] w fun e w' => e = .returned (.bool true) ∧ Hid (Below w.heap.size w w')) := sbegun_any w he.1
  have HR1 : Hid (∀ W, Hid (Below w.heap.size w W) → Calls Tryz.prog 9 #[.slice ao F.length cap, .slice co ss.length ccap, .int .i64 100000] W fun e w' => ∃ ra rc, e = .returned (.tuple #[.slice ra (rnL F ss ((100000 : Nat) : Int)).length rc, .int .i64 (rnC F ss ((100000 : Nat) : Int) : Int), .int .i64 (rnS F ss ((100000 : Nat) : Int) : Int), .int .i64 (rnE F ss ((100000 : Nat) : Int))]) ∧ Hid (Below w.heap.size w w' ∧ IsFl w' ra (rnL F ss ((100000 : Nat) : Int)) ∧ (rnL F ss ((100000 : Nat) : Int)).length ≤ rc)) := fun W hW => (RunD ao co cap ccap F ss w W hW.out (hl.below hW.out (Nat.le_refl _)) (ht.below hW.out) (he.up hW.out) (by omega)).mono fun e w' ⟨ra, rc, q1, q2⟩ => ⟨ra, rc, q1, q2.out.1, q2.out.2.1, q2.out.2.2.1⟩
  have HAp : Hid (∀ W ra rc, Hid (Below w.heap.size w W ∧ IsFl W ra (rnL F ss ((100000 : Nat) : Int)) ∧ (rnL F ss ((100000 : Nat) : Int)).length ≤ rc) → ∃ v1 wA gb cb wB, (appS #[23, 23] 23 #[.slice (some ⟨W.heap.size, 0, none⟩) 0 0, .slice co ss.length ccap]).run Tryz.prog (W.alloc (.cells #[] 9)) = .ok v1 wA ∧
      (appS #[23, 23] 23 #[v1, .slice (some ⟨wA.heap.size, 0, none⟩) 2 2]).run Tryz.prog (wA.alloc (.cells #[.string (jS1 t), .string ⟨#[109, 97, 107, 101, 32, 106, 111, 105, 110, 101, 100, 47, 108, 97, 115, 116, 32, 104]⟩] 9)) = .ok (.slice (some ⟨gb, 0, none⟩) (ss ++ [jS1 t, jS2]).length cb) wB ∧
      Hid (Below w.heap.size w wB ∧ IsFl wB ra (rnL F ss ((100000 : Nat) : Int)) ∧ (rnL F ss ((100000 : Nat) : Int)).length ≤ rc ∧ TxAt wB (some ⟨gb, 0, none⟩) (ss ++ [jS1 t, jS2]))) := fun W ra rc hW => by
    obtain ⟨v1, wA, h1, h2⟩ := twoO_ap (Y := W.alloc (.cells #[] 9)) (ht.below hW.out.1) hnil hlen ((Below.refl _ W).alloc (Nat.le_refl _) _) (heap_alloc_new W _)
    obtain ⟨gb, cb, wB, h3, h4, h5⟩ := h2 (jS1 t) jS2
    exact ⟨v1, wA, gb, cb, wB, h1, h3, below_low hW.out.1 h5 hW.out.1.size, hW.out.2.1.up h5, hW.out.2.2, h4⟩
  have HR2 : Hid (∀ W ra rc gb cb, Hid (Below w.heap.size w W ∧ IsFl W ra (rnL F ss ((100000 : Nat) : Int)) ∧ (rnL F ss ((100000 : Nat) : Int)).length ≤ rc ∧ TxAt W (some ⟨gb, 0, none⟩) (ss ++ [jS1 t, jS2])) → Calls Tryz.prog 9 #[.slice ao F.length cap, .slice (some ⟨gb, 0, none⟩) (ss ++ [jS1 t, jS2]).length cb, .int .i64 100000] W fun e w' => ∃ rb rd, e = .returned (.tuple #[.slice rb (rnL F (ss ++ [jS1 t, jS2]) ((100000 : Nat) : Int)).length rd, .int .i64 (rnC F (ss ++ [jS1 t, jS2]) ((100000 : Nat) : Int) : Int), .int .i64 (rnS F (ss ++ [jS1 t, jS2]) ((100000 : Nat) : Int) : Int), .int .i64 (rnE F (ss ++ [jS1 t, jS2]) ((100000 : Nat) : Int))]) ∧ Hid ((Below w.heap.size w w' ∧ IsFl w' ra (rnL F ss ((100000 : Nat) : Int)) ∧ (rnL F ss ((100000 : Nat) : Int)).length ≤ rc) ∧ IsFl w' rb (rnL F (ss ++ [jS1 t, jS2]) ((100000 : Nat) : Int)) ∧ (rnL F (ss ++ [jS1 t, jS2]) ((100000 : Nat) : Int)).length ≤ rd)) := fun W ra rc gb cb hW => (RunD ao (some ⟨gb, 0, none⟩) cap cb F (ss ++ [jS1 t, jS2]) w W hW.out.1 (hl.below hW.out.1 (Nat.le_refl _)) hW.out.2.2.2 (he.up hW.out.1) (by simp; omega)).mono fun e w' ⟨rb, rd, q1, q2⟩ => ⟨rb, rd, q1, ⟨q2.out.1, hW.out.2.1.up q2.out.2.2.2, hW.out.2.2.1⟩, q2.out.2.1, q2.out.2.2.1⟩
  have hcat : ∀ W : World, (Op.stringOp .add ⟨#[115, 101, 116, 32, 104, 32]⟩ t).run Tryz.prog W = .ok (.string (jS1 t)) W := fun W => catB _ t _ (by simp [jS1, bA]) (by have : (⟨#[115, 101, 116, 32, 104, 32]⟩ : ByteArray).size = 6 := rfl; omega) W
  have HTx : Hid (∀ W, Below w.heap.size w W → TxAt W co ss) := fun W hW => ht.below hW
  have HWd : Hid (∀ (k : Nat) (hk : k < ss.length) (W : World), Hid (Below w.heap.size w W) → Calls Tryz.prog 17 #[.string ss[k]] W fun e w' => ∃ g cap n, e = .returned (.slice (some ⟨g, 0, none⟩) n cap) ∧ (0 : Int) < (n : Int) ∧ w'.cell? ⟨g, 0, none⟩ = some (.string (bA ((wdL [] ss[k].data.toList).getD 0 []))) ∧ Hid (Below w.heap.size w w')) := fun k hk W hW => (WordsB ss[k] W (by have := hts _ (List.getElem_mem hk); omega)).mono fun e w' ⟨g, cap, q1, q2, q3⟩ => by
    have hne : (wdL [] ss[k].data.toList).length ≠ 0 := fun e => wdL_ne _ _ (List.length_eq_zero_iff.1 e)
    exact ⟨g, cap, _, q1, by omega, q2.out 0 (by omega), below_low hW.out q3.out hW.out.size⟩
  have HJo : Hid ((∀ s ∈ ss, jex s = false) → rnE F ss ((100000 : Nat) : Int) = 0 → rnE F (ss ++ [jS1 t, jS2]) ((100000 : Nat) : Int) = 0 → (rnC F ss ((100000 : Nat) : Int) ≠ 0 → rnC F (ss ++ [jS1 t, jS2]) ((100000 : Nat) : Int) = rnC F ss ((100000 : Nat) : Int)) ∧ (rnC F ss ((100000 : Nat) : Int) = 0 → rnC F (ss ++ [jS1 t, jS2]) ((100000 : Nat) : Int) = 0 → rnS F (ss ++ [jS1 t, jS2]) ((100000 : Nat) : Int) = rnS F ss ((100000 : Nat) : Int) + 2 + 2 * (t.size / 16) ∧ rnL F (ss ++ [jS1 t, jS2]) ((100000 : Nat) : Int) = putF (rnL F ss ((100000 : Nat) : Int)) ⟨jPa, t, false⟩)) := fun h1 h2 h3 => rn_joins h2 h3 h1
  have HT1 : Hid (TrOk (rnL F ss ((100000 : Nat) : Int)) ∧ TrOk (rnL F (ss ++ [jS1 t, jS2]) ((100000 : Nat) : Int)) ∧ rnS F (ss ++ [jS1 t, jS2]) ((100000 : Nat) : Int) ≤ 100000 + 100000) := ⟨rn_tree F ss _, rn_tree F _ _, by
    by_cases h : rnE F (ss ++ [jS1 t, jS2]) ((100000 : Nat) : Int) = 0
    · have := rn_spent F _ _ h; omega
    · unfold rnS; rw [if_neg h]; omega⟩
  have HFa : Hid (∀ (W : World) (ra : Option Addr) (rc : Nat) (X : List Fl), IsFl W ra X → X.length ≤ 60 → Calls Tryz.prog 16 #[.slice ra X.length rc, .string ⟨#[106, 111, 105, 110, 101, 100, 47, 108, 97, 115, 116]⟩] W fun e w' => ∃ i, e = .returned (.int .i64 i) ∧ FaR X jPa.data.toList i ∧ w' = W) := fun W ra rc X h hn => FileAt_any ra rc X jPa W h (by omega)
  have hleni : (ss.length : Int) ≤ 1048576 := by omega
  have htzi : (t.size : Int) ≤ 1048576 := by omega
  generalize rnE F ss ((100000 : Nat) : Int) = E1 at *
  generalize rnC F ss ((100000 : Nat) : Int) = C1 at *
  generalize rnS F ss ((100000 : Nat) : Int) = S1 at *
  generalize rnL F ss ((100000 : Nat) : Int) = X1 at *
  generalize rnE F (ss ++ [jS1 t, jS2]) ((100000 : Nat) : Int) = E2 at *
  generalize rnC F (ss ++ [jS1 t, jS2]) ((100000 : Nat) : Int) = C2 at *
  generalize rnS F (ss ++ [jS1 t, jS2]) ((100000 : Nat) : Int) = S2 at *
  generalize rnL F (ss ++ [jS1 t, jS2]) ((100000 : Nat) : Int) = X2 at *
  generalize (ss ++ [jS1 t, jS2]).length = n2s at *
  clear hl ht he hts hnil
  go_enter Tryz.func8, Tryz.ntmps8
  go_wp2_with (first
    | (go_at_call 11; refine HBg.out.mono ?_; rintro e w1 ⟨rfl, H1⟩)
    | go_in)
  go_loopw [7] (fun i wr => ∃ k : Nat, k ≤ ss.length ∧ i = .int .i64 (k : Int) ∧ Hid (∀ s ∈ ss.take k, jex s = false) ∧ Hid (Below w.heap.size w wr)) (fun i _ => ss.length - (intOf i).toNat)
  case atStart =>
    refine ⟨0, Nat.zero_le _, rfl, ?_, H1⟩
    exact (fun s hs => by simp at hs : ∀ s ∈ ss.take 0, jex s = false)
  case round =>
    obtain ⟨k, hk, rfl, HN, HJ⟩ := hrel
    by_cases hkl : k < ss.length
    · have hki : (k : Int) < (ss.length : Int) := by omega
      obtain ⟨tg, to, rfl, htg, htc⟩ := (HTx.out _ HJ.out).at_ hkl
      have hW0 := HWd.out k hkl wr HJ
      have HSn : Hid (jex ss[k] = false → ∀ s ∈ ss.take (k + 1), jex s = false) := fun h s hs => by
        rw [List.take_succ_eq_append_getElem hkl] at hs
        rcases List.mem_append.1 hs with hs | hs
        · exact HN.out s hs
        · rw [List.mem_singleton.1 hs]; exact h
      have HJm : Hid (jex ss[k] = (decide ((wdL [] ss[k].data.toList).getD 0 [] = [103, 111, 116, 111]) || decide ((wdL [] ss[k].data.toList).getD 0 [] = [115, 97, 109, 101]) || decide ((wdL [] ss[k].data.toList).getD 0 [] = [108, 101, 115, 115]) || decide ((wdL [] ss[k].data.toList).getD 0 [] = [101, 120, 105, 116]))) := rfl
      have b1 := eqw ((wdL [] ss[k].data.toList).getD 0 []) [103, 111, 116, 111]
      have b2 := eqw ((wdL [] ss[k].data.toList).getD 0 []) [115, 97, 109, 101]
      have b3 := eqw ((wdL [] ss[k].data.toList).getD 0 []) [108, 101, 115, 115]
      have b4 := eqw ((wdL [] ss[k].data.toList).getD 0 []) [101, 120, 105, 116]
      have HWk : Hid (Calls Tryz.prog 17 #[.string ss[k]] wr fun e w' => ∃ g cap n, e = .returned (.slice (some ⟨g, 0, none⟩) n cap) ∧ (0 : Int) < (n : Int) ∧ w'.cell? ⟨g, 0, none⟩ = some (.string (bA ((wdL [] ss[k].data.toList).getD 0 []))) ∧ Hid (Below w.heap.size w w')) := hW0
      generalize ss[k] = s at *
      generalize bA ((wdL [] s.data.toList).getD 0 []) = b0 at *
      generalize decide ((wdL [] s.data.toList).getD 0 [] = [103, 111, 116, 111]) = d1 at *
      generalize decide ((wdL [] s.data.toList).getD 0 [] = [115, 97, 109, 101]) = d2 at *
      generalize decide ((wdL [] s.data.toList).getD 0 [] = [108, 101, 115, 115]) = d3 at *
      generalize decide ((wdL [] s.data.toList).getD 0 [] = [101, 120, 105, 116]) = d4 at *
      clear hW0
      cases d1 with
      | true =>
        clear HJm HSn
        go_wp2_with (first
          | (go_at_call 17; refine HWk.out.mono ?_; rintro e w4 ⟨wg, wc, wn, rfl, hwn, q0, H4⟩)
          | go_in)
        go_ret
        exact ⟨by first | rfl | simp, H4.out⟩
      | false =>
        cases d2 with
        | true =>
          clear HJm HSn
          go_wp2_with (first
            | (go_at_call 17; refine HWk.out.mono ?_; rintro e w4 ⟨wg, wc, wn, rfl, hwn, q0, H4⟩)
            | go_in)
          go_ret
          exact ⟨by first | rfl | simp, H4.out⟩
        | false =>
          cases d3 with
          | true =>
            clear HJm HSn
            go_wp2_with (first
              | (go_at_call 17; refine HWk.out.mono ?_; rintro e w4 ⟨wg, wc, wn, rfl, hwn, q0, H4⟩)
              | go_in)
            go_ret
            exact ⟨by first | rfl | simp, H4.out⟩
          | false =>
            cases d4 with
            | true =>
              clear HJm HSn
              go_wp2_with (first
                | (go_at_call 17; refine HWk.out.mono ?_; rintro e w4 ⟨wg, wc, wn, rfl, hwn, q0, H4⟩)
                | go_in)
              go_ret
              exact ⟨by first | rfl | simp, H4.out⟩
            | false =>
              have HN2 : Hid (∀ s ∈ ss.take (k + 1), jex s = false) := HSn.out HJm.out
              clear HJm HSn HN
              go_wp2_with (first
                | (go_at_call 17; refine HWk.out.mono ?_; rintro e w4 ⟨wg, wc, wn, rfl, hwn, q0, H4⟩)
                | go_in)
              refine ⟨⟨k + 1, hkl, by go_num, HN2, H4⟩, ?_⟩
              simp [intOf]; omega
    · obtain rfl : k = ss.length := by omega
      have HAll : Hid (∀ s ∈ ss, jex s = false) := fun s hs => HN.out s (by rw [List.take_length]; exact hs)
      have HJo : Hid (E1 = 0 → E2 = 0 → (C1 ≠ 0 → C2 = C1) ∧ (C1 = 0 → C2 = 0 → S2 = S1 + 2 + 2 * (t.size / 16) ∧ X2 = putF X1 ⟨jPa, t, false⟩)) := HJo.out HAll.out
      have hR := HR1.out wr HJ
      by_cases h1 : E1 = 0
      · subst h1
        by_cases h2 : E2 = 0
        · subst h2
          obtain ⟨g1, g2⟩ := HJo.out rfl rfl
          by_cases h3 : C1 = 0
          · subst h3
            by_cases h4 : C2 = 0
            · subst h4
              obtain ⟨g3, g4⟩ := g2 rfl rfl
              subst g4
              obtain ⟨hu1, tr2, hS2⟩ := HT1.out
              have hn1 := hu1.ln
              have hn2 := tr2.ln
              have HR1w : Hid (Calls Tryz.prog 9 #[.slice ao F.length cap, .slice co ss.length ccap, .int .i64 100000] wr fun e w' => ∃ ra rc, e = .returned (.tuple #[.slice ra X1.length rc, .int .i64 ((0 : Nat) : Int), .int .i64 (S1 : Int), .int .i64 0]) ∧ Hid (Below w.heap.size w w' ∧ IsFl w' ra X1 ∧ X1.length ≤ rc)) := hR
              have hpf : pth (⟨jPa, t, false⟩ : Fl) = jPa.data.toList := rfl
              have HF2 : Hid (∀ (W : World) ra rc rb rd, Hid ((Below w.heap.size w W ∧ IsFl W ra X1 ∧ X1.length ≤ rc) ∧ IsFl W rb (putF X1 ⟨jPa, t, false⟩) ∧ (putF X1 ⟨jPa, t, false⟩).length ≤ rd) → Calls Tryz.prog 16 #[.slice rb (putF X1 ⟨jPa, t, false⟩).length rd, .string ⟨#[106, 111, 105, 110, 101, 100, 47, 108, 97, 115, 116]⟩] W fun e w' => ∃ j : Nat, e = .returned (.int .i64 (j : Int)) ∧ w' = W ∧ Hid (∃ xg xo A v3 re rq wC wD, rb = some ⟨xg, xo, none⟩ ∧ W.cell? ⟨xg, xo + j * 3 + 1, none⟩ = some (.string t) ∧ W.cell? ⟨xg, xo + j * 3 + 2, none⟩ = some (.bool false) ∧ j < (putF X1 ⟨jPa, t, false⟩).length ∧ j + 1 ≤ rd ∧ (if rd = j + 1 then some (⟨xg, xo, none⟩ : Addr) else some ⟨xg, xo + (j + 1) * 3, none⟩) = some A ∧
                  (appS #[22, 22] 22 #[.slice (some ⟨W.heap.size, 0, none⟩) 0 0, .slice (some ⟨xg, xo, none⟩) j rd]).run Tryz.prog ((W.alloc (.cells #[] 35)).drew) = .ok v3 wC ∧
                  (appS #[22, 22] 22 #[v3, .slice (some A) ((putF X1 ⟨jPa, t, false⟩).length - (j + 1)) (rd - (j + 1))]).run Tryz.prog wC = .ok (.slice re (butF jPa.data.toList X1).length rq) wD ∧
                  Hid (Below w.heap.size w wD ∧ IsFl wD ra X1 ∧ X1.length ≤ rc ∧ IsFl wD re (butF jPa.data.toList X1)))) := fun W ra rc rb rd h => (HFa.out W rb rd _ h.out.2.1 hn2).mono fun e w' ⟨i, q1, q2, q3⟩ => by
                have hin : (⟨jPa, t, false⟩ : Fl) ∈ putF X1 ⟨jPa, t, false⟩ := (putF_mem X1 _ _).2 (.inl rfl)
                rcases q2 with ⟨_, q2⟩ | ⟨j, hj, q2, q4, _⟩
                · exact absurd hpf (q2 _ hin)
                · have hx : (putF X1 ⟨jPa, t, false⟩)[j] = ⟨jPa, t, false⟩ := by
                    rcases (putF_mem X1 ⟨jPa, t, false⟩ _).1 (List.getElem_mem hj) with e | ⟨_, e⟩
                    · exact e
                    · exact absurd (q4.trans hpf.symm) e
                  obtain ⟨xg, xo, e1, hxg, hxc⟩ := fl_at h.out.2.1 hj
                  have hc := hxc j hj
                  rw [hx] at hc
                  obtain ⟨A, v3, re, rq, wC, wD, k1, k2, k3, k4, k5⟩ := eraO_ap (cap := rd) (Y := (W.alloc (.cells #[] 35)).drew) hxc hxg ⟨rfl, rfl, rfl, (((Below.refl W.heap.size W).alloc (Nat.le_refl _) _).size), ((Below.refl W.heap.size W).alloc (Nat.le_refl _) _).block⟩ (heap_alloc_new W _) (by omega) h.out.2.2 j hj
                  have hera : (putF X1 ⟨jPa, t, false⟩).eraseIdx j = butF jPa.data.toList X1 := (era_but tr2.up hj q4).trans (but_put hu1.up ⟨jPa, t, false⟩)
                  rw [hera] at k3 k4
                  exact ⟨j, by rw [q1, q2], q3, xg, xo, A, v3, re, rq, wC, wD, e1, hc.2.1, hc.2.2, hj, by have := h.out.2.2; omega, k1, k2, k3, below_low h.out.1.1 k5 h.out.1.1.size, h.out.1.2.1.up k5, h.out.1.2.2, k4⟩
              have HSm : Hid (∀ (W : World) (ra rb : Option Addr) (rc rd : Nat), Hid (Below w.heap.size w W ∧ IsFl W ra (butF jPa.data.toList X1) ∧ IsFl W rb (butF jPa.data.toList X1)) → Calls Tryz.prog 15 #[.slice ra (butF jPa.data.toList X1).length rc, .slice rb (butF jPa.data.toList X1).length rd] W fun e w' => e = .returned (.bool true) ∧ Hid (Below w.heap.size w w')) := fun W ra rb rc rd h => (SameC ra rb rc rd _ W (by have : (butF jPa.data.toList X1).length ≤ X1.length := List.length_filter_le _ _; omega) h.out.2.1 h.out.2.2).mono fun e w' q => ⟨q.1, below_low h.out.1 q.2.out h.out.1.size⟩
              obtain ⟨q, q2, s3, e1, e2, e3, e4, e5, e6, e7, e8⟩ := join_num (t.size) S1 S2 htz hS2 g3
              by_cases hfd : ∃ f ∈ X1, pth f = jPa.data.toList
              · have HF1 : Hid (∀ (W : World) ra rc re, Hid (Below w.heap.size w W ∧ IsFl W ra X1 ∧ X1.length ≤ rc ∧ IsFl W re (butF jPa.data.toList X1)) → Calls Tryz.prog 16 #[.slice ra X1.length rc, .string ⟨#[106, 111, 105, 110, 101, 100, 47, 108, 97, 115, 116]⟩] W fun e w' => ∃ j : Nat, e = .returned (.int .i64 (j : Int)) ∧ w' = W ∧ Hid (∃ xg xo A v3 rz rq wC wD, ra = some ⟨xg, xo, none⟩ ∧ j < X1.length ∧ j + 1 ≤ rc ∧ (if rc = j + 1 then some (⟨xg, xo, none⟩ : Addr) else some ⟨xg, xo + (j + 1) * 3, none⟩) = some A ∧
                    (appS #[22, 22] 22 #[.slice (some ⟨W.heap.size, 0, none⟩) 0 0, .slice (some ⟨xg, xo, none⟩) j rc]).run Tryz.prog ((W.alloc (.cells #[] 35)).drew) = .ok v3 wC ∧
                    (appS #[22, 22] 22 #[v3, .slice (some A) (X1.length - (j + 1)) (rc - (j + 1))]).run Tryz.prog wC = .ok (.slice rz (butF jPa.data.toList X1).length rq) wD ∧
                    Hid (Below w.heap.size w wD ∧ IsFl wD re (butF jPa.data.toList X1) ∧ IsFl wD rz (butF jPa.data.toList X1)))) := fun W ra rc re h => (HFa.out W ra rc _ h.out.2.1 hn1).mono fun e w' ⟨i, q1, q2, q3⟩ => by
                  rcases q2 with ⟨_, q2⟩ | ⟨j, hj, q2, q4, _⟩
                  · obtain ⟨f, hf, hp⟩ := hfd
                    exact absurd hp (q2 f hf)
                  · obtain ⟨xg, xo, e1, hxg, hxc⟩ := fl_at h.out.2.1 hj
                    obtain ⟨A, v3, rz, rq, wC, wD, k1, k2, k3, k4, k5⟩ := eraO_ap (cap := rc) (Y := (W.alloc (.cells #[] 35)).drew) hxc hxg ⟨rfl, rfl, rfl, (((Below.refl W.heap.size W).alloc (Nat.le_refl _) _).size), ((Below.refl W.heap.size W).alloc (Nat.le_refl _) _).block⟩ (heap_alloc_new W _) (by omega) h.out.2.2.1 j hj
                    rw [era_but hu1.up hj q4] at k3 k4
                    exact ⟨j, by rw [q1, q2], q3, xg, xo, A, v3, rz, rq, wC, wD, e1, hj, by have := h.out.2.2.1; omega, k1, k2, k3, below_low h.out.1 k5 h.out.1.size, h.out.2.2.2.up k5, k4⟩
                clear hR g1 g2 hfd g3 hS2 hu1 tr2 hpf
                have hn1i : (X1.length : Int) ≤ 60 := by omega
                have hn2i : ((putF X1 ⟨jPa, t, false⟩).length : Int) ≤ 60 := by omega
                generalize butF jPa.data.toList X1 = XB at *
                generalize XB.length = xbn at *
                generalize putF X1 ⟨jPa, t, false⟩ = X2 at *
                generalize X1.length = x1n at *
                generalize X2.length = x2n at *
                go_wp2_with (first
                  | (go_at_call 9; with_reducible refine HR1w.out.mono ?_; rintro e w5 ⟨ra, rc, rfl, H5⟩; obtain ⟨v1, wA, gb, cb, wB, ha1, ha2, HB⟩ := HAp.out w5 ra rc H5)
                  | (go_at_call 9; with_reducible refine (HR2.out wB ra rc gb cb HB).mono ?_; rintro e w6 ⟨rb, rd, rfl, H6⟩; clear ha1 ha2)
                  | (go_at_call 16; refine (HF2.out w6 ra rc rb rd H6).mono ?_; rintro e w7 ⟨j, rfl, hw, HJ2⟩; subst w7; obtain ⟨xg, xo, A, v3, re, rq, wC, wD, rfl, t1, t2, hj, hjc, hA, hb1, hb2, H8⟩ := HJ2.out; have hji : (j : Int) < (x2n : Int) := (by omega); have hjr : j ≤ rd := (by omega); obtain ⟨j3, hj3⟩ : ∃ j3, j + 1 = j3 := ⟨_, rfl⟩; have hj4 : (j : Int) + 1 = (j3 : Int) := (by omega); have hj6 : j3 ≤ x2n := (by omega); have hj7 : j3 ≤ rd := (by omega); rw [hj3] at hA hb2; have hj8 := wrap_small j3 x2n hj6 hn2i; clear hj3 HJ2)
                  | go_in)
                go_region
                go_wp2_with (first
                  | (go_at_call 16; refine (HF1.out _ ra rc re H8).mono ?_; rintro e w8 ⟨k, rfl, hw, HJ3⟩; subst w8; obtain ⟨yg, yo, A2, v4, rz, rq2, wE, wG, rfl, hk1, hkc, hA2, hb3, hb4, H9⟩ := HJ3.out; have hki2 : (k : Int) < (x1n : Int) := (by omega); have hkr : k ≤ rc := (by omega); obtain ⟨k3, hk3⟩ : ∃ k3, k + 1 = k3 := ⟨_, rfl⟩; have hk4 : (k : Int) + 1 = (k3 : Int) := (by omega); have hk6 : k3 ≤ x1n := (by omega); have hk7 : k3 ≤ rc := (by omega); rw [hk3] at hA2 hb4; have hk8 := wrap_small k3 x1n hk6 hn1i; clear hk3 HJ3)
                  | go_in)
                go_region
                go_wp2_with (first
                  | (go_at_call 15; refine (HSm.out _ re rz _ _ H9).mono ?_; rintro e w9 ⟨rfl, H10⟩)
                  | go_in)
                go_ret
                exact ⟨by first | rfl | simp, H10.out⟩
              · have hXB : butF jPa.data.toList X1 = X1 := but_none fun f hf e => hfd ⟨f, hf, e⟩
                have HF1 : Hid (∀ (W : World) ra rc re, Hid (Below w.heap.size w W ∧ IsFl W ra X1 ∧ X1.length ≤ rc ∧ IsFl W re (butF jPa.data.toList X1)) → Calls Tryz.prog 16 #[.slice ra X1.length rc, .string ⟨#[106, 111, 105, 110, 101, 100, 47, 108, 97, 115, 116]⟩] W fun e w' => e = .returned (.int .i64 (-1)) ∧ w' = W ∧ Hid (Below w.heap.size w W ∧ IsFl W re (butF jPa.data.toList X1) ∧ IsFl W ra (butF jPa.data.toList X1))) := fun W ra rc re h => (HFa.out W ra rc _ h.out.2.1 hn1).mono fun e w' ⟨i, q1, q2, q3⟩ => by
                  rcases q2 with ⟨q2, _⟩ | ⟨j, hj, _, q4, _⟩
                  · exact ⟨by rw [q1, q2], q3, h.out.1, h.out.2.2.2, by rw [hXB]; exact h.out.2.1⟩
                  · exact absurd ⟨_, List.getElem_mem hj, q4⟩ hfd
                have hxl : (butF jPa.data.toList X1).length = X1.length := by rw [hXB]
                rw [hxl] at HSm HF2
                clear hR g1 g2 hfd g3 hS2 hu1 tr2 hpf hXB hxl
                have hn1i : (X1.length : Int) ≤ 60 := by omega
                have hn2i : ((putF X1 ⟨jPa, t, false⟩).length : Int) ≤ 60 := by omega
                generalize butF jPa.data.toList X1 = XB at *
                generalize putF X1 ⟨jPa, t, false⟩ = X2 at *
                generalize X1.length = x1n at *
                generalize X2.length = x2n at *
                go_wp2_with (first
                  | (go_at_call 9; with_reducible refine HR1w.out.mono ?_; rintro e w5 ⟨ra, rc, rfl, H5⟩; obtain ⟨v1, wA, gb, cb, wB, ha1, ha2, HB⟩ := HAp.out w5 ra rc H5)
                  | (go_at_call 9; with_reducible refine (HR2.out wB ra rc gb cb HB).mono ?_; rintro e w6 ⟨rb, rd, rfl, H6⟩; clear ha1 ha2)
                  | (go_at_call 16; refine (HF2.out w6 ra rc rb rd H6).mono ?_; rintro e w7 ⟨j, rfl, hw, HJ2⟩; subst w7; obtain ⟨xg, xo, A, v3, re, rq, wC, wD, rfl, t1, t2, hj, hjc, hA, hb1, hb2, H8⟩ := HJ2.out; have hji : (j : Int) < (x2n : Int) := (by omega); have hjr : j ≤ rd := (by omega); obtain ⟨j3, hj3⟩ : ∃ j3, j + 1 = j3 := ⟨_, rfl⟩; have hj4 : (j : Int) + 1 = (j3 : Int) := (by omega); have hj6 : j3 ≤ x2n := (by omega); have hj7 : j3 ≤ rd := (by omega); rw [hj3] at hA hb2; have hj8 := wrap_small j3 x2n hj6 hn2i; clear hj3 HJ2)
                  | go_in)
                go_region
                go_wp2_with (first
                  | (go_at_call 16; refine (HF1.out _ ra rc re H8).mono ?_; rintro e w9 ⟨rfl, hw, H9⟩; subst w9)
                  | (go_at_call 15; refine (HSm.out _ re ra _ _ H9).mono ?_; rintro e w10 ⟨rfl, H10⟩)
                  | go_in)
                go_ret
                exact ⟨by first | rfl | simp, H10.out⟩
            · have hCi : ((C2 : Int) == 0) = false := by simp; omega
              have hCn : ¬ (C2 : Int) = 0 := by omega
              have HR1w : Hid (Calls Tryz.prog 9 #[.slice ao F.length cap, .slice co ss.length ccap, .int .i64 100000] wr fun e w' => ∃ ra rc, e = .returned (.tuple #[.slice ra X1.length rc, .int .i64 ((0 : Nat) : Int), .int .i64 (S1 : Int), .int .i64 0]) ∧ Hid (Below w.heap.size w w' ∧ IsFl w' ra X1 ∧ X1.length ≤ rc)) := hR
              clear hR g1 g2
              generalize X1.length = x1n at *
              generalize X2.length = x2n at *
              go_wp2_with (first
                | (go_at_call 9; with_reducible refine HR1w.out.mono ?_; rintro e w5 ⟨ra, rc, rfl, H5⟩; obtain ⟨v1, wA, gb, cb, wB, ha1, ha2, HB⟩ := HAp.out w5 ra rc H5)
                | (go_at_call 9; with_reducible refine (HR2.out wB ra rc gb cb HB).mono ?_; rintro e w6 ⟨rb, rd, rfl, H6⟩)
                | go_in)
              go_ret
              exact ⟨by first | rfl | simp, H6.out.1.1⟩
          · have hC2 := g1 h3
            subst hC2
            have hCi : ((C2 : Int) == 0) = false := by simp; omega
            have hCn : ¬ (C2 : Int) = 0 := by omega
            have HR1w : Hid (Calls Tryz.prog 9 #[.slice ao F.length cap, .slice co ss.length ccap, .int .i64 100000] wr fun e w' => ∃ ra rc, e = .returned (.tuple #[.slice ra X1.length rc, .int .i64 (C2 : Int), .int .i64 (S1 : Int), .int .i64 0]) ∧ Hid (Below w.heap.size w w' ∧ IsFl w' ra X1 ∧ X1.length ≤ rc)) := hR
            clear hR g1 g2 h3
            generalize X1.length = x1n at *
            generalize X2.length = x2n at *
            go_wp2_with (first
              | (go_at_call 9; with_reducible refine HR1w.out.mono ?_; rintro e w5 ⟨ra, rc, rfl, H5⟩; obtain ⟨v1, wA, gb, cb, wB, ha1, ha2, HB⟩ := HAp.out w5 ra rc H5)
              | (go_at_call 9; with_reducible refine (HR2.out wB ra rc gb cb HB).mono ?_; rintro e w6 ⟨rb, rd, rfl, H6⟩)
              | go_in)
            go_ret
            exact ⟨by first | rfl | simp, H6.out.1.1⟩
        · have hEi : (E2 == 0) = false := by simpa using h2
          have HR1w : Hid (Calls Tryz.prog 9 #[.slice ao F.length cap, .slice co ss.length ccap, .int .i64 100000] wr fun e w' => ∃ ra rc, e = .returned (.tuple #[.slice ra X1.length rc, .int .i64 (C1 : Int), .int .i64 (S1 : Int), .int .i64 0]) ∧ Hid (Below w.heap.size w w' ∧ IsFl w' ra X1 ∧ X1.length ≤ rc)) := hR
          clear hR
          generalize X1.length = x1n at *
          generalize X2.length = x2n at *
          by_cases h3 : C1 = 0
          · subst h3
            go_wp2_with (first
              | (go_at_call 9; with_reducible refine HR1w.out.mono ?_; rintro e w5 ⟨ra, rc, rfl, H5⟩; obtain ⟨v1, wA, gb, cb, wB, ha1, ha2, HB⟩ := HAp.out w5 ra rc H5)
              | (go_at_call 9; with_reducible refine (HR2.out wB ra rc gb cb HB).mono ?_; rintro e w6 ⟨rb, rd, rfl, H6⟩)
              | go_in)
            go_ret
            exact ⟨by first | rfl | simp, H6.out.1.1⟩
          · have hCi : ((C1 : Int) == 0) = false := by simp; omega
            have hCn : ¬ (C1 : Int) = 0 := by omega
            clear h3
            go_wp2_with (first
              | (go_at_call 9; with_reducible refine HR1w.out.mono ?_; rintro e w5 ⟨ra, rc, rfl, H5⟩; obtain ⟨v1, wA, gb, cb, wB, ha1, ha2, HB⟩ := HAp.out w5 ra rc H5)
              | (go_at_call 9; with_reducible refine (HR2.out wB ra rc gb cb HB).mono ?_; rintro e w6 ⟨rb, rd, rfl, H6⟩)
              | go_in)
            go_ret
            exact ⟨by first | rfl | simp, H6.out.1.1⟩
      · have hEi : (E1 == 0) = false := by simpa using h1
        have HR1w : Hid (Calls Tryz.prog 9 #[.slice ao F.length cap, .slice co ss.length ccap, .int .i64 100000] wr fun e w' => ∃ ra rc, e = .returned (.tuple #[.slice ra X1.length rc, .int .i64 (C1 : Int), .int .i64 (S1 : Int), .int .i64 E1]) ∧ Hid (Below w.heap.size w w' ∧ IsFl w' ra X1 ∧ X1.length ≤ rc)) := hR
        clear hR
        generalize X1.length = x1n at *
        generalize X2.length = x2n at *
        go_wp2_with (first
          | (go_at_call 9; with_reducible refine HR1w.out.mono ?_; rintro e w5 ⟨ra, rc, rfl, H5⟩; obtain ⟨v1, wA, gb, cb, wB, ha1, ha2, HB⟩ := HAp.out w5 ra rc H5)
          | (go_at_call 9; with_reducible refine (HR2.out wB ra rc gb cb HB).mono ?_; rintro e w6 ⟨rb, rd, rfl, H6⟩)
          | go_in)
        go_ret
        exact ⟨by first | rfl | simp, H6.out.1.1⟩

set_option maxRecDepth 100000 in
theorem joins_walk_lifted (os : Os) (started : os.Started) (H : Type) (enc : TypeId × Value → H) (F : Stop.Interp) :
    ReturnsInHanded {} Tryz.checked os 8 .any ((Rows.OpenSpec.upto Rows.sandboxJoinsSpec).preRow enc Tryz.prog Tryz.f8 Rows.sandboxJoinsUptoRow.domain false Rows.sandboxJoinsUptoRow.laid) (((Rows.OpenSpec.upto Rows.sandboxJoinsSpec).at F).post enc Tryz.prog Tryz.f8 false true false false) := by
  refine returnsInHanded_of_row (C := Tryz.checked) (s := Rows.OpenSpec.upto Rows.sandboxJoinsSpec) own started (by kernel_rfl) Tryz.func8
    (witness_up (enc := enc) (C := Tryz.checked) (os := os) (World.laidAll Tryz.prog os Rows.sandboxJoinsUptoRow.laid) #[.slice none 0 0, .slice none 0 0, .string ⟨#[]⟩] (World.laidAll_os _ _ _)
      (World.shaped_of_ZipB (by kernel_rfl) (by kernel_rfl)) (by kernel_rfl)
      (OpenSpec.preRow_of_cond 8 (x := ([.nil, .nil, .lit (.string [])], [], [])) (by kernel_rfl) (by kernel_rfl) (fun k hk => by cases hk; kernel_rfl) (by kernel_rfl)
        (by rw [MakeChecks.laidMetH_plain _ _ _ (by kernel_rfl)]; exact laidMet_laidAll _ (by kernel_rfl) (by kernel_rfl)))) ?_
  intro W base args ds gs before hval0 hW _ hcond hsz0 lies shape _
  have hval : ∀ (j : Nat) t v, Tryz.f8.params[j]? = some t → args[j]? = some v → Value.okWide Tryz.prog W .any base t v := hval0
  have hk := hcond _ rfl
  have hW' := hW
  obtain ⟨p, q, hA0, hV, rfl, hfz, hnd⟩ := hW
  have hA : DataW.TrodAll enc Tryz.prog W 0 (fun _ => true) true Tryz.f8.params.toList args.toList ds p := hA0
  have hsz : (DataW.weightsEach Tryz.prog (Tryz.f8.params.toList ++ Rows.sandboxJoinsSpec.plain.varTypes Tryz.prog) (ds ++ gs)).all (· ≤ reachBytes) = true := hsz0
  rw [Tryz.params8] at hA hval hsz
  obtain ⟨v0, v1, v2, d0, d1, d2, p0, p1, p2, rfl, rfl, rfl, h0, h1, h2⟩ := trodAll_three hA
  obtain ⟨rfl, rfl⟩ := trodVars_none hV
  have h9 := of_decide_eq_true hk
  simp only [List.append_nil, Rows.uptoBulkAll] at h9
  obtain ⟨L0, ao0, cap0, rfl, hf0, hn0⟩ := arg_files (hval 0 22 v0 rfl rfl) h0 (arg_lenF hsz 0 d0 rfl rfl)
  have lt0 : ∀ x ∈ p0, x.block < W.heap.size := by obtain ⟨m, hm⟩ := h0; exact DataW.trod_lt m _ _ _ hm
  obtain ⟨ss1, co1, cc1, rfl, ht1, htot1, hnil1, hcap1⟩ := arg_texts_up (hval 1 23 v1 rfl rfl) h1 (by omega)
  have hml1 := total_len ss1
  have lt1 : ∀ x ∈ p1, x.block < W.heap.size := by obtain ⟨m, hm⟩ := h1; exact DataW.trod_lt m _ _ _ hm
  obtain ⟨a2, rfl, rfl, rfl, w2⟩ := open_string Tryz.underlying9 (hval 2 9 v2 rfl rfl) h2
  clear hA0 hval0
  refine (joins_walk ao0 co1 cap0 cc1 L0 ss1 a2 W hf0 ht1 (env_of lies shape) (by omega) (fun s hs => by have := total_mem hs; omega) (by simp only [Rows.uptoBulk] at h9; have : a2.data.toList.length = a2.size := rfl; omega) hnil1).mono fun e W' ⟨he, bel⟩ => ?_
  subst he
  exact ⟨_, rfl, _, _, _, [], _, [], hW', trodAll_mk1 (shut_bool Tryz.underlying4 _), trodAll_mk3 (Below.trod laidOut (by kernel_rfl) (of_decide_eq_true (by kernel_rfl)) h0 bel lt0) (Below.trod laidOut (by kernel_rfl) (of_decide_eq_true (by kernel_rfl)) h1 bel lt1) (shut_string Tryz.underlying9 w2), rfl, bel.frame _, fun h => by cases h⟩

theorem sandboxJoinsUpto_row : Rows.SandboxJoinsUptoSaid :=
  OpenClaim.holds_of_cond 8 Tryz.f8 rfl rfl rfl rfl rfl rfl rfl ⟨rfl, rfl, rfl, rfl, rfl⟩ rfl rfl rfl rfl rfl (by kernel_rfl) Tryz.func8 (by kernel_rfl)
    (of_decide_eq_true (by kernel_rfl)) (by unfold Func.isWrapper; first | (rw [if_pos (by decide +kernel)]; kernel_rfl) | (rw [if_neg (by decide +kernel)]; exact ⟨rfl, rfl⟩))
    (fun os started H enc _ F => by rw [OpenClaim.pre_eq_preRow]; exact joins_walk_lifted os started H enc F)

theorem sandboxJoinsUpto_holds : Rows.SandboxJoinsUptoCardSaid :=
  Claim7.holds_tied_plain_at .later [] Rows.sandboxJoinsUptoCard.laidKinds true Rows.sandboxJoinsUptoCard.stood.harness false
    sandboxJoinsUpto_row (fun _ h => by cases h) (by kernel_rfl) (fun _ h => by cases h) sandboxJoinsUpto_row_tie rfl ⟨rfl, rfl⟩ (by kernel_rfl) rfl
    (fun f fn hf hfn => by
      obtain rfl : f = 8 := Option.some.inj ((show Tryz.prog.funcNamed Rows.sandboxJoinsUptoRow.func = some 8 by kernel_rfl).symm.trans hf) |>.symm
      obtain rfl : fn = Tryz.f8 := (Option.some.inj (Tryz.func8.symm.trans hfn)).symm
      exact ⟨by kernel_rfl, fun j t ht => by
        rw [Tryz.params8] at ht
        have hm : t ∈ [22, 23, 9] := by simpa using Array.mem_of_getElem? ht
        have hall : ([22, 23, 9].all fun u => !Tryz.prog.wantsStandIn u) = true := by kernel_rfl
        exact (show Tryz.prog.wantsStandIn t = false by simpa using List.all_eq_true.1 hall t hm)⟩)
    (by kernel_rfl)
#print axioms sandboxJoinsUpto_holds
end Go.Proofs.YtapiedeekbfpnaaGreatDoor
