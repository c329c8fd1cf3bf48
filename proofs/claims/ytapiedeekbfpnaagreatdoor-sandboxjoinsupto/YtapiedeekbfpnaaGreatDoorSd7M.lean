/- The lines of a command with two lines behind it, plain; what both come to. -/
import Derived.Test.YtapiedeekbfpnaaGreatDoorSd6M
namespace Go.Proofs.YtapiedeekbfpnaaGreatDoor
open Go.RowKit Go.Shelf Go.Maps Go.WideMaps Go.Sort

theorem takP_lines {n n2 k : Nat} (hk : k ≠ 4) (l : Ln) (g : List UInt8) : takP n k l g = takP n2 k l g := by
  unfold takP
  rw [if_neg (show ¬ k = 4 from hk), if_neg (show ¬ k = 4 from hk)]
theorem foldP_lines {n n2 : Nat} : ∀ (ks : List Nat), (∀ k ∈ ks, k ≠ 4) → ∀ (gs : List (List UInt8)) (l : Ln), foldP n ks gs l = foldP n2 ks gs l := by
  intro ks
  induction ks with
  | nil => intro _ gs l; rfl
  | cons k ks ih =>
    intro h gs l
    cases gs with
    | nil => rfl
    | cons g gs =>
      show (takP n k l g).bind (fun l' => foldP n ks gs l') = (takP n2 k l g).bind (fun l' => foldP n2 ks gs l')
      rw [takP_lines (h k (by simp))]
      congr 1
      funext l'
      exact ih (fun x hx => h x (by simp [hx])) gs l'
/-- A line, as words, jumps or ends. -/
def jex (s : ByteArray) : Bool := jmp s || decide ((wdL [] s.data.toList).getD 0 [] = [101, 120, 105, 116])
theorem frm_four : ∀ p ∈ frmL, 4 ∈ p.2 → p.1 = [103, 111, 116, 111] ∨ p.1 = [115, 97, 109, 101] ∨ p.1 = [108, 101, 115, 115] := by decide
theorem linF_lines {n n2 : Nat} {s : ByteArray} (hj : jex s = false) : linF n s.data.toList = linF n2 s.data.toList := by
  unfold linF
  cases hf : frmF (Lib.cut s.data.toList [32]).1 with
  | none => rfl
  | some f =>
    simp only
    split
    · rfl
    · refine foldP_lines f (fun k hk e => ?_) _ _
      subst e
      unfold jex jmp at hj
      rw [wd0] at hj
      rw [Bool.or_eq_false_iff, Bool.or_eq_false_iff, Bool.or_eq_false_iff] at hj
      have := frm_four _ (lookup_mem _ _ hf) hk
      rcases this with e | e | e
      · exact absurd e (of_decide_eq_false hj.1.1.1)
      · exact absurd e (of_decide_eq_false hj.1.1.2)
      · exact absurd e (of_decide_eq_false hj.1.2)
theorem lns_lines {n n2 : Nat} : ∀ {ss : List ByteArray}, (∀ s ∈ ss, jex s = false) → lnsF n ss = lnsF n2 ss
  | [], _ => rfl
  | s :: ss, h => by
    unfold lnsF
    rw [List.filterMap_cons, List.filterMap_cons, linF_lines (n2 := n2) (h s (by simp))]
    have ih := lns_lines (n := n) (n2 := n2) (ss := ss) fun x hx => h x (by simp [hx])
    unfold lnsF at ih
    rw [ih]
theorem no_jex {n : Nat} {ss : List ByteArray} (hsz : ∀ s ∈ ss, s.size ≤ 100000) (hj : ∀ s ∈ ss, jex s = false) : ∀ l ∈ lnsF n ss, (wkF l ≠ 9 ∧ wkF l ≠ 10 ∧ wkF l ≠ 11) ∧ wkF l < 12 := by
  intro l hl
  obtain ⟨s, hs, hlin⟩ := List.mem_filterMap.1 hl
  obtain ⟨w0, h13⟩ := wrd_kind (by rw [Array.length_toList]; exact hsz s hs) hlin
  have h1 := hj s hs
  unfold jex jmp at h1
  rw [w0] at h1
  have key : ∀ j, j < 13 → (decide (wrdL.getD j [] = [103, 111, 116, 111]) || decide (wrdL.getD j [] = [115, 97, 109, 101]) || decide (wrdL.getD j [] = [108, 101, 115, 115]) || decide (wrdL.getD j [] = [101, 120, 105, 116])) = false → (j ≠ 9 ∧ j ≠ 10 ∧ j ≠ 11) ∧ j < 12 := by decide
  exact key _ h13 h1
def jS1 (t : ByteArray) : ByteArray := bA ([115, 101, 116, 32, 104, 32] ++ t.data.toList)
def jS2 : ByteArray := ⟨#[109, 97, 107, 101, 32, 106, 111, 105, 110, 101, 100, 47, 108, 97, 115, 116, 32, 104]⟩
def jPa : ByteArray := ⟨#[106, 111, 105, 110, 101, 100, 47, 108, 97, 115, 116]⟩
theorem ix3 (t : List UInt8) : Lib.indexByte ([115, 101, 116, 32, 104, 32] ++ t) 32 = ((3 : Nat) : Int) := by
  simp [Lib.indexByte]
theorem ix1 (t : List UInt8) : Lib.indexByte ([104, 32] ++ t) 32 = ((1 : Nat) : Int) := by
  simp [Lib.indexByte]
theorem cut3 (t : List UInt8) : (Lib.cut ([115, 101, 116, 32, 104, 32] ++ t) [32]).1 = [115, 101, 116] := by
  rw [← wd0, wdL_hit _ [] 3 (ix3 t)]
  rfl
theorem wdN2 (t : List UInt8) : wdN 2 ([115, 101, 116, 32, 104, 32] ++ t) = [[115, 101, 116], [104], t] := by
  have e1 : Lib.index ([115, 101, 116, 32, 104, 32] ++ t) [32] = ((3 : Nat) : Int) := by rw [Lib.index_one]; exact ix3 t
  have e2 : Lib.index ([104, 32] ++ t) [32] = ((1 : Nat) : Int) := by rw [Lib.index_one]; exact ix1 t
  unfold wdN Lib.splitK
  rw [e1]
  show _ = _
  rw [if_neg (by decide)]
  unfold Lib.splitK
  have e3 : List.drop (Int.toNat ((3 : Nat) : Int) + ([32] : List UInt8).length) ([115, 101, 116, 32, 104, 32] ++ t) = [104, 32] ++ t := rfl
  rw [e3, e2, if_neg (by decide)]
  rfl
theorem lin1 {n : Nat} {t : ByteArray} {l : Ln} (h : linF n (jS1 t).data.toList = some l) : wkF l = 0 ∧ l.r = 7 ∧ l.tx = t := by
  have e : (jS1 t).data.toList = [115, 101, 116, 32, 104, 32] ++ t.data.toList := by simp [jS1, bA]
  rw [e] at h
  unfold linF at h
  rw [cut3] at h
  have hf : frmF [115, 101, 116] = some [0, 6] := rfl
  rw [hf] at h
  simp only at h
  rw [show ([0, 6] : List Nat).length = 2 from rfl, wdN2] at h
  have h : foldP n [0, 6] [[104], t.data.toList] { Ln.none with wd := bA [115, 101, 116] } = some l := h
  have e2 : foldP n [0, 6] [[104], t.data.toList] { Ln.none with wd := bA [115, 101, 116] } = some { Ln.none with wd := bA [115, 101, 116], r := 7, tx := bA t.data.toList } := rfl
  rw [e2] at h
  obtain rfl := Option.some.inj h
  exact ⟨rfl, rfl, ba_ext (by simp [bA])⟩
theorem lin2 {n : Nat} {l : Ln} (h : linF n jS2.data.toList = some l) : wkF l = 7 ∧ l.r = 7 ∧ l.pa = jPa := by
  have hs : jS2.data.toList.length ≤ 100000 := by decide
  have hk : wkF l = 7 := by
    obtain ⟨w0, h13⟩ := wrd_kind hs h
    have e : (wdL [] jS2.data.toList).getD 0 [] = [109, 97, 107, 101] := by decide
    rw [e] at w0
    have key : ∀ j, j < 13 → [109, 97, 107, 101] = wrdL.getD j [] → j = 7 := by decide
    exact key _ h13 w0
  have hp := (lin_make hs h (.inl hk)).2
  obtain ⟨f, f1, _, f3⟩ := lin_words hs h (by omega)
  rw [hk] at f1
  have e : f = [7, 0] := (congrArg Prod.snd (Option.some.inj f1)).symm
  subst e
  have hw : (wdL [] jS2.data.toList).tail = [jPa.data.toList, [104]] := by decide
  rw [hw] at f3
  obtain ⟨l1, e1, e2⟩ := Option.bind_eq_some_iff.1 (show (takP n 7 _ jPa.data.toList).bind (fun l' => foldP n [0] [[104]] l') = some l from f3)
  obtain ⟨l2, e3, e4⟩ := Option.bind_eq_some_iff.1 (show (takP n 0 l1 [104]).bind (fun l' => foldP n [] [] l') = some l from e2)
  have e4 : l2 = l := Option.some.inj e4
  subst e4
  refine ⟨hk, ?_, ba_ext ?_⟩
  · have e3 : (regF [104]).map (fun v => { l1 with r := v }) = some l2 := e3
    obtain rfl := Option.some.inj e3
    rfl
  · rw [← hp]
    decide
/-- What a command, and the same with two lines behind it, come to. -/
theorem rn_joins {F : List Fl} {ss : List ByteArray} {t : ByteArray} (h1 : rnE F ss ((100000 : Nat) : Int) = 0) (h2 : rnE F (ss ++ [jS1 t, jS2]) ((100000 : Nat) : Int) = 0) (hj : ∀ s ∈ ss, jex s = false) :
    (rnC F ss ((100000 : Nat) : Int) ≠ 0 → rnC F (ss ++ [jS1 t, jS2]) ((100000 : Nat) : Int) = rnC F ss ((100000 : Nat) : Int)) ∧
    (rnC F ss ((100000 : Nat) : Int) = 0 → rnC F (ss ++ [jS1 t, jS2]) ((100000 : Nat) : Int) = 0 → rnS F (ss ++ [jS1 t, jS2]) ((100000 : Nat) : Int) = rnS F ss ((100000 : Nat) : Int) + 2 + 2 * (t.size / 16) ∧ rnL F (ss ++ [jS1 t, jS2]) ((100000 : Nat) : Int) = putF (rnL F ss ((100000 : Nat) : Int)) ⟨jPa, t, false⟩) := by
  obtain ⟨_, _, _, _, k1⟩ := rn_zero h1
  obtain ⟨_, _, _, _, k2⟩ := rn_zero h2
  obtain ⟨v1, v2, v3⟩ := rn_val h1
  obtain ⟨u1, u2, u3⟩ := rn_val h2
  obtain ⟨hz1, q1, hq1, hl1⟩ := chk_all k2 (s := jS1 t) (by simp)
  obtain ⟨_, q2, hq2, hl2⟩ := chk_all k2 (s := jS2) (by simp)
  obtain ⟨a1, a2, a3⟩ := lin1 hl1
  obtain ⟨b1, b2, b3⟩ := lin2 hl2
  have hts : t.size ≤ 100000 := by
    have e : (jS1 t).size = ([115, 101, 116, 32, 104, 32] ++ t.data.toList).length := List.size_toArray
    rw [e, List.length_append] at hz1
    have e2 : t.data.toList.length = t.size := Array.length_toList
    omega
  have hls : lnsF (ss ++ [jS1 t, jS2]).length (ss ++ [jS1 t, jS2]) = lnsF ss.length ss ++ [q1, q2] := by
    have e1 : lnsF (ss ++ [jS1 t, jS2]).length (ss ++ [jS1 t, jS2]) = lnsF (ss ++ [jS1 t, jS2]).length ss ++ lnsF (ss ++ [jS1 t, jS2]).length [jS1 t, jS2] := by unfold lnsF; rw [List.filterMap_append]
    rw [e1, lns_lines (n2 := ss.length) hj]
    congr 1
    generalize (ss ++ [jS1 t, jS2]).length = n at *
    unfold lnsF
    simp only [List.filterMap_cons, hl1, hl2, List.filterMap_nil]
  rw [hls] at u1 u2 u3
  have hjx := no_jex (n := ss.length) (ss := ss) (fun s hs => (chk_all k1 hs).1) hj
  have hst := run_stops F (lnsF ss.length ss) 100001 (mz 100000) [] (.inr (by show 100000 < 100001; decide))
  obtain ⟨p1, j', p2, p3⟩ := run_pre (F := F) (ext := [q1, q2]) (fun l hl => (hjx l hl).1) 3 100001 (mz 100000) [] (Nat.zero_le _) hst
  have e0 : runM F (lnsF ss.length ss) 100001 (mz 100000) [] = rnR F (lnsF ss.length ss) 100000 := rfl
  rw [e0] at hst p1 p3
  rw [rnR_rounds F _ 100000 (100001 + 3) (by omega)] at p3
  have hcx : (rnR F (lnsF ss.length ss) 100000).1.ended = true → (rnR F (lnsF ss.length ss) 100000).1.code ≠ 0 := run_cx (fun l hl => (hjx l hl).2) _ _ _ (fun e => by cases e)
  have hcd := rn_code (F := F) (lns_ex k1) 100000
  have hok : MOk (rnR F (lnsF ss.length ss) 100000).1 (rnR F (lnsF ss.length ss) 100000).2 := run_ok (fun l hl => ((lns_ok k1).2 l hl).2.1) (100000 + 1) (mz 100000) [] (mz_ok _)
  have hle : (rnR F (lnsF ss.length ss) 100000).1.fuel ≤ 100000 := run_fuel (F := F) (ls := lnsF ss.length ss) (100000 + 1) (mz 100000) []
  rw [v1, v2, v3, u1, u2, u3, p3]
  generalize rnR F (lnsF ss.length ss) 100000 = R at *
  by_cases hE : R.1.ended = true
  · rw [runM_stp F _ _ _ (by unfold stp; rw [hE]; rfl)]
    exact ⟨fun _ => rfl, fun h => absurd h (hcx hE)⟩
  · have hE : R.1.ended = false := by simpa using hE
    have hc0 := hcd.run hE
    have hn : R.1.next = (lnsF ss.length ss).length := by
      unfold stp at hst
      rw [hE] at hst
      have := of_decide_eq_true hst
      omega
    refine ⟨fun h => absurd hc0 h, fun _ hC => ?_⟩
    have h3 := run_two (F := F) (ls := lnsF ss.length ss) (l1 := q1) (l2 := q2) hok hE hc0 hn a1 a2 (by rw [a3]; exact hts) b1 b2 j' p2 hC
    rw [a3, b3] at h3
    refine ⟨?_, h3.1⟩
    have := h3.2
    omega
end Go.Proofs.YtapiedeekbfpnaaGreatDoor
