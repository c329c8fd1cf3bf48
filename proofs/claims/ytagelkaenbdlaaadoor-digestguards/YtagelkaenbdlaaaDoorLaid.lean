/- The digest's laid numbers, and what it sums to of one text. -/
import Derived.Test.YtagelkaenbdlaaaDoorSum
import Derived.Test.YtagelkaenbdlaaaDoorRows
namespace Go.Proofs.YtagelkaenbdlaaaDoor
open Go.RowKit

def litInts : DataW Unit → List Int
  | .agg l => l.map fun d => match d with | .lit (.int _ n) => n | _ => 0
  | _ => []
def sqL : List Int := litInts Rows.laid_foundry_digest_squareRoots
def cuL : List Int := litInts Rows.laid_foundry_digest_cubeRoots
theorem sqL_eq : (Rows.laid_foundry_digest_squareRoots : DataW Unit) = .agg (sqL.map fun n => .lit (.int .u32 n)) := by kernel_rfl
theorem cuL_eq : (Rows.laid_foundry_digest_cubeRoots : DataW Unit) = .agg (cuL.map fun n => .lit (.int .u32 n)) := by kernel_rfl
theorem sqL_len : sqL.length = 8 := by kernel_rfl
theorem cuL_len : cuL.length = 64 := by kernel_rfl
def sq8 : S8 := ⟨sqL.getD 0 0, sqL.getD 1 0, sqL.getD 2 0, sqL.getD 3 0, sqL.getD 4 0, sqL.getD 5 0, sqL.getD 6 0, sqL.getD 7 0⟩
theorem sq8_l : sq8.l = sqL := by kernel_rfl

/-- The block of "abc", its words. -/
def abcB : ByteArray := ⟨#[97, 98, 99, 128, 0, 0, 0, 0, 0, 0, 0, 0, 0, 0, 0, 0, 0, 0, 0, 0, 0, 0, 0, 0, 0, 0, 0, 0, 0, 0, 0, 0, 0, 0, 0, 0, 0, 0, 0, 0, 0, 0, 0, 0, 0, 0, 0, 0, 0, 0, 0, 0, 0, 0, 0, 0, 0, 0, 0, 0, 0, 0, 0, 24]⟩
def abcW : List Int := [1633837952, 0, 0, 0, 0, 0, 0, 0, 0, 0, 0, 0, 0, 0, 0, 24, 1633837952, 983040, 2108187653, 1610613702, 1050508152, 25426944, 316456923, 3806512014, 3357629466, 3073800610, 3854317833, 845560923, 2636160359, 3968280267, 1881225380, 3552024379, 2482346367, 996719219, 2952069057, 4043988066, 176896406, 1924104970, 2483675966, 610538786, 2672279444, 4037431130, 1042573945, 657669027, 206005234, 2215296807, 2049510749, 106709978, 4215179723, 3430291419, 3118885940, 2845390439, 2226839261, 3256115900, 344409900, 2987358873, 4015503821, 3957764664, 2682456414, 2025622859, 2755645205, 1720397816, 4004225740, 313650667]
theorem abcW_len : abcW.length = 64 := by kernel_rfl
theorem abcW_ok : ((List.range 64).all fun i => wnext abcB (abcW.take i) i == abcW.getD i 0) = true := by kernel_rfl
theorem ws_of (s : ByteArray) (L : List Int) (n : Nat) (hn : n ≤ L.length) (h : ∀ i, i < n → wnext s (L.take i) i = L.getD i 0) : ws s n = L.take n := by
  induction n with
  | zero => rfl
  | succ n ih =>
    show ws s n ++ [wnext s (ws s n) n] = _
    rw [ih (by omega) fun i hi => h i (by omega), h n (by omega), List.take_add_one, List.getD_eq_getElem?_getD, List.getElem?_eq_getElem (by omega)]
    rfl
theorem abc_ws : ws abcB 64 = abcW := by
  have h := ws_of abcB abcW 64 (by rw [abcW_len]; decide) fun i hi => by simpa using List.all_eq_true.1 abcW_ok i (List.mem_range.2 hi)
  rw [h, List.take_of_length_le (by rw [abcW_len]; decide)]

/-- A number is reckoned before it is handed on. -/
def force {α : Type} (n : Nat) (k : Nat → α) : α := match n with | 0 => k 0 | m + 1 => k (m + 1)
theorem force_eq {α : Type} (n : Nat) (k : Nat → α) : force n k = k n := by cases n <;> rfl
def forceI {α : Type} (x : Int) (k : Int → α) : α := match x with | .ofNat n => force n fun m => k (.ofNat m) | .negSucc n => k (.negSucc n)
theorem forceI_eq {α : Type} (x : Int) (k : Int → α) : forceI x k = k x := by
  cases x with
  | ofNat n =>
    show force n (fun m => k (.ofNat m)) = _
    rw [force_eq]
  | negSucc n => rfl
def goF : List (Int × Int) → S8 → S8
  | [], s => s
  | p :: r, s => forceI (s.step p.1 p.2).a fun a => forceI (s.step p.1 p.2).e fun e => goF r ⟨a, s.a, s.b, s.c, e, s.e, s.f, s.g⟩
theorem goF_eq (l : List (Int × Int)) (s : S8) : goF l s = l.foldl (fun s p => s.step p.1 p.2) s := by
  induction l generalizing s with
  | nil => rfl
  | cons p r ih =>
    rw [goF, forceI_eq, forceI_eq, ih, List.foldl_cons]
    rfl
theorem rounds8_fold (wl ks : List Int) (s : S8) (n : Nat) (h1 : n ≤ wl.length) (h2 : n ≤ ks.length) : rounds8 wl ks n s = ((ks.zip wl).take n).foldl (fun s p => s.step p.1 p.2) s := by
  induction n with
  | zero => rfl
  | succ n ih =>
    have h3 : n < (ks.zip wl).length := by rw [List.length_zip]; omega
    rw [rounds8, ih (by omega) (by omega), List.take_add_one, List.foldl_append, List.getElem?_eq_getElem h3]
    simp [List.getElem_zip, List.getD_eq_getElem?_getD, List.getElem?_eq_getElem (show n < wl.length by omega), List.getElem?_eq_getElem (show n < ks.length by omega)]
def abcS : S8 := goF (cuL.zip abcW) sq8
theorem abc_rounds : rounds8 abcW cuL 64 sq8 = abcS := by
  rw [rounds8_fold _ _ _ _ (by rw [abcW_len]; decide) (by rw [cuL_len]; decide), List.take_of_length_le (by rw [List.length_zip, abcW_len, cuL_len]; decide), ← goF_eq]
  rfl
def abcH : S8 := ⟨3128432319, 2399260650, 1094795486, 1571693091, 2953011619, 2518121116, 3021012833, 4060091821⟩
theorem abc_mix : mixS sq8 abcB cuL = abcH := by
  unfold mixS
  rw [abc_ws, abc_rounds]
  kernel_rfl
theorem abc_sum : sumB ⟨#[97, 98, 99]⟩ sq8 cuL = ⟨#[98, 97, 55, 56, 49, 54, 98, 102, 56, 102, 48, 49, 99, 102, 101, 97, 52, 49, 52, 49, 52, 48, 100, 101, 53, 100, 97, 101, 50, 50, 50, 51, 98, 48, 48, 51, 54, 49, 97, 51, 57, 54, 49, 55, 55, 97, 57, 99, 98, 52, 49, 48, 102, 102, 54, 49, 102, 50, 48, 48, 49, 53, 97, 100]⟩ := by
  have h1 : (tailOf ⟨#[97, 98, 99]⟩).extract (64 * 0) (64 * 0 + 64) = abcB := by kernel_rfl
  have h2 : (tailOf ⟨#[97, 98, 99]⟩).size / 64 = 1 := by kernel_rfl
  have h3 : (⟨#[97, 98, 99]⟩ : ByteArray).size / 64 = 0 := rfl
  unfold sumB sumS
  rw [h2, h3]
  show ByteArray.mk (dgs (mixS (blocks ⟨#[97, 98, 99]⟩ cuL sq8 0) ((tailOf ⟨#[97, 98, 99]⟩).extract (64 * 0) (64 * 0 + 64)) cuL).l).toArray = _
  rw [h1]
  show ByteArray.mk (dgs (mixS sq8 abcB cuL).l).toArray = _
  rw [abc_mix]
  kernel_rfl
end Go.Proofs.YtagelkaenbdlaaaDoor
