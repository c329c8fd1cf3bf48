/- What the document's own PackNumber answers. -/
import Derived.Test.YtmjemnmcndajpaaDoorSame
import Derived.Deep.RegionWith
import Derived.Laws.BytesString
import Derived.Deep.RegionHeld3
namespace Go.Proofs.YtmjemnmcndajpaaDoor
open Go.RowKit Go.Shelf

theorem conv1 (g : Nat) (c : Int) (W : World) (h : W.cell? ⟨g, 0, none⟩ = some (.int .u8 c)) : (convert 74 9 (.slice (some ⟨g, 0, none⟩) 1 1)).run Tryd.prog W = .ok (.string ⟨#[UInt8.ofNat c.toNat]⟩) W := by
  rw [run_convert_bytes_string W 74 9 5 _ _ _ Tryd.underlying74 Tryd.underlying5 Tryd.underlying9]
  rw [run_bytesToString W ⟨g, 0, none⟩ 1 1 [c] (by simp [go_sem, loadCells, h])]
  rfl

set_option maxHeartbeats 1000000 in
theorem packn_small (n : Nat) (w : World) (h : n < 128) :
    Calls Tryd.prog 33 #[.int .i64 n] w fun e w' => e = .returned (.string ⟨(pk n).toArray⟩) ∧ Below w.heap.size w w' := by
  have hn : (n : Int) < 128 := by omega
  have HP : Hid _ := pk_small n h
  clear h
  go_enter Tryd.func33, Tryd.ntmps33
  have hcv : (convert 74 9 (.slice (some ⟨w.heap.size, 0, none⟩) 1 1)).run Tryd.prog (w.alloc (.cells #[.int .u8 n] 5)) = _ := conv1 w.heap.size n _ (by simp [go_sem])
  go_wp2
  go_ret
  exact ⟨by rw [HP.out]; rfl, (Below.refl _ _).alloc (Nat.le_refl _) _⟩

set_option maxHeartbeats 1000000 in
set_option maxRecDepth 100000 in
theorem packn_more (n : Nat) (w : World) (h : 128 ≤ n) (hn : n ≤ 9007199254740991) (ih : ∀ w, Calls Tryd.prog 33 #[.int .i64 (n / 128 : Nat)] w fun e w' => e = .returned (.string ⟨(pk (n / 128)).toArray⟩) ∧ Below w.heap.size w w') :
    Calls Tryd.prog 33 #[.int .i64 n] w fun e w' => e = .returned (.string ⟨(pk n).toArray⟩) ∧ Below w.heap.size w w' := by
  have hn1 : (128 : Int) ≤ n := by omega
  have hn2 : (n : Int) ≤ 9007199254740991 := by omega
  have HP : Hid _ := pk_more n h
  have HI : Hid (∀ w, Calls Tryd.prog 33 #[.int .i64 (n / 128 : Nat)] w fun e w' => e = .returned (.string ⟨(pk (n / 128)).toArray⟩) ∧ Below w.heap.size w w') := ih
  clear h hn ih
  go_enter Tryd.func33, Tryd.ntmps33
  have hcv : ∀ (g : Nat) (W : World), W.cell? ⟨g, 0, none⟩ = some (.int .u8 ((n : Int) % 128 + 128)) → (convert 74 9 (.slice (some ⟨g, 0, none⟩) 1 1)).run Tryd.prog W = .ok (.string ⟨#[UInt8.ofNat ((n : Int) % 128 + 128).toNat]⟩) W := fun g W h => conv1 g _ W h
  have hw0 : (n : Int).tmod 128 = (n : Int) % 128 := Int.tmod_eq_emod_of_nonneg (by omega)
  have hw1 : IntKind.i64.wrap ((n : Int) % 128 + 128) = (n : Int) % 128 + 128 := wraps_i64 _ (by omega) (by omega)
  have hw2 : IntKind.u8.wrap ((n : Int) % 128 + 128) = (n : Int) % 128 + 128 := wraps_u8 _ (by omega) (by omega)
  have hw3 : IntKind.i64.wrap ((n : Int) / 128) = ((n / 128 : Nat) : Int) := by rw [wraps_i64 _ (by omega) (by omega)]; omega
  have h8 := pk_len8 (n / 128) (by omega)
  have hadd : ∀ W : World, (Op.stringOp .add ⟨#[UInt8.ofNat ((n : Int) % 128 + 128).toNat]⟩ ⟨(pk (n / 128)).toArray⟩).run Tryd.prog W = .ok (.string ⟨(UInt8.ofNat ((n : Int) % 128 + 128).toNat :: pk (n / 128)).toArray⟩) W := fun W => by
    refine (run_string_add_sum (w := W) _ _ (by rw [show (⟨(pk (n / 128)).toArray⟩ : ByteArray).size = (pk (n / 128)).length from size_of rfl, show (⟨#[UInt8.ofNat ((n : Int) % 128 + 128).toNat]⟩ : ByteArray).size = 1 from rfl]; omega)).trans ?_
    rw [show (⟨#[UInt8.ofNat ((n : Int) % 128 + 128).toNat]⟩ : ByteArray) = ⟨[UInt8.ofNat ((n : Int) % 128 + 128).toNat].toArray⟩ from rfl, ByteArray.mk_append_mk]
    rfl
  have HP2 : Hid (pk n = UInt8.ofNat ((n : Int) % 128 + 128).toNat :: pk (n / 128)) := by
    show _ = _
    rw [HP.out, show ((n : Int) % 128 + 128).toNat = n % 128 + 128 from by omega]
  clear h8 HP
  go_wp2_with fail
  go_region_with (go_at_call 33; refine (HI.out _).mono ?_; rintro e w1 ⟨rfl, hb⟩; have hc1 := fun (h : w.heap.size < _) => hb.cell (p := ⟨w.heap.size, 0, none⟩) h)
  all_goals go_wp2
  all_goals go_ret
  all_goals refine ⟨by rw [HP2.out]; rfl, ?_⟩
  · exact ((Below.refl _ _).alloc (Nat.le_refl _) _).drew.trans (hb.mono (by simp))
  · exact ((Below.refl _ _).alloc (Nat.le_refl _) _).drew.trans (hb.mono (by simp))
  · exact ((Below.refl _ _).drew.trans hb).alloc hb.size _

theorem packn_any : ∀ (f n : Nat) (w : World), n ≤ f → n ≤ 9007199254740991 →
    Calls Tryd.prog 33 #[.int .i64 n] w fun e w' => e = .returned (.string ⟨(pk n).toArray⟩) ∧ Below w.heap.size w w' := by
  intro f
  induction f with
  | zero => intro n w h _; exact packn_small n w (by omega)
  | succ f ih =>
    intro n w h hn
    by_cases hs : n < 128
    · exact packn_small n w hs
    · exact packn_more n w (by omega) hn (fun w => ih (n / 128) w (by omega) (by omega))

theorem isNumber_any (n : Int) (w : World) : Calls Tryd.prog 30 #[.int .i64 n] w fun e w' => e = .returned (.bool (decide (0 ≤ n) && decide (n ≤ 9007199254740991))) ∧ w' = w := by
  by_cases h : 0 ≤ n
  · go_enter Tryd.func30, Tryd.ntmps30
    go_wp2
    go_ret
    exact ⟨by simp [h], rfl⟩
  · go_enter Tryd.func30, Tryd.ntmps30
    go_wp2
    go_ret
    exact ⟨by simp [Int.not_le.2 h], rfl⟩

set_option maxHeartbeats 1000000 in
theorem textIs_ok (s : ByteArray) (w : World) :
    Calls Tryd.prog 13 #[.string s, .int .i64 0, .int .i64 0, .string s] w fun e w' => e = .returned (.bool true) ∧ w' = w := by
  go_enter Tryd.func13, Tryd.ntmps13
  go_wp2
  go_ret
  exact ⟨by simp, rfl⟩
set_option maxHeartbeats 1000000 in
theorem textIs_no (c : Int) (s : ByteArray) (w : World) (hc : (c != 0) = true) :
    Calls Tryd.prog 13 #[.string ⟨#[]⟩, .int .i64 c, .int .i64 c, .string s] w fun e w' => e = .returned (.bool true) ∧ w' = w := by
  go_enter Tryd.func13, Tryd.ntmps13
  go_wp2
  go_ret
  exact ⟨by simp, rfl⟩
end Go.Proofs.YtmjemnmcndajpaaDoor
