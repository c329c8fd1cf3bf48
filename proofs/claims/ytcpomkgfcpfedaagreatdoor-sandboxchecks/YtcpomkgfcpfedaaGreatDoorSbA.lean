/- Registers and numbers, as the program reads them. -/
import Derived.Test.YtcpomkgfcpfedaaGreatDoorSbP
import Derived.Laws.RangeAny
namespace Go.Proofs.YtcpomkgfcpfedaaGreatDoor
open Go.RowKit Go.Shelf

def regV (s : List UInt8) : Array Value := match regF s with | some v => #[.int .i64 (v : Int), .bool true] | none => #[.int .i64 0, .bool false]
def numV (s : List UInt8) : Array Value := match numF s with | some v => #[.int .i64 (v : Int), .bool true] | none => #[.int .i64 0, .bool false]

set_option maxHeartbeats 1000000 in
set_option maxRecDepth 100000 in
theorem register_any (s : ByteArray) (w : World) (hs : s.size ≤ 1000000) :
    Calls Tryz.prog 26 #[.string s] w fun e w' => e = .returned (.tuple (regV s.data.toList)) ∧ w' = w := by
  have hsz9 : (s.size : Int) ≤ 9223372036854775807 := by omega
  clear hs
  by_cases h1 : s.size = 1
  · obtain ⟨c, hc⟩ : ∃ c, s.data.toList = [c] := by
      have : s.data.toList.length = 1 := by rw [← h1]; rfl
      exact List.length_eq_one_iff.1 this
    obtain ⟨c0, hc0⟩ : ∃ c0 : Nat, c0 = c.toNat := ⟨_, rfl⟩
    have hlt : c0 < 256 := by rw [hc0]; exact c.toNat_lt
    have hg : s[0]'(by omega) = c := by
      have : s.data.toList[0]? = some c := by rw [hc]; rfl
      rw [List.getElem?_eq_getElem (by rw [hc]; simp)] at this
      exact Option.some.inj this
    have hsz : (s.size : Int) = 1 := by omega
    have hg' : (s[0]'(by omega)).toNat = c0 := by rw [hg, hc0]
    unfold regV regF
    rw [hc]
    simp only
    rw [← hc0]
    clear hg hc0 hc
    by_cases h2 : 97 ≤ c0
    · by_cases h3 : c0 < 105
      · rw [if_pos ⟨h2, h3⟩]
        have e1 : ¬ (c0 : Int) < 97 := by omega
        have e2 : ¬ (105 : Int) ≤ (c0 : Int) := by omega
        obtain ⟨v, hv⟩ : ∃ v : Nat, c0 - 97 = v := ⟨_, rfl⟩
        rw [hv]
        have e3 : IntKind.u8.wrap ((c0 : Int) - 97) = (v : Int) := by rw [IntKind.wrap_u8]; omega
        have e4 : IntKind.i64.wrap (v : Int) = (v : Int) := by rw [IntKind.wrap_i64]; omega
        clear hv
        go_enter Tryz.func26, Tryz.ntmps26
        go_wp2
        go_ret2
        exact ⟨rfl, rfl⟩
      · rw [if_neg (by omega)]
        have e1 : ¬ (c0 : Int) < 97 := by omega
        have e2 : (105 : Int) ≤ (c0 : Int) := by omega
        go_enter Tryz.func26, Tryz.ntmps26
        go_wp2
        go_ret2
        exact ⟨rfl, rfl⟩
    · rw [if_neg (by omega)]
      have e1 : (c0 : Int) < 97 := by omega
      go_enter Tryz.func26, Tryz.ntmps26
      go_wp2
      go_ret2
      exact ⟨rfl, rfl⟩
  · have hr : regV s.data.toList = #[.int .i64 0, .bool false] := by
      unfold regV regF
      cases h : s.data.toList with
      | nil => rfl
      | cons a l => cases l with
        | nil =>
          exfalso
          apply h1
          show s.data.size = 1
          rw [← Array.length_toList, h]
          rfl
        | cons b l => rfl
    rw [hr]
    have hsz : ¬ (s.size : Int) = 1 := by omega
    go_enter Tryz.func26, Tryz.ntmps26
    go_wp2
    go_ret2
    exact ⟨rfl, rfl⟩

theorem numV_no {s : List UInt8} (h : s.all digF = false) : numV s = #[.int .i64 0, .bool false] := by
  unfold numV numF
  rw [h]
  simp
theorem digF_iff (c : UInt8) : digF c = true ↔ 48 ≤ c.toNat ∧ c.toNat ≤ 57 := by unfold digF; simp

set_option maxHeartbeats 2000000 in
set_option maxRecDepth 100000 in
theorem numb_any (s : ByteArray) (w : World) (hs : s.size ≤ 1000000) :
    Calls Tryz.prog 29 #[.string s] w fun e w' => e = .returned (.tuple (numV s.data.toList)) ∧ Below w.heap.size w w' := by
  have hsl : s.size = s.data.toList.length := size_of rfl
  have hsz9 : (s.size : Int) ≤ 9223372036854775807 := by omega
  clear hs
  by_cases h0 : s.size = 0
  · have he : s = ⟨#[]⟩ := by
      apply ByteArray.ext
      exact Array.eq_empty_of_size_eq_zero h0
    subst he
    have hv : numV (⟨#[]⟩ : ByteArray).data.toList = #[.int .i64 0, .bool false] := rfl
    rw [hv]
    go_enter Tryz.func29, Tryz.ntmps29
    go_wp2
    go_ret2
    exact ⟨rfl, Below.refl _ _⟩
  have hne : s.toList.isEmpty = false := by
    rw [Lib.toList_data, List.isEmpty_eq_false_iff]
    intro e
    rw [e] at hsl
    exact h0 hsl
  by_cases h1 : 6 < s.size
  · have hv : numV s.data.toList = #[.int .i64 0, .bool false] := by
      unfold numV numF
      rw [if_pos (by omega)]
    rw [hv]
    have h1i : (6 : Int) < (s.size : Int) := by omega
    clear hv hsl
    go_enter Tryz.func29, Tryz.ntmps29
    go_wp2
    go_ret2
    exact ⟨rfl, Below.refl _ _⟩
  have h1i : ¬ (6 : Int) < (s.size : Int) := by omega
  have hz : 0 < s.size := by omega
  obtain ⟨c, hc⟩ : ∃ c, s[0]'(by omega) = c := ⟨_, rfl⟩
  have hhd : s.data.toList.head? = some c := by
    rw [List.head?_eq_getElem?, List.getElem?_eq_getElem (by omega)]
    exact congrArg some hc
  obtain ⟨c0, hc0⟩ : ∃ c0 : Nat, c0 = c.toNat := ⟨_, rfl⟩
  have hg' : (s[0]'(by omega)).toNat = c0 := by rw [hc, hc0]
  by_cases h2 : 1 < s.size ∧ c0 = 48
  · have hv : numV s.data.toList = #[.int .i64 0, .bool false] := by
      unfold numV numF
      rw [if_pos (.inr (.inr ⟨by omega, by rw [hhd]; exact congrArg some (UInt8.toNat_inj.1 (by rw [← hc0, h2.2]; rfl))⟩))]
    rw [hv]
    have h2i : (1 : Int) < (s.size : Int) := by omega
    have h3i : ((c0 : Int) == 48) = true := by simp; omega
    clear hc hc0 hhd hv hsl
    go_enter Tryz.func29, Tryz.ntmps29
    go_wp2
    go_ret2
    exact ⟨rfl, Below.refl _ _⟩
  have hnum : numF s.data.toList = if s.data.toList.all digF = true then some (valF 0 s.data.toList) else none := by
    unfold numF
    rw [if_neg]
    rintro (h | h | h)
    · omega
    · omega
    · refine h2 ⟨by omega, ?_⟩
      rw [hhd] at h
      rw [hc0, Option.some.inj h.2]
      rfl
  have HN : Hid (numF s.data.toList = if s.data.toList.all digF = true then some (valF 0 s.data.toList) else none) := hnum
  have hlead : ((1 : Int) < (s.size : Int)) = false ∨ (((1 : Int) < (s.size : Int)) = true ∧ ((c0 : Int) == 48) = false) := by
    by_cases h : 1 < s.size
    · exact .inr ⟨by simp; omega, by simp; omega⟩
    · exact .inl (by simp; omega)
  have HL : Hid (s.size = s.data.toList.length) := hsl
  have HG : Hid (∀ k (hk : k < s.size), s.data.toList[k]? = some (s[k]'hk)) := fun k hk => List.getElem?_eq_getElem (by omega)
  have H6 : Hid (s.size ≤ 6) := by show s.size ≤ 6; omega
  clear hsl hnum hhd hc hc0 h2 h1 h0
  rcases hlead with hl | ⟨hl, hl'⟩
  all_goals
    go_enter Tryz.func29, Tryz.ntmps29
    go_wp2
    go_loopg [4] s.size (fun g v wx => ∃ i : Nat, i + g = s.size ∧ v = .int .i64 (valF 0 (s.data.toList.take i) : Nat) ∧ wx = w.iter s i ∧ (s.data.toList.take i).all digF = true)
    case atStart => exact ⟨0, by omega, rfl, rfl, rfl⟩
    case round =>
      obtain ⟨i, hig, rfl, rfl, hall⟩ := hrel
      have HA : Hid ((s.data.toList.take i).all digF = true) := hall
      clear hall
      cases gk with
      | zero =>
        obtain rfl : i = s.size := by omega
        have hnx := fun ty => run_next_end (P := Tryz.prog) w s s.size ty (Nat.lt_irrefl _)
        have he : s.data.toList.take s.size = s.data.toList := by rw [HL.out]; exact List.take_length
        have HV : Hid (numV s.data.toList = #[.int .i64 (valF 0 (s.data.toList.take s.size) : Nat), .bool true]) := by
          show _ = _
          unfold numV
          have h1 := HA.out
          rw [he] at h1 ⊢
          rw [HN.out, if_pos h1]
        clear he
        generalize valF 0 (s.data.toList.take s.size) = vv at *
        go_wp2
        go_ret2
        exact ⟨by rw [HV.out]; rfl, (Below.refl _ w).alloc (Nat.le_refl _) _⟩
      | succ g =>
        have hi : i < s.size := by omega
        obtain ⟨x, hx⟩ : ∃ x : UInt8, s[i]'hi = x := ⟨_, rfl⟩
        have hxl : s.data.toList[i]? = some x := by rw [← hx]; exact HG.out i hi
        have htk : s.data.toList.take (i + 1) = s.data.toList.take i ++ [x] := by
          rw [List.take_add_one, hxl]
          rfl
        obtain ⟨c1, hc1⟩ : ∃ c1 : Nat, x.toNat = c1 := ⟨_, rfl⟩
        by_cases h128 : c1 < 128
        · have hnx := fun ty => run_next_ascii (P := Tryz.prog) w s i ty hi (by rw [hx, hc1]; exact h128)
          rw [hx, hc1] at hnx
          by_cases hd : digF x = true
          · have hd' := (digF_iff x).1 hd
            rw [hc1] at hd'
            have hvv : valF 0 (s.data.toList.take i) < 1000000 := by
              have h1 := valF_le _ 0 HA.out
              have h2 : (s.data.toList.take i).length ≤ 5 := by
                rw [List.length_take]
                have := H6.out
                omega
              have h3 : (10 : Nat) ^ (s.data.toList.take i).length ≤ 10 ^ 5 := Nat.pow_le_pow_right (by decide) h2
              have h4 : (10 : Nat) ^ 5 = 100000 := by decide
              omega
            have hst : valF 0 (s.data.toList.take (i + 1)) = 10 * valF 0 (s.data.toList.take i) + (c1 - 48) := by
              rw [htk]
              unfold valF
              rw [List.foldl_append, ← hc1]
              rfl
            have hal : (s.data.toList.take (i + 1)).all digF = true := by
              rw [htk, List.all_append, HA.out]
              simp [hd]
            have HE : Hid (valF 0 (s.data.toList.take (i + 1)) = 10 * valF 0 (s.data.toList.take i) + (c1 - 48) ∧ (s.data.toList.take (i + 1)).all digF = true) := ⟨hst, hal⟩
            clear hst hal htk hxl hx hd
            generalize valF 0 (s.data.toList.take i) = vv at *
            obtain ⟨dd, hdd⟩ : ∃ dd : Nat, c1 = dd + 48 := ⟨c1 - 48, by omega⟩
            obtain ⟨v1, hv1⟩ : ∃ v1 : Nat, v1 = 10 * vv := ⟨_, rfl⟩
            obtain ⟨v2, hv2⟩ : ∃ v2 : Nat, v2 = v1 + dd := ⟨_, rfl⟩
            have e1 : ¬ (c1 : Int) < 48 := by omega
            have e2 : ¬ (57 : Int) < (c1 : Int) := by omega
            have e3 : (10 : Int) * (vv : Int) = (v1 : Int) := by omega
            have e4 : IntKind.i64.wrap (v1 : Int) = (v1 : Int) := by rw [IntKind.wrap_i64]; omega
            have e5 : (c1 : Int) - 48 = (dd : Int) := by omega
            have e6 : IntKind.i32.wrap (dd : Int) = (dd : Int) := by rw [IntKind.wrap_i32]; omega
            have e7 : IntKind.i64.wrap (dd : Int) = (dd : Int) := by rw [IntKind.wrap_i64]; omega
            have e8 : (v1 : Int) + (dd : Int) = (v2 : Int) := by omega
            have e9 : IntKind.i64.wrap (v2 : Int) = (v2 : Int) := by rw [IntKind.wrap_i64]; omega
            have HV : Hid (v2 = 10 * vv + (c1 - 48)) := by show v2 = _; omega
            clear hdd hv1 hv2 hvv hd' hc1
            go_wp2
            go_roundg g
            case measure => omega
            case rel => exact ⟨i + 1, by omega, by rw [HE.out.1, ← HV.out], rfl, HE.out.2⟩
          · have hd' : c1 < 48 ∨ 57 < c1 := by
              have h3 : ¬ (48 ≤ x.toNat ∧ x.toNat ≤ 57) := fun h => hd ((digF_iff x).2 h)
              rw [hc1] at h3
              omega
            have HV : Hid (numV s.data.toList = #[.int .i64 0, .bool false]) := numV_no (List.all_eq_false.2 ⟨x, List.mem_of_getElem? hxl, hd⟩)
            clear htk hxl hx hd hc1
            rcases hd' with hd' | hd'
            · have e1 : (c1 : Int) < 48 := by omega
              go_wp2
              go_ret2
              exact ⟨by rw [HV.out]; rfl, (Below.refl _ w).alloc (Nat.le_refl _) _⟩
            · have e1 : ¬ (c1 : Int) < 48 := by omega
              have e2 : (57 : Int) < (c1 : Int) := by omega
              go_wp2
              go_ret2
              exact ⟨by rw [HV.out]; rfl, (Below.refl _ w).alloc (Nat.le_refl _) _⟩
        · have hnx := fun ty => run_next_any (P := Tryz.prog) w s i ty hi
          have hh := (decode_high s i hi (by rw [hx, hc1]; omega)).1
          have HV : Hid (numV s.data.toList = #[.int .i64 0, .bool false]) := by
            refine numV_no (List.all_eq_false.2 ⟨x, List.mem_of_getElem? hxl, fun hd => ?_⟩)
            have := (digF_iff x).1 hd
            omega
          obtain ⟨r, hr⟩ : ∃ r, (Utf8.decode s i).1 = r := ⟨_, rfl⟩
          obtain ⟨r2, hr2⟩ : ∃ r2, (Utf8.decode s i).2 = r2 := ⟨_, rfl⟩
          rw [hr, hr2] at hnx
          rw [hr] at hh
          clear htk hxl hx hc1 hr hr2
          have e1 : ¬ (r : Int) < 48 := by omega
          have e2 : (57 : Int) < (r : Int) := by omega
          go_wp2
          go_ret2
          exact ⟨by rw [HV.out]; rfl, (Below.refl _ w).alloc (Nat.le_refl _) _⟩
end Go.Proofs.YtcpomkgfcpfedaaGreatDoor
