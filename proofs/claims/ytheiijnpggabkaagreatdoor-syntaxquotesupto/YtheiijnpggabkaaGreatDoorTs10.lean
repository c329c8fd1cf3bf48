/- The document's QuoteText. -/
import Derived.Test.YtheiijnpggabkaaGreatDoorTs9
namespace Go.Proofs.YtheiijnpggabkaaGreatDoor
open Go.RowKit Go.Joins

set_option maxHeartbeats 4000000 in
set_option maxRecDepth 100000 in
theorem RQuote_any (s : ByteArray) (w : World) (hs : 2 * s.size + 2 ≤ 1099511627776) :
    Calls Tryz.prog 7 #[.string s] w fun e w' => e = .returned (.string ⟨(qtL s.data.toList).toArray⟩) ∧ Below w.heap.size w w' := by
  obtain ⟨i0, hi, hz0, hz1, hz2⟩ := info_parts infB
  have hsz : (s.size : Int) ≤ 1099511627776 := by omega
  obtain ⟨W, hW⟩ : ∃ W, W = w.alloc (.cells #[.int .u8 34] 5) := ⟨_, rfl⟩
  have hWb : Below w.heap.size w W := by rw [hW]; exact (Below.refl _ w).alloc (Nat.le_refl _) _
  have hWc : W.heap[w.heap.size]? = some (.cells #[.int .u8 34] 5 (0, 0)) := by rw [hW]; exact heap_alloc_new w _
  have HI : Hid (W.ownsRow w.heap.size 5 1 (.slice (some ⟨w.heap.size, 0, none⟩) 1 1) (34 :: (s.data.toList.take 0).flatMap qt1).length (Lib.byteCells (34 :: (s.data.toList.take 0).flatMap qt1)) ∧ Below w.heap.size w W) := ⟨⟨rfl, .inr ⟨w.heap.size, 1, _, rfl, Nat.le_refl _, hWc, Nat.le_refl _, by unfold maxLen; omega, rfl, rfl⟩⟩, hWb⟩
  have HQ : Hid (∀ k, ((s.data.toList.take k).flatMap qt1).length ≤ 2 * k) := fun k => by
    have h1 := qt_len (s.data.toList.take k)
    have h2 : (s.data.toList.take k).length ≤ k := by simp; omega
    omega
  clear hWb hWc
  subst hW
  go_enter Tryz.func7, Tryz.ntmps7
  go_wp2
  go_loopw [3, 4] (fun v i wr => ∃ k : Nat, k ≤ s.size ∧ i = .int .i64 (k : Int) ∧ Hid (wr.ownsRow w.heap.size 5 1 v (34 :: (s.data.toList.take k).flatMap qt1).length (Lib.byteCells (34 :: (s.data.toList.take k).flatMap qt1)) ∧ Below w.heap.size w wr)) (fun _ i _ => s.size - (intOf i).toNat)
  case atStart => exact ⟨0, Nat.zero_le _, rfl, HI⟩
  case round =>
    clear HI
    obtain ⟨k, hk, rfl, HI⟩ := hrel
    have hq := HQ.out k
    have hll : (34 :: (s.data.toList.take k).flatMap qt1).length ≤ 2 * k + 1 := by simp only [List.length_cons]; omega
    by_cases hlt : k < s.size
    · have hki : (k : Int) < (s.size : Int) := by omega
      have HGo : Hid (∀ us v' (w4 : World), Lib.byteCells (qt1 s[k]) = us → w4.ownsRow w.heap.size 5 1 v' ((34 :: (s.data.toList.take k).flatMap qt1).length + us.length) (Lib.byteCells (34 :: (s.data.toList.take k).flatMap qt1) ++ us) → w4.ownsRow w.heap.size 5 1 v' (34 :: (s.data.toList.take (k + 1)).flatMap qt1).length (Lib.byteCells (34 :: (s.data.toList.take (k + 1)).flatMap qt1))) := fun us v' w4 hu h4 => by
        have e1 : Lib.byteCells (34 :: (s.data.toList.take (k + 1)).flatMap qt1) = Lib.byteCells (34 :: (s.data.toList.take k).flatMap qt1) ++ us := by
          rw [qt_take hlt, ← hu]
          simp [Lib.byteCells]
        have e2 : (34 :: (s.data.toList.take (k + 1)).flatMap qt1).length = (34 :: (s.data.toList.take k).flatMap qt1).length + us.length := by
          rw [qt_take hlt, ← hu, Lib.byteCells_length]
          simp
          omega
        rw [e1, e2]
        exact h4
      generalize hL : 34 :: (s.data.toList.take k).flatMap qt1 = l1 at *
      clear hL hq
      by_cases h10 : s[k].toNat = 10
      · have h10i : (s[k].toNat : Int) = 10 := by omega
        have HR : Hid (Lib.byteCells (qt1 s[k]) = [.int .u8 92, .int .u8 110]) := by
          show _ = _
          unfold qt1; rw [if_pos h10]; rfl
        clear h10
        go_wp2_with (at_builtin; refine wpList_append_own _ rfl _ _ 44 rfl w.heap.size 5 i0 (.int .u8 0) 1 1 Tryz.underlying44 hi hz0 hz1 hz2 rfl (by decide) _ _ _ rfl (HI.out.1.alloc _) ⟨_, 0, none⟩ 2 2 [.int .u8 92, .int .u8 110] rfl rfl ?c1 ?c2 ?c3 ?c4 ?c5 ?_)
        case c1 =>
          intro j u hj
          match j, hj with
          | 0, hj => simp at hj; subst hj; simp [Addr.add]
          | 1, hj => simp at hj; subst hj; simp [Addr.add]
        case c2 => intro u hu; simp at hu; first | (subst hu; rfl) | (rcases hu with rfl | rfl <;> rfl)
        case c3 => unfold maxLen; omega
        case c4 => omega
        case c5 => have := HI.out.2.size; simp; omega
        intro v' w4 hown4 hg4 _
        have HE : Hid _ := And.intro (HGo.out _ v' w4 HR.out hown4) ((HI.out.2.alloc HI.out.2.size _).grown hg4 (by have := HI.out.2.size; simp; omega) (fun j hj => (HI.out.1.lt j hj).1))
        clear hown4 hg4 HR
        go_wp2
        exact ⟨⟨k + 1, by omega, by go_num, HE⟩, by simp [intOf]; omega⟩
      · have h10i : ¬ (s[k].toNat : Int) = 10 := by omega
        by_cases h9 : s[k].toNat = 9
        · have h9i : (s[k].toNat : Int) = 9 := by omega
          have HR : Hid (Lib.byteCells (qt1 s[k]) = [.int .u8 92, .int .u8 116]) := by
            show _ = _
            unfold qt1; rw [if_neg h10, if_pos h9]; rfl
          clear h10 h9
          go_wp2_with (at_builtin; refine wpList_append_own _ rfl _ _ 44 rfl w.heap.size 5 i0 (.int .u8 0) 1 1 Tryz.underlying44 hi hz0 hz1 hz2 rfl (by decide) _ _ _ rfl (HI.out.1.alloc _) ⟨_, 0, none⟩ 2 2 [.int .u8 92, .int .u8 116] rfl rfl ?c1 ?c2 ?c3 ?c4 ?c5 ?_)
          case c1 =>
            intro j u hj
            match j, hj with
            | 0, hj => simp at hj; subst hj; simp [Addr.add]
            | 1, hj => simp at hj; subst hj; simp [Addr.add]
          case c2 => intro u hu; simp at hu; first | (subst hu; rfl) | (rcases hu with rfl | rfl <;> rfl)
          case c3 => unfold maxLen; omega
          case c4 => omega
          case c5 => have := HI.out.2.size; simp; omega
          intro v' w4 hown4 hg4 _
          have HE : Hid _ := And.intro (HGo.out _ v' w4 HR.out hown4) ((HI.out.2.alloc HI.out.2.size _).grown hg4 (by have := HI.out.2.size; simp; omega) (fun j hj => (HI.out.1.lt j hj).1))
          clear hown4 hg4 HR
          go_wp2
          exact ⟨⟨k + 1, by omega, by go_num, HE⟩, by simp [intOf]; omega⟩
        · have h9i : ¬ (s[k].toNat : Int) = 9 := by omega
          by_cases h92 : s[k].toNat = 92
          · have h92i : (s[k].toNat : Int) = 92 := by omega
            have HR : Hid (Lib.byteCells (qt1 s[k]) = [.int .u8 92, .int .u8 92]) := by
              show _ = _
              unfold qt1; rw [if_neg h10, if_neg h9, if_pos (.inl h92)]; simp [Lib.byteCells, h92]
            clear h10 h9 h92
            go_wp2_with (at_builtin; refine wpList_append_own _ rfl _ _ 44 rfl w.heap.size 5 i0 (.int .u8 0) 1 1 Tryz.underlying44 hi hz0 hz1 hz2 rfl (by decide) _ _ _ rfl (HI.out.1.alloc _) ⟨_, 0, none⟩ 2 2 [.int .u8 92, .int .u8 92] rfl rfl ?c1 ?c2 ?c3 ?c4 ?c5 ?_)
            case c1 =>
              intro j u hj
              match j, hj with
              | 0, hj => simp at hj; subst hj; simp [Addr.add]
              | 1, hj => simp at hj; subst hj; simp [Addr.add]
            case c2 => intro u hu; simp at hu; first | (subst hu; rfl) | (rcases hu with rfl | rfl <;> rfl)
            case c3 => unfold maxLen; omega
            case c4 => omega
            case c5 => have := HI.out.2.size; simp; omega
            intro v' w4 hown4 hg4 _
            have HE : Hid _ := And.intro (HGo.out _ v' w4 HR.out hown4) ((HI.out.2.alloc HI.out.2.size _).grown hg4 (by have := HI.out.2.size; simp; omega) (fun j hj => (HI.out.1.lt j hj).1))
            clear hown4 hg4 HR
            go_wp2
            exact ⟨⟨k + 1, by omega, by go_num, HE⟩, by simp [intOf]; omega⟩
          · have h92i : ¬ (s[k].toNat : Int) = 92 := by omega
            by_cases h34 : s[k].toNat = 34
            · have h34i : (s[k].toNat : Int) = 34 := by omega
              have HR : Hid (Lib.byteCells (qt1 s[k]) = [.int .u8 92, .int .u8 34]) := by
                show _ = _
                unfold qt1; rw [if_neg h10, if_neg h9, if_pos (.inr h34)]; simp [Lib.byteCells, h34]
              clear h10 h9 h92 h34
              go_wp2_with (at_builtin; refine wpList_append_own _ rfl _ _ 44 rfl w.heap.size 5 i0 (.int .u8 0) 1 1 Tryz.underlying44 hi hz0 hz1 hz2 rfl (by decide) _ _ _ rfl (HI.out.1.alloc _) ⟨_, 0, none⟩ 2 2 [.int .u8 92, .int .u8 34] rfl rfl ?c1 ?c2 ?c3 ?c4 ?c5 ?_)
              case c1 =>
                intro j u hj
                match j, hj with
                | 0, hj => simp at hj; subst hj; simp [Addr.add]
                | 1, hj => simp at hj; subst hj; simp [Addr.add]
              case c2 => intro u hu; simp at hu; first | (subst hu; rfl) | (rcases hu with rfl | rfl <;> rfl)
              case c3 => unfold maxLen; omega
              case c4 => omega
              case c5 => have := HI.out.2.size; simp; omega
              intro v' w4 hown4 hg4 _
              have HE : Hid _ := And.intro (HGo.out _ v' w4 HR.out hown4) ((HI.out.2.alloc HI.out.2.size _).grown hg4 (by have := HI.out.2.size; simp; omega) (fun j hj => (HI.out.1.lt j hj).1))
              clear hown4 hg4 HR
              go_wp2
              exact ⟨⟨k + 1, by omega, by go_num, HE⟩, by simp [intOf]; omega⟩
            · have h34i : ¬ (s[k].toNat : Int) = 34 := by omega
              have HR : Hid (Lib.byteCells (qt1 s[k]) = [.int .u8 (s[k].toNat : Int)]) := by
                show _ = _
                unfold qt1; rw [if_neg h10, if_neg h9, if_neg (by omega)]; rfl
              clear h10 h9 h92 h34
              go_wp2_with (at_builtin; refine wpList_append_own _ rfl _ _ 44 rfl w.heap.size 5 i0 (.int .u8 0) 1 1 Tryz.underlying44 hi hz0 hz1 hz2 rfl (by decide) _ _ _ rfl (HI.out.1.alloc _) ⟨_, 0, none⟩ 1 1 [.int .u8 (s[k].toNat : Int)] rfl rfl ?c1 ?c2 ?c3 ?c4 ?c5 ?_)
              case c1 =>
                intro j u hj
                match j, hj with
                | 0, hj => simp at hj; subst hj; simp [Addr.add]
              case c2 => intro u hu; simp at hu; first | (subst hu; rfl) | (rcases hu with rfl | rfl <;> rfl)
              case c3 => unfold maxLen; omega
              case c4 => omega
              case c5 => have := HI.out.2.size; simp; omega
              intro v' w4 hown4 hg4 _
              have HE : Hid _ := And.intro (HGo.out _ v' w4 HR.out hown4) ((HI.out.2.alloc HI.out.2.size _).grown hg4 (by have := HI.out.2.size; simp; omega) (fun j hj => (HI.out.1.lt j hj).1))
              clear hown4 hg4 HR
              go_wp2
              exact ⟨⟨k + 1, by omega, by go_num, HE⟩, by simp [intOf]; omega⟩
    · obtain rfl : k = s.size := by omega
      have hki : ¬ (s.size : Int) < (s.size : Int) := by omega
      have HLq : Hid (34 :: (s.data.toList.take s.size).flatMap qt1 ++ [34] = qtL s.data.toList) := by
        show _ = _
        have : s.data.toList.take s.size = s.data.toList := List.take_of_length_le (by simp)
        rw [this]
        simp [qtL]
      generalize hL : 34 :: (s.data.toList.take s.size).flatMap qt1 = l1 at *
      clear hL hq
      go_wp2_with (at_builtin; refine wpList_append_own _ rfl _ _ 44 rfl w.heap.size 5 i0 (.int .u8 0) 1 1 Tryz.underlying44 hi hz0 hz1 hz2 rfl (by decide) _ _ _ rfl (HI.out.1.alloc _) ⟨_, 0, none⟩ 1 1 [.int .u8 34] rfl rfl ?c1 ?c2 ?c3 ?c4 ?c5 ?_)
      case c2 => first | rfl | (intro u hu; simp at hu; subst hu; rfl)
      case c3 => unfold maxLen; omega
      case c4 => omega
      case c5 => have := HI.out.2.size; simp; omega
      intro v' w4 hown4 hg4 _
      have HB4 : Hid (Below w.heap.size w w4) := (HI.out.2.alloc HI.out.2.size _).grown hg4 (by have := HI.out.2.size; simp; omega) (fun j hj => (HI.out.1.lt j hj).1)
      have ho : w4.ownsRow w.heap.size 5 1 v' (qtL s.data.toList).length (Lib.byteCells (qtL s.data.toList)) := by
        rw [← HLq.out]
        have e1 : Lib.byteCells (l1 ++ [34]) = Lib.byteCells l1 ++ [.int .u8 34] := by simp [Lib.byteCells]
        rw [e1, List.length_append]
        exact hown4
      have hne : (qtL s.data.toList).length ≠ 0 := by simp [qtL]
      clear hown4 hg4 HI HLq hll HQ
      obtain ⟨l2, hl2⟩ : ∃ l2, l2 = qtL s.data.toList := ⟨_, rfl⟩
      rw [← hl2] at ho hne
      have HL2 : Hid (l2 = qtL s.data.toList) := hl2
      clear hl2
      obtain ⟨ao, m, cap, rfl, hcv⟩ : ∃ ao m cap, v' = .slice ao m cap ∧ (convert 44 9 (.slice ao m cap)).run Tryz.prog w4 = .ok (.string ⟨l2.toArray⟩) w4 := by
        have hc := fun (g : Nat) (hg : v'.ownBlock = some g) => ho.cells hg
        rcases ho.2 with ⟨_, h⟩ | ⟨g, cap, cur, hv, _⟩
        · exact absurd h hne
        · refine ⟨_, _, _, hv, ?_⟩
          exact run_convert_bytes_back w4 44 9 5 ⟨g, 0, none⟩ cap l2 Tryz.underlying44 Tryz.underlying5 Tryz.underlying9 (fun j hj => hc g (by rw [hv]; rfl) j _ (by simp [Lib.byteCells, hj]))
      clear ho hne
      go_wp2
      go_ret
      exact ⟨by rw [← HL2.out]; rfl, HB4.out⟩
end Go.Proofs.YtheiijnpggabkaaGreatDoor
