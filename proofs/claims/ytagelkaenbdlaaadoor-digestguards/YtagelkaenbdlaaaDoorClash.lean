/- The document's Clash: where it says no, no two of the texts have one digest. -/
import Derived.Test.YtagelkaenbdlaaaDoorGdH
namespace Go.Proofs.YtagelkaenbdlaaaDoor
open Go.RowKit

theorem own_grown {w w' : World} {base : Nat} {e : TypeId} {size : Nat} {v : Value} {n : Nat} {xs : List Value} {row : Option Nat} (h : w.ownsRow base e size v n xs) (hg : w.grownBy w' row) (hne : ∀ k, v.ownBlock = some k → row ≠ some k) : w'.ownsRow base e size v n xs := by
  refine ⟨h.1, ?_⟩
  rcases h.2 with hn | ⟨g, cap, cur, rfl, hb, hgg, rest⟩
  · exact .inl hn
  · exact .inr ⟨g, cap, cur, rfl, hb, (hg.block g (Array.getElem?_eq_some_iff.1 hgg).1 (fun e => hne g rfl e.symm)).trans hgg, rest⟩
def InjL (L : List ByteArray) : Prop := ∀ x y, x ∈ L → y ∈ L → sm x = sm y → x = y
theorem inj_snoc {T : List ByteArray} {x : ByteArray} (h : InjL T) (hx : sm x ∉ T.map sm) : InjL (T ++ [x]) := by
  intro a b ha hb he
  rcases List.mem_append.1 ha with h1 | h1
  · rcases List.mem_append.1 hb with h2 | h2
    · exact h a b h1 h2 he
    · simp at h2; subst h2; exact absurd (List.mem_map.2 ⟨a, h1, he⟩) hx
  · rcases List.mem_append.1 hb with h2 | h2
    · simp at h1; subst h1; exact absurd (List.mem_map.2 ⟨b, h2, he.symm⟩) hx
    · simp at h1 h2; rw [h1, h2]
/-- The texts met so far, and their digests. -/
structure ClI (w wr : World) (tv dv : Value) (T seen : List ByteArray) : Prop where
  ot : wr.ownsRow w.heap.size 9 1 tv T.length (scs T)
  od : wr.ownsRow w.heap.size 9 1 dv T.length (scs (T.map sm))
  ne : ∀ a, tv.ownBlock = some a → dv.ownBlock ≠ some a
  bl : Below w.heap.size w wr
  inj : InjL T
  all : ∀ x ∈ seen, x ∈ T
  le : T.length ≤ seen.length
theorem tx_own' {w : World} {B : Nat} {v : Value} {xs : List ByteArray} {n : Nat} (hx : xs.length ≤ 4611686018427387904) (hn : xs.length = n) (h : w.ownsRow B 9 1 v n (scs xs)) : Tx w v xs := by
  subst hn
  exact tx_own hx h

set_option maxHeartbeats 8000000 in
set_option maxRecDepth 100000 in
theorem Clash_any (gl ol cap : Nat) (ls : List (List ByteArray)) (w : World) (hl : ls.length ≤ 1000) (htot : ls.flatten.length ≤ 1000000) (hsz : ∀ l ∈ ls, ∀ s ∈ l, s.size ≤ 140737488351300)
    (hcell : ∀ j (hj : j < ls.length), ∃ u, w.cell? ⟨gl, ol + j, none⟩ = some u ∧ Tx w u ls[j]) :
    Calls Tryd.prog 23 #[.slice (some ⟨gl, ol, none⟩) ls.length cap] w fun e w' => ∃ b, e = .returned (.bool b) ∧ (b = false → InjL ls.flatten) ∧ Below w.heap.size w w' := by
  obtain ⟨i0, hi0, hz0, hz1, hz2⟩ := info_p infS
  have HC : Hid (∀ j (hj : j < ls.length), ∃ u, w.cell? ⟨gl, ol + j, none⟩ = some u ∧ Tx w u ls[j]) := hcell
  have HZ : Hid (∀ l ∈ ls, ∀ s ∈ l, s.size ≤ 140737488351300) := hsz
  have HT : Hid (ls.flatten.length ≤ 1000000) := htot
  have hli : (ls.length : Int) ≤ 1000 := by omega
  clear hcell hsz htot
  go_enter Tryd.func23, Tryd.ntmps23
  go_wp2
  go_loopw [3, 4, 5] (fun tv dv i wr => ∃ (j : Nat) (T : List ByteArray), j ≤ ls.length ∧ i = .int .i64 j ∧ Hid (ClI w wr tv dv T (ls.take j).flatten)) (fun _ _ i _ => ls.length - (intOf i).toNat)
  case atStart => exact ⟨0, [], by omega, rfl, ⟨World.ownsRow_nil _ _ _ _, World.ownsRow_nil _ _ _ _, fun a ha => (by simp [Value.ownBlock] at ha), Below.refl _ _, fun x y hx => (by cases hx), fun x hx => (by simp at hx), (by simp)⟩⟩
  case round =>
    obtain ⟨j, T, hj, rfl, HI⟩ := hrel
    by_cases hlt : j < ls.length
    · have hji : (j : Int) < (ls.length : Int) := by omega
      obtain ⟨u, hcu, htu⟩ := HC.out j hlt
      have hglt : gl < w.heap.size := World.block_lt_of_cell? w ⟨gl, ol + j, none⟩ hcu
      have HU : Hid (∀ Y, Below w.heap.size w Y → Y.cell? ⟨gl, ol + j, none⟩ = some u ∧ Tx Y u ls[j]) := fun Y hY => ⟨(hY.cell (p := ⟨gl, ol + j, none⟩) hglt).trans hcu, htu.up hY⟩
      have hul : ls[j].length ≤ 4611686018427387904 := htu.1
      have hui : (ls[j].length : Int) ≤ 4611686018427387904 := by omega
      have HTX : Hid (Tx w u ls[j]) := htu
      obtain ⟨ua, ucap, hu⟩ := htu.shape
      have HFL : Hid ((ls.take (j + 1)).flatten = (ls.take j).flatten ++ ls[j]) := by
        show _ = _
        rw [List.take_succ_eq_append_getElem hlt, List.flatten_append]
        simp
      have HSL : Hid (∀ s ∈ ls[j], s.size ≤ 140737488351300) := HZ.out _ (List.getElem_mem hlt)
      have HLE : Hid ((ls.take j).flatten.length + ls[j].length ≤ 1000000) := by
        have h1 := HT.out
        have h2 : ls.flatten = (ls.take (j + 1)).flatten ++ (ls.drop (j + 1)).flatten := by rw [← List.flatten_append, List.take_append_drop]
        rw [h2, List.length_append, HFL.out, List.length_append] at h1
        show _ ≤ _
        omega
      generalize (ls.take j).flatten = seen at HI HFL HLE
      generalize ls[j] = row at *
      clear hcu htu
      go_wp2
      go_loopw [3, 4, 6] (fun tv dv k wr => ∃ (m : Nat) (T : List ByteArray), m ≤ row.length ∧ k = .int .i64 m ∧ Hid (ClI w wr tv dv T (seen ++ row.take m))) (fun _ _ k _ => row.length - (intOf k).toNat)
      case atStart => exact ⟨0, T, by omega, rfl, by rw [List.take_zero, List.append_nil]; exact HI⟩
      case round =>
        clear HI
        obtain ⟨m, T, hm, rfl, HI⟩ := hrel
        have cu := (HU.out _ HI.out.bl).1
        by_cases hmt : m < row.length
        · have hmi : (m : Int) < (row.length : Int) := by omega
          have hmz : m ≤ 1000000 := by have := HLE.out; omega
          have HTl : Hid (T.length ≤ 1000000) := by
            have h1 := HI.out.le
            have h2 := HLE.out
            rw [List.length_append, List.length_take] at h1
            show _ ≤ _
            omega
          rcases HTX.out.2 with ⟨rfl, _⟩ | ⟨h0, g, o, cap', hv', hc, hrow⟩
          · simp at hmt
          · subst hv'
            injection hu with e1 e2 e3
            subst e1
            subst e3
            have hgw : g < w.heap.size := World.block_lt_of_cell? w ⟨g, o + 0, none⟩ (hrow 0 h0)
            have HXX : Hid (∀ Y, Below w.heap.size w Y → Y.cell? ⟨g, o + m, none⟩ = some (.string row[m])) := fun Y hY => (hrow.up hY hgw) m hmt
            have cx := HXX.out _ HI.out.bl
            have HXS : Hid (row[m].size ≤ 140737488351300) := HSL.out _ (List.getElem_mem hmt)
            have HTK : Hid (row.take (m + 1) = row.take m ++ [row[m]]) := List.take_succ_eq_append_getElem hmt
            generalize row[m] = x at cx HXX HXS HTK
            have HH1 : Hid (∀ b, (b = true ↔ x ∈ T) → Calls Tryd.prog 54 #[u3, .string x] wr fun e w' => e = .returned (.bool b) ∧ w' = wr) := fun b hb => HasText_any u3 T x wr (tx_own (by have := HTl.out; omega) HI.out.ot) b hb
            by_cases hin : x ∈ T
            · have HH : Hid (Calls Tryd.prog 54 #[u3, .string x] wr fun e w' => e = .returned (.bool true) ∧ w' = wr) := HH1.out true (by simp [hin])
              have HIN : Hid (ClI w wr u3 u4 T (seen ++ row.take (m + 1))) := by
                refine ⟨HI.out.ot, HI.out.od, HI.out.ne, HI.out.bl, HI.out.inj, fun y hy => ?_, ?_⟩
                · rw [HTK.out, ← List.append_assoc] at hy
                  rcases List.mem_append.1 hy with h1 | h1
                  · exact HI.out.all y h1
                  · simp at h1; subst h1; exact hin
                · have h1 := HI.out.le
                  rw [HTK.out, ← List.append_assoc, List.length_append]
                  omega
              clear hin hrow
              go_wp2_with fail
              refine HH.out.mono ?_
              rintro e w' ⟨rfl, rfl⟩
              go_wp2
              refine ⟨⟨m + 1, T, by omega, by go_num, HIN⟩, by simp [intOf]; omega⟩
            · have HH : Hid (Calls Tryd.prog 54 #[u3, .string x] wr fun e w' => e = .returned (.bool false) ∧ w' = wr) := HH1.out false (by simp [hin])
              have HSM : Hid (Calls Tryd.prog 11 #[.string x] wr fun e w' => e = .returned (.string (sm x)) ∧ Below wr.heap.size wr w') := Sum_sm x wr HXS.out
              have HNI : Hid (x ∉ T) := hin
              have HH2 : Hid (∀ b Y, Below wr.heap.size wr Y → (b = true ↔ sm x ∈ T.map sm) → Calls Tryd.prog 54 #[u4, .string (sm x)] Y fun e w' => e = .returned (.bool b) ∧ w' = Y) := fun b Y hY hb => HasText_any u4 (T.map sm) (sm x) Y (tx_own' (by rw [List.length_map]; have := HTl.out; omega) (List.length_map ..) (own_below HI.out.od hY)) b hb
              clear hin hrow
              go_wp2_with fail
              refine HH.out.mono ?_
              rintro e w' ⟨rfl, rfl⟩
              go_wp2_with fail
              refine HSM.out.mono ?_
              rintro e w3 ⟨rfl, hb3⟩
              have B3 : Hid (Below _ _ w3) := hb3
              have cu3 := (HU.out w3 (bl_tr HI.out.bl hb3)).1
              have cx3 := HXX.out w3 (bl_tr HI.out.bl hb3)
              clear hb3
              by_cases hin2 : sm x ∈ T.map sm
              · have HH3 : Hid (Calls Tryd.prog 54 #[u4, .string (sm x)] w3 fun e w' => e = .returned (.bool true) ∧ w' = w3) := HH2.out true w3 B3.out (by simp only [hin2])
                clear hin2
                generalize sm x = d at *
                go_wp2_with fail
                refine HH3.out.mono ?_
                rintro e w' ⟨rfl, rfl⟩
                go_wp2
                go_ret
                exact ⟨true, rfl, fun h => (by cases h), bl_tr HI.out.bl B3.out⟩
              · have HH3 : Hid (Calls Tryd.prog 54 #[u4, .string (sm x)] w3 fun e w' => e = .returned (.bool false) ∧ w' = w3) := HH2.out false w3 B3.out (by simp only [hin2]; simp)
                have HN2 : Hid (sm x ∉ T.map sm) := hin2
                have HJ : Hid (InjL (T ++ [x])) := inj_snoc HI.out.inj hin2
                have HMP : Hid ((T ++ [x]).map sm = T.map sm ++ [sm x]) := by show _ = _; simp
                clear hin2
                generalize sm x = d at *
                have hTz : T.length ≤ 1000000 := HTl.out
                have HO3 : Hid (w3.ownsRow w.heap.size 9 1 u3 T.length (scs T) ∧ w3.ownsRow w.heap.size 9 1 u4 T.length (scs (T.map sm)) ∧ Below w.heap.size w w3) := ⟨own_below HI.out.ot B3.out, own_below HI.out.od B3.out, bl_tr HI.out.bl B3.out⟩
                go_wp2_with fail
                refine HH3.out.mono ?_
                rintro e w' ⟨rfl, rfl⟩
                go_wp2_with (at_builtin; refine wpList_append_lies _ rfl _ _ 25 rfl w.heap.size 9 i0 (.string ⟨#[]⟩) 1 16 Tryd.underlying25 hi0 hz0 hz1 hz2 rfl (by decide) _ T.length (scs T) rfl (HO3.out.1.alloc _) ⟨_, 0, none⟩ 1 1 [.string x] rfl rfl ?c1 ?c2 (by decide) ?c3 ?c4 ?c5 (w'.heap.size + 1) ?c6 ?_)
                case c1 => exact new_one w' x
                case c2 => intro u hu; simp at hu; subst hu; rfl
                case c3 => unfold maxLen; omega
                case c4 => omega
                case c5 => rw [World.size_alloc]; have := HO3.out.2.2.size; omega
                case c6 => rw [World.size_alloc]
                intro g1 cap1 w1 hown1 hgrow1 hat1 hlt1
                have HD1 : Hid (∀ b, u4.ownBlock = some b → b < w'.heap.size) := fun b hb => (HO3.out.2.1.lt b hb).2
                have HO1 : Hid (w1.ownsRow w.heap.size 9 1 (.slice (some ⟨g1, 0, none⟩) (T.length + 1) cap1) (T.length + 1) (scs (T ++ [x])) ∧ w1.ownsRow w.heap.size 9 1 u4 T.length (scs (T.map sm)) ∧ Below w.heap.size w w1 ∧ u4.ownBlock ≠ some g1 ∧ g1 < w1.heap.size) := by
                  refine ⟨by rw [scs_snoc]; exact hown1, own_grown (HO3.out.2.1.alloc _) hgrow1 (fun b hb he => HI.out.ne b he hb), (bl_al HO3.out.2.2 _).grown hgrow1 (bl_al HO3.out.2.2 _).size (fun j hj => (HO3.out.1.lt j hj).1), ?_, hlt1⟩
                  intro he
                  rcases hat1 with h1 | h1
                  · exact HI.out.ne g1 h1 he
                  · have := HD1.out g1 he
                    omega
                clear hown1 hgrow1 hat1 hlt1
                go_wp2_with (at_builtin; refine wpList_append_lies _ rfl _ _ 25 rfl w.heap.size 9 i0 (.string ⟨#[]⟩) 1 16 Tryd.underlying25 hi0 hz0 hz1 hz2 rfl (by decide) _ T.length (scs (T.map sm)) rfl (HO1.out.2.1.alloc _) ⟨_, 0, none⟩ 1 1 [.string d] rfl rfl ?c1 ?c2 (by decide) ?c3 ?c4 ?c5 (w1.heap.size + 1) ?c6 ?_)
                case c1 => exact new_one w1 d
                case c2 => intro u hu; simp at hu; subst hu; rfl
                case c3 => unfold maxLen; omega
                case c4 => omega
                case c5 => rw [World.size_alloc]; have := HO1.out.2.2.1.size; omega
                case c6 => rw [World.size_alloc]
                intro g2 cap2 w2 hown2 hgrow2 hat2 hlt2
                have HIN : Hid (ClI w w2 (.slice (some ⟨g1, 0, none⟩) (T.length + 1) cap1) (.slice (some ⟨g2, 0, none⟩) (T.length + 1) cap2) (T ++ [x]) (seen ++ row.take (m + 1))) := by
                  have hTl : (T ++ [x]).length = T.length + 1 := by simp
                  refine ⟨?_, by rw [hTl, HMP.out, scs_snoc]; exact hown2, fun a ha hb => ?_, (bl_al HO1.out.2.2.1 _).grown hgrow2 (bl_al HO1.out.2.2.1 _).size (fun j hj => (HO1.out.2.1.lt j hj).1), HJ.out, fun y hy => ?_, ?_⟩
                  · rw [hTl]
                    refine own_grown (HO1.out.1.alloc _) hgrow2 (fun b hb he => ?_)
                    simp [Value.ownBlock] at hb
                    subst hb
                    exact HO1.out.2.2.2.1 he
                  · simp [Value.ownBlock] at ha hb
                    subst ha
                    subst hb
                    rcases hat2 with h1 | h1
                    · exact HO1.out.2.2.2.1 h1
                    · have := HO1.out.2.2.2.2
                      omega
                  · rw [HTK.out, ← List.append_assoc] at hy
                    rcases List.mem_append.1 hy with h1 | h1
                    · exact List.mem_append_left _ (HI.out.all y h1)
                    · exact List.mem_append_right _ h1
                  · have h1 := HI.out.le
                    rw [hTl, HTK.out, ← List.append_assoc, List.length_append]
                    simp only [List.length_cons, List.length_nil]
                    omega
                clear hown2 hgrow2 hat2 hlt2
                go_wp2
                refine ⟨⟨m + 1, T ++ [x], by omega, by go_num, HIN⟩, by simp [intOf]; omega⟩
        · obtain rfl : m = row.length := by omega
          subst hu
          have HIN : Hid (ClI w wr u3 u4 T (ls.take (j + 1)).flatten) := by
            have := HI.out
            rw [List.take_length, ← HFL.out] at this
            exact this
          go_wp2
          refine ⟨⟨j + 1, T, by omega, by go_num, HIN⟩, by simp [intOf]; omega⟩
    · obtain rfl : j = ls.length := by omega
      have HIN : Hid (InjL ls.flatten) := by
        intro x y hx hy he
        have h2 := HI.out.all
        rw [List.take_length] at h2
        exact HI.out.inj x y (h2 x hx) (h2 y hy) he
      go_wp2
      go_ret
      exact ⟨false, rfl, fun _ => HIN.out, HI.out.bl⟩
end Go.Proofs.YtagelkaenbdlaaaDoor
