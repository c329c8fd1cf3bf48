/- A file taken out of others; texts, and two behind them. -/
import Derived.Test.YtapiedeekbfpnaaGreatDoorSbAgM
import Derived.Test.YtapiedeekbfpnaaGreatDoorSbUpM
import Derived.Test.YtapiedeekbfpnaaGreatDoorSd7M
namespace Go.Proofs.YtapiedeekbfpnaaGreatDoor
open Go.RowKit Go.Shelf Go.Maps Go.WideMaps Go.Sort
attribute [local go_sem ↓] appS_eq

/-- A file is taken out: both appends. -/
theorem eraO_ap {g o cap : Nat} {F : List Fl} {X Y : World} (hF : FlAt g o F X) (hg : g < X.heap.size) (hY : Below X.heap.size X Y) (hE : Y.heap[X.heap.size]? = some (.cells #[] 35 (0, 0))) (hn : F.length ≤ 1000) (hcap : F.length ≤ cap) (j : Nat) (hj : j < F.length) :
    ∃ (A : Addr) (v1 : Value) (ra : Option Addr) (rc : Nat) (w1 w2 : World), (if cap = j + 1 then some (⟨g, o, none⟩ : Addr) else some ⟨g, o + (j + 1) * 3, none⟩) = some A ∧
      (appS #[22, 22] 22 #[.slice (some ⟨X.heap.size, 0, none⟩) 0 0, .slice (some ⟨g, o, none⟩) j cap]).run Tryz.prog Y = .ok v1 w1 ∧
      (appS #[22, 22] 22 #[v1, .slice (some A) (F.length - (j + 1)) (cap - (j + 1))]).run Tryz.prog w1 = .ok (.slice ra (F.eraseIdx j).length rc) w2 ∧
      IsFl w2 ra (F.eraseIdx j) ∧ Below X.heap.size X w2 := by
  obtain ⟨i0, hi, hz0, hz1, hz2⟩ := info_p infF
  have hlt : X.heap.size < Y.heap.size := (Array.getElem?_eq_some_iff.1 hE).1
  have hFY : FlAt g o F Y := flAt_heap hF (hY.block g hg)
  have hown0 : Y.ownsRow X.heap.size 35 3 (.slice (some ⟨X.heap.size, 0, none⟩) 0 0) 0 [] := ⟨rfl, .inr ⟨X.heap.size, 0, #[], rfl, Nat.le_refl _, hE, Nat.le_refl _, by decide, rfl, rfl⟩⟩
  obtain ⟨v1, w1, hr1, ho1, hg1', _⟩ := run_append_own (P := Tryz.prog) Y X.heap.size 22 22 35 i0 (.agg #[.string ⟨#[]⟩, .string ⟨#[]⟩, .bool false]) 3 40 Tryz.underlying22 hi hz0 hz1 hz2 rfl (by decide) (.slice (some ⟨X.heap.size, 0, none⟩) 0 0) 0 [] hown0 ⟨g, o, none⟩ j cap (flCells (F.take j)) (by rw [flCells_len, List.length_take]; omega) (fun k u hu => by rw [addr_add]; exact flAt_cells (flAt_take hFY j) k u hu) (flCells_one _) (by unfold maxLen; omega) (by omega) (by omega)
  have hw1 : ∀ x : Nat, x < X.heap.size → w1.heap[x]? = X.heap[x]? := fun x hx => (hg1'.block x (by omega) (fun e => by simp [Value.ownBlock] at e; omega)).trans (hY.block x hx)
  have hF1 : FlAt g o F w1 := flAt_heap hF (hw1 g hg)
  obtain ⟨A, hA, hsrc⟩ : ∃ A : Addr, (if cap = j + 1 then some (⟨g, o, none⟩ : Addr) else some ⟨g, o + (j + 1) * 3, none⟩) = some A ∧ ∀ k u, (flCells (F.drop (j + 1)))[k]? = some u → w1.cell? (A.add k) = some u := by
    by_cases hck : cap = j + 1
    · refine ⟨⟨g, o, none⟩, by simp [hck], fun k u hu => ?_⟩
      have : F.drop (j + 1) = [] := List.drop_eq_nil_iff.2 (by omega)
      rw [this] at hu
      cases hu
    · refine ⟨⟨g, o + (j + 1) * 3, none⟩, by simp [hck], fun k u hu => ?_⟩
      rw [addr_add]
      exact flAt_cells (flAt_drop hF1 (j + 1)) k u hu
  have hs1 := hg1'.size
  obtain ⟨v2, w2, hr2, ho2, hg2', _⟩ := run_append_own (P := Tryz.prog) w1 X.heap.size 22 22 35 i0 (.agg #[.string ⟨#[]⟩, .string ⟨#[]⟩, .bool false]) 3 40 Tryz.underlying22 hi hz0 hz1 hz2 rfl (by decide) v1 _ _ ho1 A (F.length - (j + 1)) (cap - (j + 1)) (flCells (F.drop (j + 1))) (by rw [flCells_len, List.length_drop]) hsrc (flCells_one _) (by unfold maxLen; omega) (by omega) (by omega)
  have el : 0 + j + (F.length - (j + 1)) = (F.eraseIdx j).length := by rw [List.length_eraseIdx_of_lt hj]; omega
  have ec : [] ++ flCells (F.take j) ++ flCells (F.drop (j + 1)) = flCells (F.eraseIdx j) := by rw [List.nil_append, List.eraseIdx_eq_take_drop_succ, flCells_app]
  rw [el, ec] at ho2
  have hfin : ∃ ra rc, v2 = .slice ra (F.eraseIdx j).length rc := by
    rcases ho2.2 with ⟨h1, h2⟩ | ⟨g2, c2, cur, hv, _⟩
    · exact ⟨none, 0, by rw [h1, h2]⟩
    · exact ⟨_, _, hv⟩
  obtain ⟨ra, rc, rfl⟩ := hfin
  refine ⟨A, v1, ra, rc, w1, w2, hA, hr1, hr2, own_files ho2 rfl, ?_⟩
  refine ⟨hg2'.os.trans (hg1'.os.trans hY.os), hg2'.tape.trans (hg1'.tape.trans hY.tape), hg2'.output.trans (hg1'.output.trans hY.output), by have := hg2'.size; have := hY.size; omega, fun x hx => ?_⟩
  refine (hg2'.block x (by have := hY.size; omega) (fun e => ?_)).trans (hw1 x hx)
  have := (ho1.lt x e.symm).1
  omega

theorem sStr : (Tryz.prog.info? 9).map (fun i => (i.zero, i.size, i.bytes)) = some (some (.string ⟨#[]⟩), 1, 16) := by kernel_rfl
theorem appN (g : Nat) (W : World) : (appS #[23, 23] 23 #[.slice (some ⟨g, 0, none⟩) 0 0, .slice none 0 0]).run Tryz.prog W = .ok (.slice (some ⟨g, 0, none⟩) 0 0) W := by
  obtain ⟨i0, hi, hz0, hz1, hz2⟩ := info_p sStr
  show (Builtin.append_ #[23, 23] 23 #[.slice (some ⟨g, 0, none⟩) 0 0, .slice none 0 0]).run Tryz.prog W = _
  simp [Builtin.append_, run_underlying Tryz.underlying23, sizeOf, typeInfo, hi, Builtin.lenOf, Builtin.firstCells, storeCells, loadCells, loadCellsFrom]
/-- Texts, and two behind them: both appends. -/
theorem twoO_ap {co : Option Addr} {ccap : Nat} {ss : List ByteArray} {X Y : World} (ht : TxAt X co ss) (hnil : co = none → ccap = 0) (hn : ss.length ≤ 1048576) (hY : Below X.heap.size X Y) (hE : Y.heap[X.heap.size]? = some (.cells #[] 9 (0, 0))) :
    ∃ (v1 : Value) (w1 : World), (appS #[23, 23] 23 #[.slice (some ⟨X.heap.size, 0, none⟩) 0 0, .slice co ss.length ccap]).run Tryz.prog Y = .ok v1 w1 ∧
      ∀ (s1 s2 : ByteArray), ∃ (gb cb : Nat) (w2 : World), (appS #[23, 23] 23 #[v1, .slice (some ⟨w1.heap.size, 0, none⟩) 2 2]).run Tryz.prog (w1.alloc (.cells #[.string s1, .string s2] 9)) = .ok (.slice (some ⟨gb, 0, none⟩) (ss ++ [s1, s2]).length cb) w2 ∧
      TxAt w2 (some ⟨gb, 0, none⟩) (ss ++ [s1, s2]) ∧ Below X.heap.size X w2 := by
  obtain ⟨i0, hi, hz0, hz1, hz2⟩ := info_p sStr
  have hlt : X.heap.size < Y.heap.size := (Array.getElem?_eq_some_iff.1 hE).1
  have hown0 : Y.ownsRow X.heap.size 9 1 (.slice (some ⟨X.heap.size, 0, none⟩) 0 0) 0 [] := ⟨rfl, .inr ⟨X.heap.size, 0, #[], rfl, Nat.le_refl _, hE, Nat.le_refl _, by decide, rfl, rfl⟩⟩
  have htY := ht.below hY
  have key : ∃ (v1 : Value) (w1 : World), (appS #[23, 23] 23 #[.slice (some ⟨X.heap.size, 0, none⟩) 0 0, .slice co ss.length ccap]).run Tryz.prog Y = .ok v1 w1 ∧ w1.ownsRow X.heap.size 9 1 v1 ss.length (ss.map Value.string) ∧ Below X.heap.size X w1 := by
    cases hco : co with
    | none =>
      have hs : ss = [] := by
        rcases ht with h | ⟨g, o, e, _⟩
        · exact h
        · rw [hco] at e; cases e
      subst hs
      rw [hnil hco]
      exact ⟨_, Y, appN X.heap.size Y, hown0, hY⟩
    | some x =>
      have hsrc : ∀ k u, (ss.map Value.string)[k]? = some u → Y.cell? (x.add k) = some u := fun k u hu => by
        rw [List.getElem?_map] at hu
        have hk : k < ss.length := by
          rcases Nat.lt_or_ge k ss.length with h | h
          · exact h
          · rw [List.getElem?_eq_none h] at hu; cases hu
        rw [List.getElem?_eq_getElem hk] at hu
        have hu := Option.some.inj hu
        rcases htY with h | ⟨g, o, e, _, hc⟩
        · rw [h] at hk; simp at hk
        · rw [hco] at e
          obtain rfl := Option.some.inj e
          rw [addr_add, hc k hk]
          exact congrArg some hu
      obtain ⟨v1, w1, hr1, ho1, hg1', _⟩ := run_append_own (P := Tryz.prog) Y X.heap.size 23 23 9 i0 (.string ⟨#[]⟩) 1 16 Tryz.underlying23 hi hz0 hz1 hz2 rfl (by decide) (.slice (some ⟨X.heap.size, 0, none⟩) 0 0) 0 [] hown0 x ss.length ccap (ss.map Value.string) (by simp) hsrc (fun u hu => by obtain ⟨s, _, rfl⟩ := List.mem_map.1 hu; rfl) (by unfold maxLen; omega) (by omega) (by omega)
      refine ⟨v1, w1, hr1, by rw [Nat.zero_add, List.nil_append] at ho1; exact ho1, hg1'.os.trans hY.os, hg1'.tape.trans hY.tape, hg1'.output.trans hY.output, by have := hg1'.size; have := hY.size; omega, fun y hy => (hg1'.block y (by omega) (fun e => by simp [Value.ownBlock] at e; omega)).trans (hY.block y hy)⟩
  obtain ⟨v1, w1, hr1, ho1, hb1⟩ := key
  refine ⟨v1, w1, hr1, fun s1 s2 => ?_⟩
  have hsz : (w1.alloc (.cells #[.string s1, .string s2] 9)).heap.size = w1.heap.size + 1 := World.size_alloc _ _
  have hs1 := hb1.size
  obtain ⟨v2, w2, hr2, ho2, hg2', _⟩ := run_append_own (P := Tryz.prog) (w1.alloc (.cells #[.string s1, .string s2] 9)) X.heap.size 23 23 9 i0 (.string ⟨#[]⟩) 1 16 Tryz.underlying23 hi hz0 hz1 hz2 rfl (by decide) v1 _ _ (ho1.alloc _) ⟨w1.heap.size, 0, none⟩ 2 2 [.string s1, .string s2] rfl (fun k u hu => by rw [add0, Lib.cell_of_heap (heap_alloc_new w1 _)]; simpa using hu) (fun u hu => by simp at hu; rcases hu with rfl | rfl <;> rfl) (by unfold maxLen; omega) (by omega) (by omega)
  have el : ss.length + 2 = (ss ++ [s1, s2]).length := by simp
  have ec : ss.map Value.string ++ [.string s1, .string s2] = (ss ++ [s1, s2]).map Value.string := by simp
  rw [el, ec] at ho2
  obtain ⟨gb, cb, hv2, hgb, hgb2⟩ := ho2.form (by simp)
  subst hv2
  refine ⟨gb, cb, w2, hr2, .inr ⟨gb, 0, rfl, hgb2, fun k hk => ?_⟩, ?_⟩
  · have := ho2.cells rfl k (.string (ss ++ [s1, s2])[k]) (by rw [List.getElem?_map, List.getElem?_eq_getElem hk]; rfl)
    rwa [addr_add] at this
  · have hba : Below X.heap.size X (w1.alloc (.cells #[.string s1, .string s2] 9)) := hb1.alloc hs1 _
    exact hba.grown hg2' (by omega) (fun k hk => (ho1.lt k hk).1)
end Go.Proofs.YtapiedeekbfpnaaGreatDoor
