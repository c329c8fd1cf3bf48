/- How a directory is packed: the walk. -/
import Derived.Test.YtcdgdmhlbgbklaaGreatDoorTg4
namespace Go.Proofs.YtcdgdmhlbgbklaaGreatDoor
open Go.RowKit Go.Shelf Go.Maps Go.WideMaps Go.Sort
attribute [local go_sem ↓] appS_eq

/-- How packing ends. -/
def PkP (r : ByteArray × List ByteArray) (w : World) (e : Ending) (w' : World) : Prop := ∃ bv, e = .returned (.tuple #[.string r.1, bv]) ∧ w'.ownsRow w.heap.size 9 1 bv r.2.length (r.2.map Value.string) ∧ Below w.heap.size w w'
/-- While files are taken one by one. -/
def PkL (B M : Nat) (L : List Fl) (w : World) (nv bv i : Value) (wr : World) : Prop := ∃ (k : Nat) (D : DataW Unit) (g c : List UInt8 → Nat), k ≤ L.length ∧ i = .int .i64 k ∧ DS B M D g c (L.take k) ((tops (L.take k)).map (ndF smD)) ((tops (L.take k)).map Fl.tx) nv bv wr ∧ Below B w wr

/-- Behind so many directories. -/
def nsK (n : Nat) (L : List Fl) (k : Nat) : List Nd := (tops L).map (ndF smD) ++ ((names L).take k).map fun m => ndM smD m (dirF smD n (sub m L)).1
def bsK (n : Nat) (L : List Fl) (k : Nat) : List ByteArray := (tops L).map Fl.tx ++ ((names L).take k).flatMap fun m => (dirF smD n (sub m L)).2
theorem nsK_succ (n : Nat) (L : List Fl) (k : Nat) (h : k < (names L).length) : nsK n L (k + 1) = nsK n L k ++ [ndM smD (names L)[k] (dirF smD n (sub (names L)[k] L)).1] := by
  unfold nsK
  rw [List.take_succ_eq_append_getElem h, List.map_append, List.append_assoc]
  rfl
theorem bsK_succ (n : Nat) (L : List Fl) (k : Nat) (h : k < (names L).length) : bsK n L (k + 1) = bsK n L k ++ (dirF smD n (sub (names L)[k] L)).2 := by
  unfold bsK
  rw [List.take_succ_eq_append_getElem h, List.flatMap_append, ← List.append_assoc]
  simp
theorem nsK_len (n : Nat) (L : List Fl) (k : Nat) : (nsK n L k).length ≤ L.length := by
  unfold nsK
  rw [List.length_append, List.length_map, List.length_map, List.length_take]
  have := names_len L
  omega
theorem bsK_len (n : Nat) (L : List Fl) (hn : n ≤ 1000) (hL : L.length ≤ 60) : ∀ k, (bsK n L k).length ≤ 60 + k * 60001 := by
  intro k
  have h1 : (tops L).length ≤ L.length := List.length_filter_le _ _
  induction k with
  | zero => simp [bsK]; omega
  | succ k ih =>
    by_cases h : k < (names L).length
    · rw [bsK_succ n L k h, List.length_append]
      have h2 := dirF_len smD n (sub (names L)[k] L)
      have h3 := sub_len (names L)[k] L
      have h4 : n * (sub (names L)[k] L).length ≤ 60000 := Nat.le_trans (Nat.mul_le_mul hn (Nat.le_trans h3 hL)) (by decide)
      rw [Nat.add_mul, Nat.one_mul]
      generalize n * (sub (names L)[k] L).length = a at *
      generalize k * 60001 = b at *
      generalize (dirF smD n (sub (names L)[k] L)).2.length = d at *
      generalize (bsK n L k).length = e at *
      clear h3 h1 h hn hL
      omega
    · have : bsK n L (k + 1) = bsK n L k := by
        unfold bsK
        rw [List.take_of_length_le (by omega), List.take_of_length_le (by omega)]
      rw [this, Nat.add_mul, Nat.one_mul]
      generalize k * 60001 = b at *
      generalize (bsK n L k).length = e at *
      clear this h h1 hn hL
      omega
/-- While directories are taken one by one; kv: the names, as they lie since w1. -/
def PkM (B M : Nat) (D : DataW Unit) (g c : List UInt8 → Nat) (n : Nat) (L : List Fl) (w w1 : World) (kv nv bv i : Value) (wr : World) : Prop := ∃ k : Nat, k ≤ (names L).length ∧ i = .int .i64 k ∧ DS B M D g c L (nsK n L k) (bsK n L k) nv bv wr ∧ Below B w wr ∧ ∀ x, kv.ownBlock = some x → wr.heap[x]? = w1.heap[x]? ∧ nv.ownBlock ≠ some x ∧ bv.ownBlock ≠ some x ∧ x < wr.heap.size

theorem DS.turnN {B M : Nat} {D : DataW Unit} {g c : List UInt8 → Nat} {L : List Fl} {ns ns' : List Nd} {bs : List ByteArray} {nv bv : Value} {w w' : World} (h : DS B M D g c L ns bs nv bv w) (hrow : w'.ownsRow B 108 3 nv ns'.length (ndCells ns')) (hg : w.grownBy w' nv.ownBlock) : DS B M D g c L ns' bs nv bv w' := by
  have hk : ∀ b, b < w.heap.size → nv.ownBlock ≠ some b → w'.heap[b]? = w.heap[b]? := fun b hb hne => hg.block b hb (fun e => hne e.symm)
  refine ⟨hrow, row_heap h.blobs fun b hb => hk b (h.blobs.lt b hb).2 (fun e => h.vV b e hb), ownsMap_heap h.own (hk M h.own.lt h.vM.1), h.str, h.has, h.get, fun n hn => row_heap (h.rows n hn) fun b hb => ?_, h.aM, h.aG, h.vM, h.vG, h.vV, h.loM⟩
  have e : g n = b := by injection hb
  subst e
  exact hk _ (h.gl hn).2 (h.vG n hn).1

theorem DS_start (w : World) : DS w.heap.size w.heap.size (.map []) (fun _ => 0) (fun _ => 0) [] [] [] (.slice none 0 0) (.slice none 0 0) (w.alloc (.map #[] 0)) :=
  ⟨World.ownsRow_nil _ _ _ _, World.ownsRow_nil _ _ _ _, World.ownsMap_made _ _ _ _, ⟨[], rfl, by simp, .nil⟩, fun n => by simp [Maps.has, names], fun n hn => by simp [names] at hn, fun n hn => by simp [names] at hn, fun n hn => by simp [names] at hn, fun n hn => by simp [names] at hn, ⟨by simp [Value.ownBlock], by simp [Value.ownBlock]⟩, fun n hn => by simp [names] at hn, fun x hx => by simp [Value.ownBlock] at hx, Nat.le_refl _⟩
/-- A node more, behind a file's kind and the sum of its text. -/
theorem top_ap {B M : Nat} {D : DataW Unit} {g c : List UInt8 → Nat} {L : List Fl} {ns : List Nd} {bs : List ByteArray} {nv bv : Value} {x : Fl} {ya yd : ByteArray} {yk : Int} {wr w1 w2 w3 : World} (HB1 : Hid (Below wr.heap.size wr w1)) (hb2 : Below w1.drew.heap.size w1.drew w2) (hb3 : Below w2.heap.size w2 w3)
    (d0 : w1.cell? ⟨wr.heap.size, 0, none⟩ = some (.string x.pa)) (d1 : w1.cell? ⟨wr.heap.size, 1, none⟩ = some (.string x.tx)) (d2 : w1.cell? ⟨wr.heap.size, 2, none⟩ = some (.bool x.rn)) (hsz : wr.heap.size < w1.heap.size)
    (HNo : Hid (∀ W, Below wr.heap.size wr W → ∃ G C w', (appS #[102, 102] 102 #[nv, .slice (some ⟨W.heap.size, 0, none⟩) 1 1]).run Tryz.prog (W.alloc (.cells #[.string ya, .int .i64 yk, .string yd] 108)) = .ok (.slice (some ⟨G, 0, none⟩) (ns.length + 1) C) w' ∧
      DS B M D g c L (ns ++ [(ya, yk, yd)]) bs (.slice (some ⟨G, 0, none⟩) (ns.length + 1) C) bv w' ∧ Below B W w' ∧ ∀ b, b < W.heap.size → nv.ownBlock ≠ some b → w'.heap[b]? = W.heap[b]? ∧ G ≠ b)) (HU : Hid (∀ b, nv.ownBlock = some b → b < wr.heap.size)) :
    ∃ G C w4, (appS #[102, 102] 102 #[nv, .slice (some ⟨w3.heap.size, 0, none⟩) 1 1]).run Tryz.prog (w3.alloc (.cells #[.string ya, .int .i64 yk, .string yd] 108)) = .ok (.slice (some ⟨G, 0, none⟩) (ns.length + 1) C) w4 ∧
      w4.cell? ⟨wr.heap.size, 0, none⟩ = some (.string x.pa) ∧ w4.cell? ⟨wr.heap.size, 1, none⟩ = some (.string x.tx) ∧ w4.cell? ⟨wr.heap.size, 2, none⟩ = some (.bool x.rn) ∧ wr.heap.size < w4.heap.size ∧
      Hid (DS B M D g c L (ns ++ [(ya, yk, yd)]) bs (.slice (some ⟨G, 0, none⟩) (ns.length + 1) C) bv w4 ∧ ∃ W, Below wr.heap.size wr W ∧ Below B W w4) := by
  have h1 : Below wr.heap.size wr w1.drew := HB1.out.drew
  have h2 := h1.trans (hb2.mono h1.size)
  have h3 := h2.trans (hb3.mono h2.size)
  have hlt3 : wr.heap.size < w3.heap.size := Nat.lt_of_lt_of_le hsz (Nat.le_trans hb2.size hb3.size)
  obtain ⟨G, C, w4, hap, hds, hbb, hk⟩ := HNo.out w3 h3
  have hblk : w4.heap[wr.heap.size]? = w1.heap[wr.heap.size]? := ((hk _ hlt3 (fun e => by have := HU.out _ e; omega)).1.trans (hb3.block _ (Nat.lt_of_lt_of_le hsz hb2.size))).trans (hb2.block _ hsz)
  have hc : ∀ k, w4.cell? ⟨wr.heap.size, k, none⟩ = w1.cell? ⟨wr.heap.size, k, none⟩ := fun k => World.cell?_of_block (w := w1) (a := ⟨wr.heap.size, k, none⟩) hblk
  exact ⟨G, C, w4, hap, (hc 0).trans d0, (hc 1).trans d1, (hc 2).trans d2, Nat.lt_of_lt_of_le hlt3 hbb.size, hds, w3, h3, hbb⟩

set_option maxHeartbeats 8000000 in
set_option maxRecDepth 100000 in
theorem packed_step (n : Nat) (ih : ∀ (ao : Option Addr) (cap : Nat) (K : List Fl) (W : World), K ≠ [] → okT K → (∀ f ∈ K, f.pa.size < n) → IsFl W ao K → Env W → Calls Tryz.prog 27 #[.slice ao K.length cap] W (PkP (dirF smD n K) W))
    (ao : Option Addr) (cap : Nat) (L : List Fl) (w : World) (hn : n ≤ 1000) (hok : okT L) (hsz : ∀ f ∈ L, f.pa.size < n + 1) (hl : IsFl w ao L) (he : Env w) :
    Calls Tryz.prog 27 #[.slice ao L.length cap] w (PkP (dirF smD (n + 1) L) w) := by
  have IH : Hid (∀ (ao : Option Addr) (cap : Nat) (K : List Fl) (W : World), K ≠ [] → okT K → (∀ f ∈ K, f.pa.size < n) → IsFl W ao K → Env W → Calls Tryz.prog 27 #[.slice ao K.length cap] W (PkP (dirF smD n K) W)) := ih
  have HL : Hid (IsFl w ao L) := hl
  have HK : Hid (okT L) := hok
  have HZ : Hid (∀ f ∈ L, f.pa.size < n + 1) := hsz
  have HE : Hid (Env w) := he
  have HNN : Hid (n ≤ 1000) := hn
  have hn1 : (L.length : Int) ≤ 60 := by have := hok.1; omega
  have hmm := @run_makeMap Tryz.prog
  clear ih hl hok hsz he hn
  go_enter Tryz.func27, Tryz.ntmps27
  go_wp2
  go_loopw [4, 5, 21] (fun nv bv i wr => PkL w.heap.size w.heap.size L w nv bv i wr) (fun _ _ i _ => L.length - (intOf i).toNat)
  case atStart => exact ⟨0, _, _, _, by omega, rfl, DS_start w, (Below.refl _ _).alloc (Nat.le_refl _) _⟩
  case round =>
    obtain ⟨k, D, g, c, hk, rfl, hds, hb⟩ := hrel
    have HD : Hid (DS w.heap.size w.heap.size D g c (L.take k) ((tops (L.take k)).map (ndF smD)) ((tops (L.take k)).map Fl.tx) u4 u5 wr) := hds
    have HB : Hid (Below w.heap.size w wr) := hb
    have hwz := hb.size
    have HLB : Hid (IsFl wr ao L) := HL.out.below hb (Nat.le_refl _)
    have HEB : Hid (Env wr) := HE.out.up hb
    clear hds hb
    by_cases hlt : k < L.length
    · rcases HLB.out with h | ⟨gg, o, rfl, hgr, hc⟩
      · exfalso; rw [h] at hlt; exact absurd hlt (by simp)
      obtain ⟨c0, c1, c2⟩ := hc k hlt
      have hf0 : flE L[k] = 0 := HK.out.2.1 _ (List.getElem_mem hlt)
      have hps : L[k].pa.size ≤ 100 := pathOk_size (flE_pa hf0).1
      have hts : L[k].tx.size ≤ 100000 := (flE_pa hf0).2
      have htk : L.take (k + 1) = L.take k ++ [L[k]] := List.take_succ_eq_append_getElem hlt
      have hlk : (L.take k).length ≤ 60 := by rw [List.length_take]; have := HK.out.1; omega
      have HTK : Hid (L.take (k + 1) = L.take k ++ [L[k]]) := htk
      have HPS : Hid (L[k].pa.size ≤ 100 ∧ L[k].tx.size ≤ 100000 ∧ (L.take k).length ≤ 60) := ⟨hps, hts, hlk⟩
      clear hc hf0 hps hts htk hlk HLB
      generalize hx : L[k] = x at c0 c1 c2 HTK HPS
      clear hx
      generalize hLk : L.take k = Lk at HD HTK HPS
      clear hLk
      have hA : Below wr.heap.size wr (wr.alloc (.cells #[.string x.pa, .string x.tx, .bool x.rn] 48)) := (Below.refl _ wr).alloc (Nat.le_refl _) _
      have hAz : (wr.alloc (.cells #[.string x.pa, .string x.tx, .bool x.rn] 48)).heap.size = wr.heap.size + 1 := World.size_alloc _ _
      have hAx := heap_alloc_new wr (.cells #[.string x.pa, .string x.tx, .bool x.rn] 48)
      by_cases hd : deepF x = true
      · have HCut : Hid (Calls Tryz.prog 64 #[.string x.pa, .string ⟨#[47]⟩] (wr.alloc (.cells #[.string x.pa, .string x.tx, .bool x.rn] 48)) fun e w' => e = .returned (.tuple #[.string ⟨(hdF x).toArray⟩, .string (subF x).pa, .bool true]) ∧ Below (wr.heap.size + 1) (wr.alloc (.cells #[.string x.pa, .string x.tx, .bool x.rn] 48)) w') := by
          have := Cut_deep x _ hd HPS.out.1 (HEB.out.up hA)
          rw [hAz] at this
          exact this
        have HA : Hid (Below wr.heap.size wr (wr.alloc (.cells #[.string x.pa, .string x.tx, .bool x.rn] 48))) := hA
        have HAz : Hid ((wr.alloc (.cells #[.string x.pa, .string x.tx, .bool x.rn] 48)).heap.size = wr.heap.size + 1) := hAz
        have HAx : Hid ((wr.alloc (.cells #[.string x.pa, .string x.tx, .bool x.rn] 48)).heap[wr.heap.size]? = some (.cells #[.string x.pa, .string x.tx, .bool x.rn] 48 (0, 0))) := hAx
        clear hA hAz hAx
        go_wp2_with fail
        refine HCut.out.mono ?_
        rintro e w1 ⟨rfl, hb1⟩
        have d0 : w1.cell? ⟨wr.heap.size, 0, none⟩ = some (.string x.pa) := (hb1.cell (p := ⟨wr.heap.size, 0, none⟩) (by show wr.heap.size < _; omega)).trans (Lib.cell_of_heap HAx.out 0)
        have d1 : w1.cell? ⟨wr.heap.size, 1, none⟩ = some (.string x.tx) := (hb1.cell (p := ⟨wr.heap.size, 1, none⟩) (by show wr.heap.size < _; omega)).trans (Lib.cell_of_heap HAx.out 1)
        have d2 : w1.cell? ⟨wr.heap.size, 2, none⟩ = some (.bool x.rn) := (hb1.cell (p := ⟨wr.heap.size, 2, none⟩) (by show wr.heap.size < _; omega)).trans (Lib.cell_of_heap HAx.out 2)
        have dz : w1.frozen? ⟨wr.heap.size, 0, none⟩ = false := (hb1.frozen (p := ⟨wr.heap.size, 0, none⟩) (by show wr.heap.size < _; omega)).trans (by have h := HAx.out; simp only [World.frozen?]; rw [h]; rfl)
        have hsz1 : wr.heap.size + 1 ≤ w1.heap.size := by have := hb1.size; have := HAz.out; omega
        have hB1 : Below wr.heap.size wr (w1.setCell ⟨wr.heap.size, 0, none⟩ (.string (subF x).pa)) := (HA.out.trans (hb1.mono (by omega))).setCell (p := ⟨wr.heap.size, 0, none⟩) (Nat.le_refl _) _
        have hDW := HD.out.keep hB1.block
        have hWz : (w1.setCell ⟨wr.heap.size, 0, none⟩ (.string (subF x).pa)).heap.size = w1.heap.size := by simp [World.setCell]
        obtain ⟨la, lc, G, C, w3, w4, hlk, hap, hmu, hds4, hb4⟩ := hDW.deep hd (by
          have := congrArg List.length (deep_sl hd).2
          rw [List.length_append, List.length_cons] at this
          have e1 : (pth x).length = x.pa.size := Array.length_toList
          have := HPS.out.1
          omega) (by have := HPS.out.2.2; omega)
        rw [hWz] at hap
        have htx : (subF x).tx = x.tx := subF_tx x
        have hrn : (subF x).rn = x.rn := by unfold subF; cases sl (pth x) <;> rfl
        rw [htx, hrn] at hap
        have HD4 : Hid (∃ D' g' c', DS w.heap.size w.heap.size D' g' c' (Lk ++ [x]) ((tops Lk).map (ndF smD)) ((tops Lk).map Fl.tx) u4 u5 w4) := hds4
        have HB4 : Hid (Below w.heap.size w w4) := (HB.out.trans (hB1.mono hwz)).trans hb4
        have HTop : Hid (tops (Lk ++ [x]) = tops Lk) := by
          show _ = _
          rw [tops_snoc, if_pos hd]
        clear hb1 hB1 hDW hWz hds4 hb4 htx hrn
        go_wp2
        obtain ⟨D', g', c', hds⟩ := HD4.out
        refine ⟨⟨k + 1, D', g', c', by omega, by go_num, ?_, HB4.out⟩, by simp [intOf]; omega⟩
        rw [HTK.out, HTop.out]
        exact hds
      · have hd' : deepF x = false := by simpa using hd
        have HCut : Hid (Calls Tryz.prog 64 #[.string x.pa, .string ⟨#[47]⟩] (wr.alloc (.cells #[.string x.pa, .string x.tx, .bool x.rn] 48)) fun e w' => e = .returned (.tuple #[.string x.pa, .string ⟨#[]⟩, .bool false]) ∧ Below (wr.heap.size + 1) (wr.alloc (.cells #[.string x.pa, .string x.tx, .bool x.rn] 48)) w') := by
          have := Cut_top x _ hd' HPS.out.1 (HEB.out.up hA)
          rw [hAz] at this
          exact this
        have HA : Hid (Below wr.heap.size wr (wr.alloc (.cells #[.string x.pa, .string x.tx, .bool x.rn] 48))) := hA
        have HAz : Hid ((wr.alloc (.cells #[.string x.pa, .string x.tx, .bool x.rn] 48)).heap.size = wr.heap.size + 1) := hAz
        have HAx : Hid ((wr.alloc (.cells #[.string x.pa, .string x.tx, .bool x.rn] 48)).heap[wr.heap.size]? = some (.cells #[.string x.pa, .string x.tx, .bool x.rn] 48 (0, 0))) := hAx
        have HTop : Hid (tops (Lk ++ [x]) = tops Lk ++ [x]) := by
          show _ = _
          rw [tops_snoc, if_neg hd]
        have HDT : Hid (deepF x = false) := hd'
        clear hA hAz hAx hd hd'
        go_wp2_with fail
        refine HCut.out.mono ?_
        rintro e w1 ⟨rfl, hb1⟩
        have d0 : w1.cell? ⟨wr.heap.size, 0, none⟩ = some (.string x.pa) := (hb1.cell (p := ⟨wr.heap.size, 0, none⟩) (by show wr.heap.size < _; omega)).trans (Lib.cell_of_heap HAx.out 0)
        have d1 : w1.cell? ⟨wr.heap.size, 1, none⟩ = some (.string x.tx) := (hb1.cell (p := ⟨wr.heap.size, 1, none⟩) (by show wr.heap.size < _; omega)).trans (Lib.cell_of_heap HAx.out 1)
        have d2 : w1.cell? ⟨wr.heap.size, 2, none⟩ = some (.bool x.rn) := (hb1.cell (p := ⟨wr.heap.size, 2, none⟩) (by show wr.heap.size < _; omega)).trans (Lib.cell_of_heap HAx.out 2)
        have hsz1 : wr.heap.size < w1.heap.size := by have := hb1.size; have := HAz.out; omega
        have HB1 : Hid (Below wr.heap.size wr w1) := HA.out.trans (hb1.mono (by omega))
        have HKi : Hid (∀ W, Calls Tryz.prog 65 #[.agg #[.string x.pa, .string x.tx, .bool x.rn]] W fun e w' => e = .returned (.int .i64 (kdF x.rn)) ∧ Below W.heap.size W w') := fun W => kindOf_any x W
        have HSu : Hid (∀ W, Below wr.heap.size wr W → Calls Tryz.prog 16 #[.string x.tx] W fun e w' => e = .returned (.string (smD x.tx)) ∧ Below W.heap.size W w') := fun W hW => Sm_any x.tx W (by have := HPS.out.2.1; omega) (HEB.out.up hW)
        have HNo : Hid (∀ W, Below wr.heap.size wr W → ∃ G C w', (appS #[102, 102] 102 #[u4, .slice (some ⟨W.heap.size, 0, none⟩) 1 1]).run Tryz.prog (W.alloc (.cells #[.string x.pa, .int .i64 (kdF x.rn), .string (smD x.tx)] 108)) = .ok (.slice (some ⟨G, 0, none⟩) (((tops Lk).map (ndF smD)).length + 1) C) w' ∧
            DS w.heap.size w.heap.size D g c Lk ((tops Lk).map (ndF smD) ++ [ndF smD x]) ((tops Lk).map Fl.tx) (.slice (some ⟨G, 0, none⟩) (((tops Lk).map (ndF smD)).length + 1) C) u5 w' ∧ Below w.heap.size W w' ∧ ∀ b, b < W.heap.size → u4.ownBlock ≠ some b → w'.heap[b]? = W.heap[b]? ∧ G ≠ b) := fun W hW =>
          (HD.out.below hW).node (ndF smD x) (by
            have h1 : (tops Lk).length ≤ Lk.length := List.length_filter_le _ _
            have := HPS.out.2.2
            rw [List.length_map]
            omega)
        have HU4 : Hid (∀ b, u4.ownBlock = some b → b < wr.heap.size) := fun b hb => (HD.out.nodes.lt b hb).2
        clear hb1 HCut HAx HAz HA HEB
        go_wp2_with fail
        go_region_held3 (fun w' => w'.cell? ⟨wr.heap.size, 0, none⟩ = some (.string x.pa) ∧ w'.cell? ⟨wr.heap.size, 1, none⟩ = some (.string x.tx) ∧ w'.cell? ⟨wr.heap.size, 2, none⟩ = some (.bool x.rn) ∧ wr.heap.size < w'.heap.size)
          (first | assumption | (exact ⟨s0, s1, s2, s3⟩) | (simp [go_sem, *]; done) | (go_split_ands; refine ⟨?_, ?_, ?_, ?_⟩ <;> first | (exact Nat.lt_of_lt_of_le (by assumption) hb3.size) | (rw [hb3.cell (p := ⟨wr.heap.size, _, none⟩) (by assumption)]; assumption) | (exact Nat.lt_of_lt_of_le (by assumption) hb2.size) | (rw [hb2.cell (p := ⟨wr.heap.size, _, none⟩) (by assumption)]; assumption)))
          (first
            | (go_at_call 65; refine (HKi.out _).mono ?_; rintro e w2 ⟨rfl, hb2⟩)
            | (go_at_call 16; refine (HSu.out _ (HB1.out.drew.trans (hb2.mono HB1.out.drew.size))).mono ?_; rintro e w3 ⟨rfl, hb3⟩; obtain ⟨G, C, w4, hap, s0, s1, s2, s3, HX4⟩ := top_ap HB1 hb2 hb3 d0 d1 d2 hsz1 HNo HU4)
            | fail)
        obtain ⟨W, hW1, hW2⟩ := HX4.out.2
        obtain ⟨G2, C2, w5, hap2, hds5, hb5, _⟩ := HX4.out.1.text x.tx (by
          have h1 : (tops Lk).length ≤ Lk.length := List.length_filter_le _ _
          have := HPS.out.2.2
          rw [List.length_map]
          omega)
        have HD5 : Hid (DS w.heap.size w.heap.size D g c (Lk ++ [x]) ((tops (Lk ++ [x])).map (ndF smD)) ((tops (Lk ++ [x])).map Fl.tx) (.slice (some ⟨G, 0, none⟩) ((tops Lk).length + 1) C) (.slice (some ⟨G2, 0, none⟩) ((tops Lk).length + 1) C2) w5) := by
          have := hds5.top HDT.out
          rw [List.length_map, List.length_map] at this
          rw [HTop.out, List.map_append, List.map_append]
          exact this
        have HB5 : Hid (Below w.heap.size w w5) := ((HB.out.trans (hW1.mono hwz)).trans hW2).trans hb5
        clear hb2 hb3 hap hW1 hW2 hds5 hb5 s0 s2 d0 d1 d2 HX4 HNo HSu HKi
        go_wp2
        refine ⟨⟨k + 1, D, g, c, by omega, by go_num, ?_, HB5.out⟩, by simp [intOf]; omega⟩
        rw [HTK.out]
        exact HD5.out
    · obtain rfl : k = L.length := by omega
      have hDL := HD.out
      rw [List.take_length] at hDL
      have HDL : Hid (DS w.heap.size w.heap.size D g c L ((tops L).map (ndF smD)) ((tops L).map Fl.tx) u4 u5 wr) := hDL
      have hki : ¬ (L.length : Int) < (L.length : Int) := by omega
      clear hDL HD HL HLB
      obtain ⟨w0, rfl⟩ : ∃ w0, w0 = wr := ⟨wr, rfl⟩
      have hKe := keysS_any (some w.heap.size) w0
      have hmz : Maps.size D ≤ L.length := HDL.out.own.size_le
      have hSo := sortedS_any w.heap.size L.length D slcE w0 HDL.out.own (by have := HK.out.1; unfold maxLen; omega) (by have := HK.out.1; omega)
      have HKe : Hid (Calls Tryz.prog 67 #[.map (some w.heap.size)] w0 fun e w' => e = .returned (.func (.func 107) #[] #[.pointer (some ⟨w0.heap.size, 0, none⟩)]) ∧ w' = w0.alloc (.cells #[.map (some w.heap.size)] 103)) := hKe
      have HSo : Hid (Calls Tryz.prog 66 #[.func (.func 107) #[] #[.pointer (some ⟨w0.heap.size, 0, none⟩)]] (w0.alloc (.cells #[.map (some w.heap.size)] 103)) fun e w' => ∃ ka kc, e = .returned (.slice ka (names L).length kc) ∧ w'.ownsRow (w0.heap.size + 1) 9 1 (.slice ka (names L).length kc) (names L).length ((names L).map encStr) ∧ Below w0.heap.size w0 w') := by
        refine hSo.mono ?_
        rintro e w' ⟨v, ss, rfl, hp, hrow, _, hb⟩
        have hl : ss.length = (names L).length := by
          have := congrArg List.length (sorted_keys HDL.out.str HDL.out.has hp)
          rwa [(List.mergeSort_perm ss _).length_eq] at this
        rw [sorted_keys HDL.out.str HDL.out.has hp, hl, World.size_alloc] at hrow
        obtain ⟨ka, kc, rfl⟩ := own_shape hrow
        have hA : Below w0.heap.size w0 (w0.alloc (.cells #[.map (some w.heap.size)] 103)) := (Below.refl _ w0).alloc (Nat.le_refl _) _
        exact ⟨ka, kc, rfl, hrow, hA.trans (hb.mono hA.size)⟩
      clear hKe hSo hmz
      go_wp2_with fail
      refine HKe.out.mono ?_
      rintro e w' ⟨rfl, rfl⟩
      go_wp2_with fail
      refine HSo.out.mono ?_
      rintro e w1 ⟨ka, kc, rfl, hkr, hkb⟩
      have HKR : Hid (w1.ownsRow (w0.heap.size + 1) 9 1 (.slice ka (names L).length kc) (names L).length ((names L).map encStr)) := hkr
      have HS0 : Hid (PkM w.heap.size w.heap.size D g c n L w w1 (.slice ka (names L).length kc) u4 u5 (.int .i64 ((0 : Nat) : Int)) w1) := by
        refine ⟨0, by omega, rfl, ?_, HB.out.trans (hkb.mono hwz), fun x hx => ⟨rfl, ?_, ?_, (hkr.lt x hx).2⟩⟩
        · have e1 : nsK n L 0 = (tops L).map (ndF smD) := by simp [nsK]
          have e2 : bsK n L 0 = (tops L).map Fl.tx := by simp [bsK]
          rw [e1, e2]
          exact HDL.out.below hkb
        · intro e
          have := (HDL.out.nodes.lt x e).2
          have := (hkr.lt x hx).1
          omega
        · intro e
          have := (HDL.out.blobs.lt x e).2
          have := (hkr.lt x hx).1
          omega
      have HBK : Hid (Below w0.heap.size w0 w1) := hkb
      have hnl : ((names L).length : Int) ≤ 60 := by have := names_len L; have := HK.out.1; omega
      clear hkr hkb HKe HSo HDL
      go_wp2
      go_loopw [4, 5, 63] (fun nv bv i wr => PkM w.heap.size w.heap.size D g c n L w w1 (.slice ka (names L).length kc) nv bv i wr) (fun _ _ i _ => (names L).length - (intOf i).toNat)
      case atStart => exact HS0.out
      case round =>
        clear HS0
        obtain ⟨k, hk, rfl, hds, hb, hkv⟩ := hrel
        have HD : Hid (DS w.heap.size w.heap.size D g c L (nsK n L k) (bsK n L k) u4 u5 wr) := hds
        have HB2 : Hid (Below w.heap.size w wr) := hb
        have hwz2 := hb.size
        have HEB2 : Hid (Env wr) := HE.out.up hb
        by_cases hlt : k < (names L).length
        · have hki : (k : Int) < ((names L).length : Int) := by omega
          rcases HKR.out.2 with ⟨_, h0⟩ | ⟨kg, kc2, cur, hkv2, _, hkh, _⟩
          · exfalso; omega
          injection hkv2 with hka hx1 hx2
          subst hka
          clear hx1 hx2
          have hkc : wr.cell? ⟨kg, k, none⟩ = some (.string ⟨(names L)[k].toArray⟩) := by
            have h1 := HKR.out.cells (show (Value.slice (some ⟨kg, 0, none⟩) (names L).length kc).ownBlock = some kg from rfl) k (encStr (names L)[k]) (by simp [hlt])
            rw [add0] at h1
            exact (World.cell?_of_block (w := w1) (a := ⟨kg, k, none⟩) (hkv kg rfl).1).trans h1
          have hnm : (names L)[k] ∈ names L := List.getElem_mem hlt
          have hnl : (names L)[k].length ≤ 100 := by
            obtain ⟨f, hf, hd, hh⟩ := (names_mem L _).1 hnm
            have e := congrArg List.length (deep_sl hd).2
            rw [List.length_append, hh] at e
            have e1 : (pth f).length = f.pa.size := Array.length_toList
            have := pathOk_size (flE_pa (HK.out.2.1 f hf)).1
            omega
          have hss : (⟨(names L)[k].toArray⟩ : ByteArray).size ≤ maxLen := by show (names L)[k].toArray.size ≤ _; simp; unfold maxLen; omega
          obtain ⟨la, lc, hlk, hrow, hcase⟩ := hds.look ⟨(names L)[k].toArray⟩ hss
          rw [show (⟨(names L)[k].toArray⟩ : ByteArray).data.toList = (names L)[k] from by simp] at hlk hrow hcase
          have hlk0 := hlk wr rfl
          have hsub : sub (names L)[k] L ≠ [] := by
            obtain ⟨f, hf, hd, hh⟩ := (names_mem L _).1 hnm
            intro e
            have : subF f ∈ sub (names L)[k] L := List.mem_map.2 ⟨f, List.mem_filter.2 ⟨hf, by rw [hd, hh]; simp⟩, rfl⟩
            rw [e] at this
            cases this
          obtain ⟨n2, rfl⟩ : ∃ n2, n = n2 + 1 := by
            cases n with
            | zero =>
              exfalso
              obtain ⟨f, hf⟩ := List.exists_mem_of_ne_nil _ hsub
              have := sub_less HZ.out _ f hf
              omega
            | succ n => exact ⟨n, rfl⟩
          have HP : Hid (Calls Tryz.prog 27 #[.slice la (sub (names L)[k] L).length lc] wr (PkP (dirF smD (n2 + 1) (sub (names L)[k] L)) wr)) := IH.out la lc _ wr hsub (okT_sub HK.out _) (sub_less HZ.out _) (own_files hrow rfl) HEB2.out
          have HTS : Hid ((dirF smD (n2 + 1) (sub (names L)[k] L)).1.size ≤ 200016008) := txN_size smD smD_dig n2 (okT_sub HK.out _)
          have HN1 : Hid (nsK (n2 + 1) L (k + 1) = nsK (n2 + 1) L k ++ [ndM smD (names L)[k] (dirF smD (n2 + 1) (sub (names L)[k] L)).1]) := nsK_succ _ L k hlt
          have HN2 : Hid (bsK (n2 + 1) L (k + 1) = bsK (n2 + 1) L k ++ (dirF smD (n2 + 1) (sub (names L)[k] L)).2) := bsK_succ _ L k hlt
          have HN3 : Hid ((nsK (n2 + 1) L k).length ≤ 60) := by have := nsK_len (n2 + 1) L k; have := HK.out.1; show _ ≤ _; omega
          have HN4 : Hid ((bsK (n2 + 1) L k).length ≤ 60 + 60 * 60001) := by
            have h1 := bsK_len (n2 + 1) L HNN.out HK.out.1 k
            have h2 : k * 60001 ≤ 60 * 60001 := Nat.mul_le_mul_right _ (by have := names_len L; have := HK.out.1; omega)
            exact Nat.le_trans h1 (Nat.add_le_add_left h2 60)
          have HN5 : Hid (0 < (dirF smD (n2 + 1) (sub (names L)[k] L)).2.length ∧ (dirF smD (n2 + 1) (sub (names L)[k] L)).2.length ≤ 1000 * 60 + 1) := by
            refine ⟨dirF_pos smD n2 _, Nat.le_trans (dirF_len smD _ _) (Nat.add_le_add_right (Nat.mul_le_mul HNN.out ?_) 1)⟩
            have := sub_len (names L)[k] L
            have := HK.out.1
            omega
          have HKV : Hid (∀ x, (Value.slice (some ⟨kg, 0, none⟩) (names L).length kc).ownBlock = some x → wr.heap[x]? = w1.heap[x]? ∧ u4.ownBlock ≠ some x ∧ u5.ownBlock ≠ some x ∧ x < wr.heap.size) := hkv
          generalize (names L)[k] = nm at *
          generalize dirF smD (n2 + 1) (sub nm L) = dr at *
          generalize (sub nm L).length = sbl at *
          clear hds hb hkv hnm hnl hss hlk hrow hcase hsub hkh IH
          go_wp2_with fail
          refine HP.out.mono ?_
          rintro e w2 ⟨mv, rfl, hmr, hb2⟩
          have HMR : Hid (w2.ownsRow wr.heap.size 9 1 mv dr.2.length (dr.2.map Value.string)) := hmr
          have HB3 : Hid (Below wr.heap.size wr w2) := hb2
          have HSu : Hid (Calls Tryz.prog 16 #[.string dr.1] w2 fun e w' => e = .returned (.string (smD dr.1)) ∧ Below w2.heap.size w2 w') := Sm_any dr.1 w2 (by have := HTS.out; omega) (HEB2.out.up hb2)
          clear hmr hb2
          go_wp2_with fail
          refine HSu.out.mono ?_
          rintro e w3 ⟨rfl, hb3⟩
          have hB3 : Below wr.heap.size wr w3 := HB3.out.trans (hb3.mono HB3.out.size)
          obtain ⟨G, C, w4, hap, hds4, hb4, hk4⟩ := (HD.out.below hB3).node (⟨nm.toArray⟩, 3, smD dr.1) (by have := HN3.out; omega)
          obtain ⟨gm, cm, rfl, hgm1, hgm2⟩ := HMR.out.form HN5.out.1
          have hm4 : w4.ownsRow wr.heap.size 9 1 (.slice (some ⟨gm, 0, none⟩) dr.2.length cm) dr.2.length (dr.2.map Value.string) := row_heap HMR.out fun x hx => by
            have e : gm = x := by injection hx
            subst e
            refine (hk4 gm (Nat.lt_of_lt_of_le hgm2 hb3.size) (fun e => ?_)).1.trans (hb3.block gm hgm2)
            have := (HD.out.nodes.lt gm e).2
            omega
          obtain ⟨G2, C2, w5, hap2, hds5, hb5, hk5⟩ := hds4.texts dr.2 hm4 HN5.out.1 (by
            have h1 := HN4.out
            have h2 := HN5.out.2
            omega)
          simp only at hap
          have HD5 : Hid (DS w.heap.size w.heap.size D g c L (nsK (n2 + 1) L (k + 1)) (bsK (n2 + 1) L (k + 1)) (.slice (some ⟨G, 0, none⟩) ((nsK (n2 + 1) L k).length + 1) C) (.slice (some ⟨G2, 0, none⟩) ((bsK (n2 + 1) L k).length + dr.2.length) C2) w5) := by
            show DS _ _ _ _ _ _ _ _ _ _ _
            rw [HN1.out, HN2.out]
            exact hds5
          have HB5 : Hid (Below w.heap.size w w5) := ((HB2.out.trans (hB3.mono hwz2)).trans hb4).trans hb5
          have HKV5 : Hid (∀ x, (Value.slice (some ⟨kg, 0, none⟩) (names L).length kc).ownBlock = some x → w5.heap[x]? = w1.heap[x]? ∧ (Value.slice (some ⟨G, 0, none⟩) ((nsK (n2 + 1) L k).length + 1) C).ownBlock ≠ some x ∧ (Value.slice (some ⟨G2, 0, none⟩) ((bsK (n2 + 1) L k).length + dr.2.length) C2).ownBlock ≠ some x ∧ x < w5.heap.size) := fun x hx => by
            obtain ⟨v1, v2, v3, v4⟩ := HKV.out x hx
            have x3 : x < w3.heap.size := Nat.lt_of_lt_of_le v4 hB3.size
            have x4 : x < w4.heap.size := Nat.lt_of_lt_of_le x3 hb4.size
            obtain ⟨a1, a2⟩ := hk4 x x3 v2
            obtain ⟨b1, b2⟩ := hk5 x x4 v3
            exact ⟨((b1.trans a1).trans (hB3.block x v4)).trans v1, fun e => a2 (by injection e), fun e => b2 (by injection e), Nat.lt_of_lt_of_le x4 hb5.size⟩
          generalize (nsK (n2 + 1) L k).length = nl at *
          generalize (bsK (n2 + 1) L k).length = bl at *
          clear hB3 hds4 hb4 hk4 hm4 hds5 hb5 hk5 hb3 HMR HSu HP HN1 HN2
          go_wp2
          exact ⟨⟨k + 1, by omega, by go_num, HD5.out, HB5.out, HKV5.out⟩, by simp [intOf]; omega⟩
        · have hki : ¬ (k : Int) < ((names L).length : Int) := by omega
          have hnsE : nsK n L k = nsF smD n L := by
            unfold nsK nsF
            rw [List.take_of_length_le (by omega)]
          have hbsE : bsK n L k = (tops L).map Fl.tx ++ (names L).flatMap fun m => (dirF smD n (sub m L)).2 := by
            unfold bsK
            rw [List.take_of_length_le (by omega)]
          rw [hnsE] at hds
          have hnlen : (nsF smD n L).length ≤ 60 := by have := nsF_len smD n L; have := HK.out.1; omega
          have HSF : Hid (Calls Tryz.prog 68 #[u4, .func (.func 69) #[] #[]] wr fun e w' => e = .returned (.tuple #[]) ∧ w'.ownsRow w.heap.size 108 3 u4 (nsF smD n L).length (ndCells (sortN (nsF smD n L))) ∧ wr.grownBy w' u4.ownBlock) := sortNodes hds.nodes (nsF_nodup smD n HK.out) (by omega)
          have HDE : Hid (DS w.heap.size w.heap.size D g c L (nsF smD n L) (bsK n L k) u4 u5 wr) := hds
          have HBE : Hid (bsK n L k = (tops L).map Fl.tx ++ (names L).flatMap fun m => (dirF smD n (sub m L)).2) := hbsE
          have HBL : Hid ((bsK n L k).length ≤ 60 + 60 * 60001) := by
            have h1 := bsK_len n L HNN.out HK.out.1 k
            have h2 : k * 60001 ≤ 60 * 60001 := Nat.mul_le_mul_right _ (by have := names_len L; have := HK.out.1; omega)
            exact Nat.le_trans h1 (Nat.add_le_add_left h2 60)
          have HOK : Hid (neC (sortN (nsF smD n L)) = 0) := nsF_ok smD smD_dig n HK.out
          clear hds hb hkv hnsE hbsE hnlen IH HKR
          go_wp2_with fail
          refine HSF.out.mono ?_
          rintro e w2 ⟨rfl, hrow2, hg2⟩
          have hds2 := HDE.out.turnN (ns' := sortN (nsF smD n L)) (by rw [(sortN_perm _).length_eq]; exact hrow2) hg2
          have hNo := Nodes_yes u4 (sortN (nsF smD n L)) w2 HOK.out (own_nodes hds2.nodes (neC_ok HOK.out).1.1 (fun x hx => by
            obtain ⟨o1, o2, o3, o4⟩ := (neC_ok HOK.out).1.2 x hx
            exact ⟨by omega, o2, by omega, by omega⟩))
          have HNo : Hid (Calls Tryz.prog 70 #[u4] w2 fun e w' => e = .returned (.tuple #[.string (txN (nsF smD n L)), .int .i64 0]) ∧ Below w2.heap.size w2 w') := hNo
          have HD2 : Hid (DS w.heap.size w.heap.size D g c L (sortN (nsF smD n L)) (bsK n L k) u4 u5 w2) := hds2
          have HB3 : Hid (Below w.heap.size w w2) := HB2.out.grown hg2 hwz2 fun x hx => (HDE.out.nodes.lt x hx).1
          clear hrow2 hg2 hds2 hNo HSF HDE
          go_wp2_with fail
          refine HNo.out.mono ?_
          rintro e w3 ⟨rfl, hb3⟩
          obtain ⟨G, C, w4, hap, hds4, hb4, _⟩ := (HD2.out.below hb3).text (txN (nsF smD n L)) (by have := HBL.out; omega)
          have HF : Hid (w4.ownsRow w.heap.size 9 1 (.slice (some ⟨G, 0, none⟩) ((bsK n L k).length + 1) C) (dirF smD (n + 1) L).2.length ((dirF smD (n + 1) L).2.map Value.string) ∧ Below w.heap.size w w4 ∧ (dirF smD (n + 1) L).1 = txN (nsF smD n L)) := by
            refine ⟨?_, (HB3.out.trans (hb3.mono HB3.out.size)).trans hb4, rfl⟩
            have e : (dirF smD (n + 1) L).2 = bsK n L k ++ [txN (nsF smD n L)] := by
              rw [HBE.out]
              rfl
            rw [e]
            exact hds4.blobs
          generalize (bsK n L k).length = bl at *
          clear hb3 hds4 hb4 HNo HD2 HB3
          go_wp2
          refine bodyPost_ret (v := .tuple #[.string (txN (nsF smD n L)), .slice (some ⟨G, 0, none⟩) (bl + 1) C]) (by simp [results, Tryz.results27, go_sem]) rfl ?_
          exact ⟨_, by rw [HF.out.2.2], HF.out.1, HF.out.2.1⟩

/-- Packing, at whatever tree. -/
theorem packed_any : ∀ (n : Nat), n ≤ 1000 → ∀ (ao : Option Addr) (cap : Nat) (L : List Fl) (w : World), okT L → (∀ f ∈ L, f.pa.size < n + 1) → IsFl w ao L → Env w → Calls Tryz.prog 27 #[.slice ao L.length cap] w (PkP (dirF smD (n + 1) L) w)
  | 0, hn, ao, cap, L, w, hok, hsz, hl, he => packed_step 0 (fun _ _ K _ hne _ hs _ _ => by
      exfalso
      obtain ⟨f, hf⟩ := List.exists_mem_of_ne_nil K hne
      have := hs f hf
      omega) ao cap L w hn hok hsz hl he
  | n + 1, hn, ao, cap, L, w, hok, hsz, hl, he => packed_step (n + 1) (fun ao cap K W _ hok hs hl he => packed_any n (by omega) ao cap K W hok hs hl he) ao cap L w hn hok hsz hl he
/-- How a tree is packed, and its texts. -/
def pkT1 (L : List Fl) : ByteArray × List ByteArray := dirF smD 101 L
theorem packed_tree (ao : Option Addr) (cap : Nat) (L : List Fl) (w : World) (hok : okT L) (hl : IsFl w ao L) (he : Env w) : Calls Tryz.prog 27 #[.slice ao L.length cap] w (PkP (pkT1 L) w) :=
  packed_any 100 (by decide) ao cap L w hok (fun f hf => by have := pathOk_size (flE_pa (hok.2.1 f hf)).1; omega) hl he
end Go.Proofs.YtcdgdmhlbgbklaaGreatDoor

/- Root and Blobs. -/
namespace Go.Proofs.YtcdgdmhlbgbklaaGreatDoor
open Go.RowKit Go.Shelf Go.Maps Go.WideMaps Go.Sort
attribute [local go_sem ↓] appS_eq

theorem pkT1_size {L : List Fl} (h : okT L) : (pkT1 L).1.size ≤ 200016008 := txN_size smD smD_dig 100 h
theorem pkT1_len {L : List Fl} (h : okT L) : (pkT1 L).2.length ≤ 6061 := by
  have h1 := dirF_len smD 101 L
  have h2 : 101 * L.length ≤ 101 * 60 := Nat.mul_le_mul_left _ h.1
  exact Nat.le_trans h1 (Nat.add_le_add_right h2 1)

set_option maxHeartbeats 2000000 in
set_option maxRecDepth 100000 in
theorem Root_any (ao : Option Addr) (cap : Nat) (L : List Fl) (w : World) (hl : IsFl w ao L) (he : Env w) :
    Calls Tryz.prog 21 #[.slice ao L.length cap] w fun e w' => e = .returned (.tuple #[.string (if chF L = 0 then smD (pkT1 L).1 else ⟨#[]⟩), .int .i64 (chF L)]) ∧ Below w.heap.size w w' := by
  have HC : Hid (Calls Tryz.prog 26 #[.slice ao L.length cap] w fun e w' => e = .returned (.int .i64 (chF L)) ∧ Below w.heap.size w w') := Check_any ao cap L w hl he.1
  by_cases h0 : chF L = 0
  · rw [if_pos h0]
    have hok := okT_of h0
    rw [h0] at HC ⊢
    have HP : Hid (∀ W, Below w.heap.size w W → Calls Tryz.prog 27 #[.slice ao L.length cap] W (PkP (pkT1 L) W)) := fun W hW => packed_tree ao cap L W hok (hl.below hW (Nat.le_refl _)) (he.up hW)
    have HS : Hid (∀ W, Below w.heap.size w W → Calls Tryz.prog 16 #[.string (pkT1 L).1] W fun e w' => e = .returned (.string (smD (pkT1 L).1)) ∧ Below W.heap.size W w') := fun W hW => Sm_any _ W (by have := pkT1_size hok; omega) (he.up hW)
    clear hl he hok h0
    generalize pkT1 L = r at *
    go_enter Tryz.func21, Tryz.ntmps21
    go_wp2_with fail
    refine HC.out.mono ?_
    rintro e w1 ⟨rfl, hb1⟩
    go_wp2_with fail
    refine (HP.out _ hb1).mono ?_
    rintro e w2 ⟨bv, rfl, _, hb2⟩
    have hb3 : Below w.heap.size w w2 := hb1.trans (hb2.mono hb1.size)
    go_wp2_with fail
    refine (HS.out _ hb3).mono ?_
    rintro e w3 ⟨rfl, hb4⟩
    have HB : Hid (Below w.heap.size w w3) := hb3.trans (hb4.mono hb3.size)
    clear hb1 hb2 hb3 hb4
    go_wp2
    refine bodyPost_ret (v := .tuple #[.string (smD r.1), .int .i64 0]) (by simp [results, Tryz.results21, go_sem]) rfl ?_
    exact ⟨rfl, HB.out⟩
  · rw [if_neg h0]
    clear hl he
    generalize chF L = c at *
    have h0' : (c != 0) = true := by simpa using h0
    clear h0
    go_enter Tryz.func21, Tryz.ntmps21
    go_wp2_with fail
    refine HC.out.mono ?_
    rintro e w1 ⟨rfl, hb1⟩
    have HB : Hid (Below w.heap.size w w1) := hb1
    clear hb1
    go_wp2
    refine bodyPost_ret (v := .tuple #[.string ⟨#[]⟩, .int .i64 c]) (by simp [results, Tryz.results21, go_sem]) rfl ?_
    exact ⟨rfl, HB.out⟩

/-- A tree's texts, rising, each once. -/
def blF (L : List Fl) : List (List UInt8) := Lib.compact (((pkT1 L).2.map fun b => b.data.toList).mergeSort fun x y => decide (x ≤ y))
theorem strsE (l : List ByteArray) : l.map Value.string = (l.map fun b => b.data.toList).map encStr := by
  rw [List.map_map]
  refine List.map_congr_left fun b _ => ?_
  show Value.string b = Value.string ⟨b.data.toList.toArray⟩
  rw [Array.toArray_toList]
theorem row_cut {w : World} {base g cap n m : Nat} {e : TypeId} {xs ys : List Value} (h : w.ownsRow base e 1 (.slice (some ⟨g, 0, none⟩) n cap) n (xs ++ ys)) (hm : xs.length = m) : w.ownsRow base e 1 (.slice (some ⟨g, 0, none⟩) m cap) m xs := by
  have hl := h.1
  rw [List.length_append] at hl
  refine ⟨by omega, ?_⟩
  rcases h.2 with ⟨h1, _⟩ | ⟨g2, cap2, cur, hv, hb, hh, h1, h2, h3, h4⟩
  · cases h1
  · injection hv with hv _ hv2
    injection hv with hv
    injection hv with hv
    subst hv hv2
    refine .inr ⟨g, cap, cur, rfl, hb, hh, by omega, h2, h3, ?_⟩
    have := congrArg (List.take (m * 1)) h4
    rw [List.take_take, show min (m * 1) (n * 1) = m * 1 from by omega] at this
    rw [this, List.take_append_of_le_length (by omega), List.take_of_length_le (by omega)]
theorem compact_len {α : Type} [Inhabited α] [DecidableEq α] (l : List α) : (Lib.compact l).length ≤ l.length := by
  unfold Lib.compact Lib.compactUpTo
  rw [List.length_map]
  exact Nat.le_trans (List.length_filter_le _ _) (by simp)

/-- Sorting, and then taking each once. -/
theorem sort_row {w : World} {base g cap : Nat} (ss : List (List UInt8)) (h : w.ownsRow base 9 1 (.slice (some ⟨g, 0, none⟩) ss.length cap) ss.length (ss.map encStr)) (hn : ss.length ≤ 1000000) :
    Calls Tryz.prog 28 #[.slice (some ⟨g, 0, none⟩) ss.length cap] w fun e w' => e = .returned (.tuple #[]) ∧ w'.ownsRow base 9 1 (.slice (some ⟨g, 0, none⟩) ss.length cap) ss.length ((ss.mergeSort fun x y => decide (x ≤ y)).map encStr) ∧ w.grownBy w' (some g) := by
  rcases h.2 with ⟨h1, _⟩ | ⟨g2, cap2, cur, hv, hbase, hb, h1, h2, h3, h4⟩
  · cases h1
  · injection hv with hv _ hv2
    injection hv with hv
    injection hv with hv
    subst hv hv2
    refine (sortS_any g 0 cap ss w (holds_of_block hb (by simpa using h4)) (Array.getElem?_eq_some_iff.1 hb).1 (by omega)).mono ?_
    rintro e w' ⟨rfl, n, os, rfl⟩
    exact ⟨rfl, ownsRow_sorted (by simp) hbase hb h1 h2 h3, grownBy_sorted _⟩
theorem comp_row {w : World} {base g cap : Nat} (ss : List (List UInt8)) (h : w.ownsRow base 9 1 (.slice (some ⟨g, 0, none⟩) ss.length cap) ss.length (ss.map encStr)) (hn : ss.length ≤ 1000000) :
    Calls Tryz.prog 29 #[.slice (some ⟨g, 0, none⟩) ss.length cap] w fun e w' => e = .returned (.slice (some ⟨g, 0, none⟩) (Lib.compact ss).length cap) ∧ w'.ownsRow base 9 1 (.slice (some ⟨g, 0, none⟩) (Lib.compact ss).length cap) (Lib.compact ss).length ((Lib.compact ss).map encStr) ∧ w.grownBy w' (some g) := by
  rcases h.2 with ⟨h1, _⟩ | ⟨g2, cap2, cur, hv, hbase, hb, h1, h2, h3, h4⟩
  · cases h1
  · injection hv with hv _ hv2
    injection hv with hv
    injection hv with hv
    subst hv hv2
    refine (Any.slices_Compact_string laysComp g 0 cap ss w (holds_of_block hb (by simpa using h4)) (by omega) h1).mono ?_
    rintro e w' ⟨rfl, q, rfl⟩
    have hl := compact_len ss
    have k1 := ownsRow_sorted (n := q) (os := #[]) (ss := ss) (ts := Lib.compact ss ++ List.replicate (ss.length - (Lib.compact ss).length) []) (by simp; omega) hbase hb h1 h2 h3
    have k2 := grownBy_sorted (w := w) (g := g) (n := q) (os := #[]) (Lib.compact ss ++ List.replicate (ss.length - (Lib.compact ss).length) []).toArray
    rw [grow_empty] at k1 k2
    rw [List.map_append] at k1
    exact ⟨rfl, row_cut k1 (by simp), k2⟩

/-- How Blobs ends. -/
def BlP (L : List Fl) (w : World) (e : Ending) (w' : World) : Prop := ∃ v, e = .returned (.tuple #[v, .int .i64 (chF L)]) ∧ (chF L = 0 → w'.ownsRow w.heap.size 9 1 v (blF L).length ((blF L).map encStr)) ∧ (chF L ≠ 0 → v = .slice none 0 0) ∧ Below w.heap.size w w'

set_option maxHeartbeats 2000000 in
set_option maxRecDepth 100000 in
theorem Blobs_any (ao : Option Addr) (cap : Nat) (L : List Fl) (w : World) (hl : IsFl w ao L) (he : Env w) :
    Calls Tryz.prog 8 #[.slice ao L.length cap] w (BlP L w) := by
  have HC : Hid (Calls Tryz.prog 26 #[.slice ao L.length cap] w fun e w' => e = .returned (.int .i64 (chF L)) ∧ Below w.heap.size w w') := Check_any ao cap L w hl he.1
  by_cases h0 : chF L = 0
  · have hok := okT_of h0
    have H0 : Hid (chF L = 0) := h0
    rw [h0] at HC
    have HP : Hid (∀ W, Below w.heap.size w W → Calls Tryz.prog 27 #[.slice ao L.length cap] W (PkP (pkT1 L) W)) := fun W hW => packed_tree ao cap L W hok (hl.below hW (Nat.le_refl _)) (he.up hW)
    have HL : Hid (0 < (pkT1 L).2.length ∧ (pkT1 L).2.length ≤ 6061) := ⟨dirF_pos smD 100 L, pkT1_len hok⟩
    clear hl he hok h0
    go_enter Tryz.func8, Tryz.ntmps8
    go_wp2_with fail
    refine HC.out.mono ?_
    rintro e w1 ⟨rfl, hb1⟩
    go_wp2_with fail
    refine (HP.out _ hb1).mono ?_
    rintro e w2 ⟨bv, rfl, hrow, hb2⟩
    obtain ⟨g, bc, rfl, hg1, hg2⟩ := hrow.form HL.out.1
    have hl1 : (pkT1 L).2.length = ((pkT1 L).2.map fun b => b.data.toList).length := by simp
    rw [strsE, hl1] at hrow
    have hln := HL.out.2
    rw [hl1] at hln
    have hsz := hb1.size
    have hS := sort_row _ hrow (by omega)
    rw [← hl1] at hS
    have HS : Hid (Calls Tryz.prog 28 #[.slice (some ⟨g, 0, none⟩) (pkT1 L).2.length bc] w2 fun e w' => e = .returned (.tuple #[]) ∧ w'.ownsRow w1.heap.size 9 1 (.slice (some ⟨g, 0, none⟩) (pkT1 L).2.length bc) (pkT1 L).2.length ((((pkT1 L).2.map fun b => b.data.toList).mergeSort fun x y => decide (x ≤ y)).map encStr) ∧ w2.grownBy w' (some g)) := hS
    have HB2 : Hid (Below w.heap.size w w2) := hb1.trans (hb2.mono hsz)
    clear hb1 hb2 hrow hS hl1 hln
    go_wp2_with fail
    refine HS.out.mono ?_
    rintro e w3 ⟨rfl, hrow3, hg3⟩
    have hl2 : (pkT1 L).2.length = (((pkT1 L).2.map fun b => b.data.toList).mergeSort fun x y => decide (x ≤ y)).length := by simp
    rw [hl2] at hrow3
    have hC := comp_row _ hrow3 (by rw [← hl2]; have := HL.out.2; omega)
    rw [← hl2] at hC
    have HCo : Hid (Calls Tryz.prog 29 #[.slice (some ⟨g, 0, none⟩) (pkT1 L).2.length bc] w3 fun e w' => e = .returned (.slice (some ⟨g, 0, none⟩) (blF L).length bc) ∧ w'.ownsRow w1.heap.size 9 1 (.slice (some ⟨g, 0, none⟩) (blF L).length bc) (blF L).length ((blF L).map encStr) ∧ w3.grownBy w' (some g)) := hC
    have HB3 : Hid (Below w.heap.size w w3) := HB2.out.grown hg3 HB2.out.size fun k hk => by injection hk with hk; omega
    clear hrow3 hg3 hC hl2
    go_wp2_with fail
    refine HCo.out.mono ?_
    rintro e w4 ⟨rfl, hrow4, hg4⟩
    have HB4 : Hid (Below w.heap.size w w4) := HB3.out.grown hg4 HB3.out.size fun k hk => by injection hk with hk; omega
    have HR4 : Hid (w4.ownsRow w1.heap.size 9 1 (.slice (some ⟨g, 0, none⟩) (blF L).length bc) (blF L).length ((blF L).map encStr)) := hrow4
    clear hrow4 hg4
    go_wp2
    refine bodyPost_ret (v := .tuple #[.slice (some ⟨g, 0, none⟩) (blF L).length bc, .int .i64 0]) (by simp [results, Tryz.results8, go_sem]) rfl ?_
    exact ⟨_, by rw [H0.out], fun _ => own_mono HR4.out hsz, fun h => absurd H0.out h, HB4.out⟩
  · clear hl he
    have H0 : Hid (chF L ≠ 0) := h0
    obtain ⟨c, hc⟩ : ∃ c, chF L = c := ⟨_, rfl⟩
    have HCE : Hid (chF L = c) := hc
    rw [hc] at HC h0
    have h0' : (c != 0) = true := by simpa using h0
    clear h0 hc
    go_enter Tryz.func8, Tryz.ntmps8
    go_wp2_with fail
    refine HC.out.mono ?_
    rintro e w1 ⟨rfl, hb1⟩
    have HB : Hid (Below w.heap.size w w1) := hb1
    clear hb1
    go_wp2
    refine bodyPost_ret (v := .tuple #[.slice none 0 0, .int .i64 c]) (by simp [results, Tryz.results8, go_sem]) rfl ?_
    exact ⟨_, by rw [HCE.out], fun h => absurd h H0.out, fun _ => rfl, HB.out⟩
end Go.Proofs.YtcdgdmhlbgbklaaGreatDoor

/- A tree flattened, plain: which files each node stands for. -/
namespace Go.Proofs.YtcdgdmhlbgbklaaGreatDoor
open Go.RowKit Go.Shelf Go.Maps Go.WideMaps

theorem fm_congr {α β : Type} {f g : α → List β} : ∀ {l : List α}, (∀ x ∈ l, f x = g x) → l.flatMap f = l.flatMap g
  | [], _ => rfl
  | x :: l, h => by rw [List.flatMap_cons, List.flatMap_cons, h x (by simp), fm_congr fun y hy => h y (by simp [hy])]
theorem filt_two {α : Type} (p : α → Bool) : ∀ L : List α, (L.filter p ++ L.filter fun x => !p x).Perm L
  | [] => .refl _
  | x :: l => by
    cases h : p x
    · rw [List.filter_cons_of_neg (by rw [h]; decide), List.filter_cons_of_pos (by rw [h]; decide)]
      exact (List.perm_middle).trans ((filt_two p l).cons x)
    · rw [List.filter_cons_of_pos h, List.filter_cons_of_neg (by rw [h]; decide)]
      exact (filt_two p l).cons x
theorem part_perm {α κ : Type} [DecidableEq κ] (key : α → κ) : ∀ (K : List κ), K.Nodup → ∀ L : List α, (∀ x ∈ L, key x ∈ K) → (K.flatMap fun k => L.filter fun x => decide (key x = k)).Perm L
  | [], _, L, h => by
    cases L with
    | nil => exact .refl _
    | cons x l => exact absurd (h x (by simp)) (by simp)
  | k :: K, hn, L, h => by
    rw [List.nodup_cons] at hn
    have h2 := part_perm key K hn.2 (L.filter fun x => !decide (key x = k)) (fun x hx => by
      rw [List.mem_filter] at hx
      rcases List.mem_cons.1 (h x hx.1) with e | e
      · rw [e] at hx; simp at hx
      · exact e)
    have e : (K.flatMap fun k' => (L.filter fun x => !decide (key x = k)).filter fun x => decide (key x = k')) = K.flatMap fun k' => L.filter fun x => decide (key x = k') := by
      refine fm_congr fun k' hk' => ?_
      rw [List.filter_filter]
      refine List.filter_congr fun x _ => ?_
      by_cases e : key x = k'
      · have : key x ≠ k := fun e2 => hn.1 (by rw [← e2, e]; exact hk')
        simp [e] at this ⊢
        exact fun e3 => this e3
      · simp [e]
    rw [e] at h2
    rw [List.flatMap_cons]
    exact (h2.append_left _).trans (filt_two (fun x => decide (key x = k)) L)

/-- A file further in. -/
def addP (a : ByteArray) (f : Fl) : Fl := ⟨⟨(a.data.toList ++ pth f).toArray⟩, f.tx, f.rn⟩
/-- The files that a node stands for. -/
def filesOf (a : ByteArray) (L : List Fl) (m : List UInt8) : List Fl := (L.filter fun f => decide (hdF f = m)).map (addP a)

section
variable (sm : ByteArray → ByteArray)
theorem keys_mem (n : Nat) (L : List Fl) {f : Fl} (hf : f ∈ L) : hdF f ∈ (sortN (nsF sm n L)).map kyN := by
  have hp : ((sortN (nsF sm n L)).map kyN).Perm ((tops L).map pth ++ names L) := by
    rw [← nsF_keys sm n L]
    exact (sortN_perm _).map kyN
  rw [hp.mem_iff, List.mem_append]
  cases hd : deepF f with
  | true => exact .inr ((names_mem L _).2 ⟨f, hf, hd, rfl⟩)
  | false =>
    refine .inl (List.mem_map.2 ⟨f, List.mem_filter.2 ⟨hf, by rw [hd]; rfl⟩, ?_⟩)
    unfold hdF
    rw [top_sl hd]
theorem all_files (n : Nat) {L : List Fl} (h : okT L) (a : ByteArray) : ((sortN (nsF sm n L)).flatMap fun x => filesOf a L (kyN x)).Perm (L.map (addP a)) := by
  have hn : ((sortN (nsF sm n L)).map kyN).Nodup := ((sortN_perm _).map kyN).nodup_iff.2 (nsF_nodup sm n h)
  have h1 := part_perm hdF ((sortN (nsF sm n L)).map kyN) hn L (fun f hf => keys_mem sm n L hf)
  rw [List.flatMap_map] at h1
  have h2 := h1.map (addP a)
  rw [List.map_flatMap] at h2
  exact h2
theorem some_files (n : Nat) {L : List Fl} (h : okT L) (a : ByteArray) (k : Nat) : (((sortN (nsF sm n L)).take k).flatMap fun x => filesOf a L (kyN x)).length ≤ L.length := by
  have h1 := (all_files sm n h a).length_eq
  rw [List.length_map] at h1
  rw [← h1]
  conv => rhs; rw [← List.take_append_drop k (sortN (nsF sm n L)), List.flatMap_append, List.length_append]
  omega
/-- A node is a file's, or a directory's. -/
theorem node_cases (n : Nat) {L : List Fl} (h : okT L) {x : Nd} (hx : x ∈ sortN (nsF sm n L)) (a : ByteArray) :
    (∃ f, f ∈ L ∧ deepF f = false ∧ x = ndF sm f ∧ filesOf a L (kyN x) = [addP a f]) ∨
    (∃ m, m ∈ names L ∧ x = ndM sm m (dirF sm n (sub m L)).1 ∧ filesOf a L (kyN x) = (sub m L).map (addP ⟨(a.data.toList ++ (m ++ [47])).toArray⟩)) := by
  have hx2 : x ∈ nsF sm n L := (sortN_perm _).mem_iff.1 hx
  have hnd := nsF_nodup sm n h
  rw [nsF_keys, List.nodup_append] at hnd
  unfold nsF at hx2
  rcases List.mem_append.1 hx2 with hx2 | hx2
  · obtain ⟨f, hf, rfl⟩ := List.mem_map.1 hx2
    have hf2 := hf
    unfold tops at hf2
    rw [List.mem_filter] at hf2
    have hd : deepF f = false := by simpa using hf2.2
    refine .inl ⟨f, hf2.1, hd, rfl, ?_⟩
    unfold filesOf
    have e : (L.filter fun g => decide (hdF g = kyN (ndF sm f))) = (tops L).filter fun g => decide (pth g = pth f) := by
      unfold tops
      rw [List.filter_filter]
      refine List.filter_congr fun g hg => ?_
      cases hdg : deepF g with
      | false =>
        have : hdF g = pth g := by unfold hdF; rw [top_sl hdg]
        rw [this]
        simp [kyN, ndF, pth]
      | true =>
        have : ¬ hdF g = pth f := fun e => hnd.2.2 (pth f) (List.mem_map.2 ⟨f, hf, rfl⟩) (hdF g) ((names_mem L _).2 ⟨g, hg, hdg, rfl⟩) e.symm
        have e2 : kyN (ndF sm f) = pth f := rfl
        rw [e2]
        simp [this]
    rw [e]
    have e3 : (tops L).filter (fun g => decide (pth g = pth f)) = [f] := by
      have hp := hnd.1
      obtain ⟨i, hi, rfl⟩ := List.getElem_of_mem hf
      have : ∀ l : List Fl, (l.map pth).Nodup → ∀ (i : Nat) (hi : i < l.length), l.filter (fun g => decide (pth g = pth l[i])) = [l[i]] := by
        intro l
        induction l with
        | nil => intro _ i hi; simp at hi
        | cons y l ih =>
          intro hn i hi
          rw [List.map_cons, List.nodup_cons] at hn
          cases i with
          | zero =>
            rw [List.filter_cons_of_pos (by simp)]
            have : l.filter (fun g => decide (pth g = pth (y :: l)[0])) = [] := by
              rw [List.filter_eq_nil_iff]
              intro g hg
              simp only [decide_eq_true_eq, List.getElem_cons_zero]
              exact fun e => hn.1 (List.mem_map.2 ⟨g, hg, e⟩)
            rw [this]
            rfl
          | succ i =>
            have hi2 : i < l.length := by simpa using hi
            rw [List.filter_cons_of_neg]
            · exact ih hn.2 i hi2
            · simp only [decide_eq_true_eq, List.getElem_cons_succ]
              exact fun e => hn.1 (List.mem_map.2 ⟨l[i], List.getElem_mem hi2, e.symm⟩)
      exact this (tops L) hp i hi
    rw [e3]
    rfl
  · obtain ⟨m, hm, rfl⟩ := List.mem_map.1 hx2
    refine .inr ⟨m, hm, rfl, ?_⟩
    unfold filesOf sub
    rw [List.map_map]
    have e : (L.filter fun g => decide (hdF g = kyN (ndM sm m (dirF sm n (sub m L)).1))) = L.filter fun g => deepF g && decide (hdF g = m) := by
      refine List.filter_congr fun g hg => ?_
      have e2 : kyN (ndM sm m (dirF sm n (sub m L)).1) = m := by simp [kyN, ndM]
      rw [e2]
      cases hdg : deepF g with
      | true => simp
      | false =>
        have e3 : hdF g = pth g := by unfold hdF; rw [top_sl hdg]
        have : ¬ hdF g = m := fun e => hnd.2.2 (pth g) (List.mem_map.2 ⟨g, List.mem_filter.2 ⟨hg, by rw [hdg]; rfl⟩, rfl⟩) m hm (by rw [← e3]; exact e)
        simp [this]
    unfold sub at e
    rw [e]
    refine List.map_congr_left fun g hg => ?_
    rw [List.mem_filter, Bool.and_eq_true, decide_eq_true_eq] at hg
    show addP a g = addP ⟨(a.data.toList ++ (m ++ [47])).toArray⟩ (subF g)
    unfold addP
    have e4 := (deep_sl hg.2.1).2
    rw [hg.2.2] at e4
    rw [subF_tx]
    have e5 : (subF g).rn = g.rn := by unfold subF; cases sl (pth g) <;> rfl
    rw [e5, e4]
    simp
theorem nsF_ne {n : Nat} {L : List Fl} (h : L ≠ []) : 0 < (nsF sm n L).length := by
  obtain ⟨f, hf⟩ := List.exists_mem_of_ne_nil L h
  have := keys_mem sm n L hf
  obtain ⟨x, hx, _⟩ := List.mem_map.1 this
  have hx2 := (sortN_perm (nsF sm n L)).mem_iff.1 hx
  exact List.length_pos_of_mem hx2
theorem sub_texts (n : Nat) (L : List Fl) {m : List UInt8} (hm : m ∈ names L) : ∀ t ∈ (dirF sm n (sub m L)).2, t ∈ (dirF sm (n + 1) L).2 := fun t ht => by
  rw [dirF_succ]
  simp only [List.mem_append]
  exact .inl (.inr (List.mem_flatMap.2 ⟨m, hm, ht⟩))
theorem top_text (n : Nat) (L : List Fl) {f : Fl} (hf : f ∈ L) (hd : deepF f = false) : f.tx ∈ (dirF sm (n + 1) L).2 := by
  rw [dirF_succ]
  simp only [List.mem_append]
  exact .inl (.inl (List.mem_map.2 ⟨f, List.mem_filter.2 ⟨hf, by rw [hd]; rfl⟩, rfl⟩))
theorem own_text (n : Nat) (L : List Fl) : (dirF sm (n + 1) L).1 ∈ (dirF sm (n + 1) L).2 := by
  rw [dirF_succ]
  simp
end
end Go.Proofs.YtcdgdmhlbgbklaaGreatDoor

/- A tree is flattened: the walk in memory; a text by its digest; the nodes of a directory. -/
namespace Go.Proofs.YtcdgdmhlbgbklaaGreatDoor
open Go.RowKit Go.Shelf Go.Maps Go.WideMaps Go.Sort
attribute [local go_sem ↓] appS_eq

/-- Texts that lie in a row from ao on. -/
def IsTx (w : World) (ao : Option Addr) (bs : List ByteArray) : Prop := bs = [] ∨ ∃ g o, ao = some ⟨g, o, none⟩ ∧ ∀ j (hj : j < bs.length), w.cell? ⟨g, o + j, none⟩ = some (.string bs[j])
/-- A walk: its texts, where each stands by its digest, the files that were met. -/
structure WS (B P M : Nat) (D : DataW Unit) (ba : Option Addr) (bc : Nat) (bs : List ByteArray) (F : List Fl) (fv : Value) (w : World) : Prop where
  blk : w.heap[P]? = some (.cells #[.slice ba bs.length bc, .map (some M), fv] 95 (0, 0))
  own : w.ownsMap Tryz.prog 9 (plainElem Tryz.prog 3) M bs.length D
  tx : bs = [] ∨ ∃ g o, ba = some ⟨g, o, none⟩ ∧ g < B ∧ ∀ j (hj : j < bs.length), w.cell? ⟨g, o + j, none⟩ = some (.string bs[j])
  files : w.ownsRow B 48 3 fv F.length (flCells F)
  ne : P ≠ M
  fP : fv.ownBlock ≠ some P
  fM : fv.ownBlock ≠ some M
  loP : B ≤ P
  loM : B ≤ M
/-- What a step of the walk leaves as it was. -/
structure FR (P : Nat) (fv fv' : Value) (w w' : World) : Prop where
  os : w'.os = w.os
  tape : w'.tape = w.tape
  output : w'.output = w.output
  size : w.heap.size ≤ w'.heap.size
  blk : ∀ b, b < w.heap.size → b ≠ P → fv.ownBlock ≠ some b → w'.heap[b]? = w.heap[b]?
  own : ∀ b, b < w.heap.size → fv.ownBlock ≠ some b → fv'.ownBlock ≠ some b
theorem FR.trans {P : Nat} {a b c : Value} {w w1 w2 : World} (h : FR P a b w w1) (k : FR P b c w1 w2) : FR P a c w w2 :=
  ⟨k.os.trans h.os, k.tape.trans h.tape, k.output.trans h.output, Nat.le_trans h.size k.size, fun x hx hP hne => (k.blk x (Nat.lt_of_lt_of_le hx h.size) hP (h.own x hx hne)).trans (h.blk x hx hP hne), fun x hx hne => k.own x (Nat.lt_of_lt_of_le hx h.size) (h.own x hx hne)⟩
theorem FR.of_below {P : Nat} {a : Value} {w w1 : World} (h : Below w.heap.size w w1) : FR P a a w w1 := ⟨h.os, h.tape, h.output, h.size, fun x hx _ _ => h.block x hx, fun _ _ hne => hne⟩

section
variable {B P M : Nat} {D : DataW Unit} {ba : Option Addr} {bc : Nat} {bs : List ByteArray} {F : List Fl} {fv : Value} {w w' : World}

theorem WS.lt (h : WS B P M D ba bc bs F fv w) : P < w.heap.size := (Array.getElem?_eq_some_iff.1 h.blk).1
theorem WS.below (h : WS B P M D ba bc bs F fv w) (hb : Below w.heap.size w w') : WS B P M D ba bc bs F fv w' := by
  refine ⟨(hb.block P h.lt).trans h.blk, ownsMap_heap h.own (hb.block M h.own.lt), ?_, row_heap h.files fun x hx => hb.block x (h.files.lt x hx).2, h.ne, h.fP, h.fM, h.loP, h.loM⟩
  rcases h.tx with h1 | ⟨g, o, h1, h2, h3⟩
  · exact .inl h1
  · exact .inr ⟨g, o, h1, h2, fun j hj => (hb.cell (p := ⟨g, o + j, none⟩) (by show g < _; have := h.loP; have := h.lt; omega)).trans (h3 j hj)⟩
theorem WS.c0 (h : WS B P M D ba bc bs F fv w) : w.cell? ⟨P, 0, none⟩ = some (.slice ba bs.length bc) := by rw [Lib.cell_of_heap h.blk]; rfl
theorem WS.c1 (h : WS B P M D ba bc bs F fv w) : w.cell? ⟨P, 1, none⟩ = some (.map (some M)) := by rw [Lib.cell_of_heap h.blk]; rfl
theorem WS.c2 (h : WS B P M D ba bc bs F fv w) : w.cell? ⟨P, 2, none⟩ = some fv := by rw [Lib.cell_of_heap h.blk]; rfl

/-- A text is found by its digest. -/
def Finds (bs : List ByteArray) (D : DataW Unit) (t : ByteArray) : Prop := ∃ (i : Nat) (hi : i < bs.length), bs[i] = t ∧ Maps.has D (.string (smD t).data.toList) = true ∧ D.atKey (.string (smD t).data.toList) (.lit (.int .i64 0)) = .lit (.int .i64 (i : Int))
theorem smD_size (t : ByteArray) : (smD t).size = 64 := by
  have := smD_dig t
  unfold digOk at this
  rw [Bool.and_eq_true] at this
  exact of_decide_eq_true this.1
theorem zeroIn (w : World) : (zeroValue 3).run Tryz.prog w = .ok (.int .i64 0) w := by kernel_rfl

set_option maxHeartbeats 2000000 in
set_option maxRecDepth 100000 in
theorem text_ok (h : WS B P M D ba bc bs F fv w) (t : ByteArray) (hf : Finds bs D t) :
    Calls Tryz.prog 139 #[.pointer (some ⟨P, 0, none⟩), .string (smD t)] w fun e w' => e = .returned (.tuple #[.string t, .int .i64 0]) ∧ w' = w := by
  obtain ⟨i, hi, ht, hh, hat⟩ := hf
  obtain ⟨v, ps, hrun, hv⟩ := h.own.look_ok lawS Tryz.underlying93 (zeroIn w) (plainElem_int Tryz.underlying3 (by decide)) (keyOf_string_mk Tryz.underlying9 (s := smD t) (by rw [smD_size]; decide))
  rw [hat] at hv
  rw [hh] at hrun
  obtain ⟨a, rfl, hz, _⟩ := plainElem_int_inv Tryz.underlying3 hv
  injection hz with hz _
  injection hz with hz
  injection hz with _ hz
  subst hz
  have c0 := h.c0
  have c1 := h.c1
  rcases h.tx with h1 | ⟨g, o, rfl, h2, h3⟩
  · exfalso; rw [h1] at hi; exact absurd hi (by simp)
  have c3 := h3 i hi
  rw [ht] at c3
  have hi2 : (i : Int) < (bs.length : Int) := by omega
  clear h hh hat hv ht h3
  generalize smD t = d at *
  go_enter Tryz.func139, Tryz.ntmps139
  go_wp2
  refine bodyPost_ret (v := .tuple #[.string t, .int .i64 0]) (by simp [results, Tryz.results139, go_sem]) rfl ?_
  exact ⟨rfl, rfl⟩

/-- How the nodes of a directory come. -/
def NdP (l : List Nd) (w : World) (e : Ending) (w' : World) : Prop := ∃ na nc, e = .returned (.tuple #[.slice na l.length nc, .int .i64 0]) ∧ w'.ownsRow w.heap.size 108 3 (.slice na l.length nc) l.length (ndCells l) ∧ Below w.heap.size w w'

set_option maxHeartbeats 2000000 in
set_option maxRecDepth 100000 in
theorem nodes_ok (h : WS B P M D ba bc bs F fv w) (t : ByteArray) (hf : Finds bs D t) (l : List Nd) (hs : t.size ≤ maxLen) (hok : neC l = 0) (ht : t.data.toList = pk l.length ++ pkDD l) :
    Calls Tryz.prog 96 #[.pointer (some ⟨P, 0, none⟩), .string (smD t)] w (NdP l w) := by
  have HT : Hid (Calls Tryz.prog 139 #[.pointer (some ⟨P, 0, none⟩), .string (smD t)] w fun e w' => e = .returned (.tuple #[.string t, .int .i64 0]) ∧ w' = w) := text_ok h t hf
  have HR : Hid (Calls Tryz.prog 140 #[.string t] w fun e w' => ∃ v, e = .returned (.tuple #[v, .int .i64 0]) ∧ w'.ownsRow w.heap.size 108 3 v l.length (ndCells l) ∧ Below w.heap.size w w') := ReadNodes_pk t w l hs hok ht
  clear h hf hs hok ht
  go_enter Tryz.func96, Tryz.ntmps96
  go_wp2_with fail
  refine HT.out.mono ?_
  rintro e w1 ⟨rfl, rfl⟩
  go_wp2_with fail
  refine HR.out.mono ?_
  rintro e w2 ⟨v, rfl, hrow, hb⟩
  obtain ⟨na, nc, rfl⟩ := own_shape hrow
  have HRow : Hid (w2.ownsRow w1.heap.size 108 3 (.slice na l.length nc) l.length (ndCells l)) := hrow
  have HB : Hid (Below w1.heap.size w1 w2) := hb
  clear hrow hb
  go_wp2
  refine bodyPost_ret (v := .tuple #[.slice na l.length nc, .int .i64 0]) (by simp [results, Tryz.results96, go_sem]) rfl ?_
  exact ⟨na, nc, rfl, HRow.out, HB.out⟩
end
end Go.Proofs.YtcdgdmhlbgbklaaGreatDoor

/- A tree is flattened: a file. -/
namespace Go.Proofs.YtcdgdmhlbgbklaaGreatDoor
open Go.RowKit Go.Shelf Go.Maps Go.WideMaps Go.Sort
attribute [local go_sem ↓] appS_eq

section
variable {B P M : Nat} {D : DataW Unit} {ba : Option Addr} {bc : Nat} {bs : List ByteArray} {F : List Fl} {fv : Value} {w w' : World}

/-- One file more. -/
theorem WS.file (h : WS B P M D ba bc bs F fv w) (x : Fl) (hF : F.length ≤ 1000) :
    ∃ G C w3, (appS #[23, 23] 23 #[fv, .slice (some ⟨w.heap.size, 0, none⟩) 1 1]).run Tryz.prog ((w.alloc (.cells #[.string x.pa, .string x.tx, .bool x.rn] 48)).drew) = .ok (.slice (some ⟨G, 0, none⟩) (F.length + 1) C) w3 ∧
      w3.cell? ⟨P, 2, none⟩ = some fv ∧ w3.frozen? ⟨P, 2, none⟩ = false ∧
      WS B P M D ba bc bs (F ++ [x]) (.slice (some ⟨G, 0, none⟩) (F.length + 1) C) (w3.setCell ⟨P, 2, none⟩ (.slice (some ⟨G, 0, none⟩) (F.length + 1) C)) ∧
      FR P fv (.slice (some ⟨G, 0, none⟩) (F.length + 1) C) w (w3.setCell ⟨P, 2, none⟩ (.slice (some ⟨G, 0, none⟩) (F.length + 1) C)) := by
  obtain ⟨i0, hi, hz0, hz1, hz2⟩ := info_p infF
  have hsz : ((w.alloc (.cells #[.string x.pa, .string x.tx, .bool x.rn] 48)).drew).heap.size = w.heap.size + 1 := World.size_alloc _ _
  have hA : Below w.heap.size w ((w.alloc (.cells #[.string x.pa, .string x.tx, .bool x.rn] 48)).drew) := ((Below.refl _ w).alloc (Nat.le_refl _) _).drew
  have hWA := h.below hA
  have hlo : B ≤ w.heap.size := Nat.le_trans h.loP (Nat.le_of_lt h.lt)
  obtain ⟨G, C, w3, hrun, hrow, hgr, hat, hlt⟩ := run_append_lies (P := Tryz.prog) ((w.alloc (.cells #[.string x.pa, .string x.tx, .bool x.rn] 48)).drew) 23 23 B 48 i0 (.agg #[.string ⟨#[]⟩, .string ⟨#[]⟩, .bool false]) 3 40 Tryz.underlying23 hi hz0 hz1 hz2 rfl (by decide) fv F.length (flCells F) hWA.files ⟨w.heap.size, 0, none⟩ 1 1 [.string x.pa, .string x.tx, .bool x.rn] rfl (new_cells w _ _) (fun u hu => by simp at hu; rcases hu with rfl | rfl | rfl <;> rfl) (by decide) (by unfold maxLen; omega) (by omega) (by omega) (w.heap.size + 1) hsz
  have hP3 : w3.heap[P]? = some (.cells #[.slice ba bs.length bc, .map (some M), fv] 95 (0, 0)) := (hgr.block P hWA.lt (fun e => h.fP e.symm)).trans hWA.blk
  have hnew : ∀ b, b < w.heap.size → fv.ownBlock ≠ some b → G ≠ b := fun b hb hne e => by
    rcases hat with h1 | h1
    · exact hne (by rw [h1, e])
    · omega
  have hkeep : ∀ b, b < w.heap.size → b ≠ P → fv.ownBlock ≠ some b → (w3.setCell ⟨P, 2, none⟩ (.slice (some ⟨G, 0, none⟩) (F.length + 1) C)).heap[b]? = w.heap[b]? := fun b hb hP hne => ((Below.heap_setCell _ _ _ _ hP).trans (hgr.block b (by omega) (fun e => hne e.symm))).trans (hA.block b hb)
  have hGP : G ≠ P := hnew P h.lt h.fP
  refine ⟨G, C, w3, hrun, by rw [Lib.cell_of_heap hP3]; rfl, by simp only [World.frozen?]; rw [hP3]; rfl, ⟨?_, ?_, ?_, ?_, h.ne, ?_, ?_, h.loP, h.loM⟩, ⟨?_, ?_, ?_, ?_, hkeep, ?_⟩⟩
  · simp only [World.setCell, Array.getElem?_modify, hP3]
    rfl
  · exact ownsMap_heap h.own (hkeep M h.own.lt (fun e => h.ne e.symm) h.fM)
  · rcases h.tx with h1 | ⟨g, o, h1, h2, h3⟩
    · exact .inl h1
    · refine .inr ⟨g, o, h1, h2, fun j hj => ?_⟩
      have hg : g < w.heap.size := by omega
      refine (World.cell?_of_block (w := w) (a := ⟨g, o + j, none⟩) (hkeep g hg (by have := h.loP; omega) (fun e => ?_))).trans (h3 j hj)
      have := (h.files.lt g e).1
      omega
  · have e : flCells (F ++ [x]) = flCells F ++ [.string x.pa, .string x.tx, .bool x.rn] := by simp [flCells]
    rw [e, List.length_append]
    refine row_heap hrow fun b hb => ?_
    have e2 : G = b := by injection hb
    subst e2
    exact Below.heap_setCell _ _ _ _ hGP
  · intro e
    exact hGP (by injection e)
  · intro e
    exact hnew M h.own.lt h.fM (by injection e)
  · exact hgr.os
  · exact hgr.tape
  · exact hgr.output
  · have e : (w3.setCell ⟨P, 2, none⟩ (.slice (some ⟨G, 0, none⟩) (F.length + 1) C)).heap.size = w3.heap.size := by simp [World.setCell]
    rw [e]
    have := hgr.size
    omega
  · intro b hb hne e
    exact hnew b hb hne (by injection e)

/-- How a step ends: it was done. -/
def StP (B P M : Nat) (D : DataW Unit) (ba : Option Addr) (bc : Nat) (bs : List ByteArray) (F : List Fl) (fv : Value) (w : World) (X : List Fl) (e : Ending) (w' : World) : Prop := ∃ (fv' : Value) (Y : List Fl), e = .returned (.int .i64 0) ∧ Y.Perm X ∧ WS B P M D ba bc bs (F ++ Y) fv' w' ∧ FR P fv fv' w w'

set_option maxHeartbeats 4000000 in
set_option maxRecDepth 100000 in
theorem file_ok (h : WS B P M D ba bc bs F fv w) (nm t p : ByteArray) (r : Bool) (hf : Finds bs D t) (hp : p.size ≤ 100) (hF : F.length < 60) :
    Calls Tryz.prog 141 #[.pointer (some ⟨P, 0, none⟩), .agg #[.string nm, .int .i64 (kdF r), .string (smD t)], .string p] w (StP B P M D ba bc bs F fv w [⟨p, t, r⟩]) := by
  have hA : Below w.heap.size w (w.alloc (.cells #[.string nm, .int .i64 (kdF r), .string (smD t)] 108)) := (Below.refl _ w).alloc (Nat.le_refl _) _
  have hWA := h.below hA
  have HT : Hid (Calls Tryz.prog 139 #[.pointer (some ⟨P, 0, none⟩), .string (smD t)] (w.alloc (.cells #[.string nm, .int .i64 (kdF r), .string (smD t)] 108)) fun e w' => e = .returned (.tuple #[.string t, .int .i64 0]) ∧ w' = w.alloc (.cells #[.string nm, .int .i64 (kdF r), .string (smD t)] 108)) := text_ok hWA t hf
  obtain ⟨fa, fc, rfl⟩ := own_shape h.files
  have c2 := hWA.c2
  have hx := heap_alloc_new w (.cells #[.string nm, .int .i64 (kdF r), .string (smD t)] 108)
  have hz : (w.alloc (.cells #[.string nm, .int .i64 (kdF r), .string (smD t)] 108)).heap.size = w.heap.size + 1 := World.size_alloc _ _
  obtain ⟨G, C, w3, hap, f2, fz, hws, hfr⟩ := hWA.file ⟨p, t, r⟩ (by omega)
  rw [hz] at hap
  have HE : Hid (WS B P M D ba bc bs (F ++ [⟨p, t, r⟩]) (.slice (some ⟨G, 0, none⟩) (F.length + 1) C) (w3.setCell ⟨P, 2, none⟩ (.slice (some ⟨G, 0, none⟩) (F.length + 1) C)) ∧ FR P (.slice fa F.length fc) (.slice (some ⟨G, 0, none⟩) (F.length + 1) C) w (w3.setCell ⟨P, 2, none⟩ (.slice (some ⟨G, 0, none⟩) (F.length + 1) C))) := ⟨hws, (FR.of_below hA).trans hfr⟩
  have hp2 : (p.size : Int) ≤ 100 := by omega
  have hF2 : ((F.length : Int) == 60) = false := by rw [beq_eq_false_iff_ne]; omega
  have c2a : ∀ o, ((w.alloc (.cells #[.string nm, .int .i64 (kdF r), .string (smD t)] 108)).alloc o).cell? ⟨P, 2, none⟩ = some (.slice fa F.length fc) := fun o => (((Below.refl _ (w.alloc (.cells #[.string nm, .int .i64 (kdF r), .string (smD t)] 108))).alloc (Nat.le_refl _) o).cell (p := ⟨P, 2, none⟩) hWA.lt).trans c2
  have n1 : (w.alloc (.cells #[.string nm, .int .i64 (kdF r), .string (smD t)] 108)).cell? ⟨w.heap.size, 1, none⟩ = some (.int .i64 (kdF r)) := Lib.cell_of_heap hx 1
  have n2 : (w.alloc (.cells #[.string nm, .int .i64 (kdF r), .string (smD t)] 108)).cell? ⟨w.heap.size, 2, none⟩ = some (.string (smD t)) := Lib.cell_of_heap hx 2
  clear h hA hWA hx hz hws hfr hp hF hf
  simp only at hap
  cases r with
  | true =>
    rw [show kdF true = 2 from rfl] at *
    go_enter Tryz.func141, Tryz.ntmps141
    go_wp2_with fail
    refine HT.out.mono ?_
    rintro e w1 ⟨rfl, rfl⟩
    go_wp2_with fail
    go_region
    go_wp2
    go_ret
    exact ⟨_, _, rfl, .refl _, HE.out⟩
  | false =>
    rw [show kdF false = 1 from rfl] at *
    go_enter Tryz.func141, Tryz.ntmps141
    go_wp2_with fail
    refine HT.out.mono ?_
    rintro e w1 ⟨rfl, rfl⟩
    go_wp2_with fail
    go_region
    go_wp2
    go_ret
    exact ⟨_, _, rfl, .refl _, HE.out⟩
end
end Go.Proofs.YtcdgdmhlbgbklaaGreatDoor

/- A tree is flattened: directories, each node. -/
namespace Go.Proofs.YtcdgdmhlbgbklaaGreatDoor
open Go.RowKit Go.Shelf Go.Maps Go.WideMaps Go.Sort
attribute [local go_sem ↓] appS_eq

theorem app_bytes (a b : ByteArray) : a ++ b = ⟨(a.data.toList ++ b.data.toList).toArray⟩ := by
  obtain ⟨x⟩ := a
  obtain ⟨y⟩ := b
  have e : (⟨x⟩ ++ ⟨y⟩ : ByteArray).data = x ++ y := ByteArray.data_append
  have e2 : (x.toList ++ y.toList).toArray = x ++ y := by simp
  rw [e2]
  generalize (⟨x⟩ ++ ⟨y⟩ : ByteArray) = z at e
  obtain ⟨z⟩ := z
  exact congrArg ByteArray.mk e
theorem app_size (a b : ByteArray) : (a ++ b).size = a.size + b.size := ByteArray.size_append

section
variable {B P M : Nat} {D : DataW Unit} {ba : Option Addr} {bc : Nat} {bs : List ByteArray} {F : List Fl} {fv : Value} {w w' : World}

set_option maxHeartbeats 4000000 in
set_option maxRecDepth 100000 in
theorem dir_ok (h : WS B P M D ba bc bs F fv w) (nm t p : ByteArray) (hf : Finds bs D t) (l : List Nd) (hs : t.size ≤ maxLen) (hok : neC l = 0) (ht : t.data.toList = pk l.length ++ pkDD l) (h0 : 0 < l.length) (hp : p.size ≤ 100) (X : List Fl)
    (hE : ∀ (W : World) (B2 : Nat) (na : Option Addr) (nc : Nat), WS B P M D ba bc bs F fv W → W.ownsRow B2 108 3 (.slice na l.length nc) l.length (ndCells l) → (Value.slice na l.length nc).ownBlock ≠ some P → (∀ x, fv.ownBlock = some x → (Value.slice na l.length nc).ownBlock ≠ some x) → Calls Tryz.prog 97 #[.pointer (some ⟨P, 0, none⟩), .slice na l.length nc, .string (p ++ ⟨#[47]⟩)] W (StP B P M D ba bc bs F fv W X)) :
    Calls Tryz.prog 142 #[.pointer (some ⟨P, 0, none⟩), .agg #[.string nm, .int .i64 3, .string (smD t)], .string p] w (StP B P M D ba bc bs F fv w X) := by
  have hA : Below w.heap.size w (w.alloc (.cells #[.string nm, .int .i64 3, .string (smD t)] 108)) := (Below.refl _ w).alloc (Nat.le_refl _) _
  have hWA := h.below hA
  have HN : Hid (Calls Tryz.prog 96 #[.pointer (some ⟨P, 0, none⟩), .string (smD t)] (w.alloc (.cells #[.string nm, .int .i64 3, .string (smD t)] 108)) (NdP l (w.alloc (.cells #[.string nm, .int .i64 3, .string (smD t)] 108)))) := nodes_ok hWA t hf l hs hok ht
  have HEa : Hid (∀ (W : World) (na : Option Addr) (nc : Nat), Below w.heap.size w W → W.ownsRow (w.alloc (.cells #[.string nm, .int .i64 3, .string (smD t)] 108)).heap.size 108 3 (.slice na l.length nc) l.length (ndCells l) → Calls Tryz.prog 97 #[.pointer (some ⟨P, 0, none⟩), .slice na l.length nc, .string (p ++ ⟨#[47]⟩)] W (StP B P M D ba bc bs F fv W X)) := fun W na nc hW hrow => by
    refine hE W _ na nc (h.below hW) hrow (fun e => ?_) (fun x hx e => ?_)
    · have := (hrow.lt P e).1
      rw [World.size_alloc] at this
      have := h.lt
      omega
    · have := (hrow.lt x e).1
      rw [World.size_alloc] at this
      have := (h.files.lt x hx).2
      omega
  have hx := heap_alloc_new w (.cells #[.string nm, .int .i64 3, .string (smD t)] 108)
  have n2 : (w.alloc (.cells #[.string nm, .int .i64 3, .string (smD t)] 108)).cell? ⟨w.heap.size, 2, none⟩ = some (.string (smD t)) := Lib.cell_of_heap hx 2
  have HA : Hid (Below w.heap.size w (w.alloc (.cells #[.string nm, .int .i64 3, .string (smD t)] 108))) := hA
  have hp2 : (p.size : Int) ≤ 100 := by omega
  have h02 : ((l.length : Int) == 0) = false := by rw [beq_eq_false_iff_ne]; omega
  clear h hA hWA hx hp hf hs hok ht h0 hE
  go_enter Tryz.func142, Tryz.ntmps142
  go_wp2_with fail
  refine HN.out.mono ?_
  rintro e w1 ⟨na, nc, rfl, hrow, hb⟩
  have hb1 : Below w.heap.size w w1 := HA.out.trans (hb.mono HA.out.size)
  have HE1 : Hid (Calls Tryz.prog 97 #[.pointer (some ⟨P, 0, none⟩), .slice na l.length nc, .string (p ++ ⟨#[47]⟩)] w1 (StP B P M D ba bc bs F fv w1 X)) := HEa.out w1 na nc hb1 hrow
  have HB1 : Hid (Below w.heap.size w w1) := hb1
  clear hrow hb hb1 HEa
  go_wp2_with fail
  refine HE1.out.mono ?_
  rintro e w2 ⟨fv', Y, rfl, hY, hws, hfr⟩
  have HF : Hid (Y.Perm X ∧ WS B P M D ba bc bs (F ++ Y) fv' w2 ∧ FR P fv fv' w w2) := ⟨hY, hws, (FR.of_below HB1.out).trans hfr⟩
  clear hY hws hfr
  go_wp2
  go_ret
  exact ⟨fv', Y, rfl, HF.out⟩

/-- While nodes are taken one by one. -/
def EaL (B P M : Nat) (D : DataW Unit) (ba : Option Addr) (bc : Nat) (bs : List ByteArray) (F : List Fl) (fv : Value) (w : World) (l : List Nd) (a : ByteArray) (L : List Fl) (i : Value) (wr : World) : Prop := ∃ (k : Nat) (fv' : Value) (Y : List Fl), k ≤ l.length ∧ i = .int .i64 k ∧ Y.Perm ((l.take k).flatMap fun x => filesOf a L (kyN x)) ∧ WS B P M D ba bc bs (F ++ Y) fv' wr ∧ FR P fv fv' w wr
theorem EaL.step {l : List Nd} {a : ByteArray} {L : List Fl} {k : Nat} {fv' fv'' : Value} {Y Z : List Fl} {wr w2 : World} {x : Nd} (hlt : k < l.length) (hx : l[k] = x) (hY : Y.Perm ((l.take k).flatMap fun x => filesOf a L (kyN x))) (hfr : FR P fv fv' w wr) (hZ : Z.Perm (filesOf a L (kyN x))) (hws : WS B P M D ba bc bs ((F ++ Y) ++ Z) fv'' w2) (hf2 : FR P fv' fv'' wr w2) {v : Value} (hv : v = .int .i64 ((k + 1 : Nat) : Int)) : EaL B P M D ba bc bs F fv w l a L v w2 := by
  refine ⟨k + 1, fv'', Y ++ Z, by omega, hv, ?_, by rw [← List.append_assoc]; exact hws, hfr.trans hf2⟩
  rw [List.take_succ_eq_append_getElem hlt, List.flatMap_append, hx]
  refine hY.append ?_
  simpa using hZ

set_option maxHeartbeats 8000000 in
set_option maxRecDepth 100000 in
theorem each_step (n : Nat) (L : List Fl) (a : ByteArray) (B2 : Nat) (na : Option Addr) (nc : Nat) (hok : okT L) (h : WS B P M D ba bc bs F fv w) (ha : ∀ f ∈ L, a.size + f.pa.size ≤ 100) (hF : F.length + L.length ≤ 60)
    (hrow : w.ownsRow B2 108 3 (.slice na (sortN (nsF smD n L)).length nc) (sortN (nsF smD n L)).length (ndCells (sortN (nsF smD n L)))) (hnP : (Value.slice na (sortN (nsF smD n L)).length nc).ownBlock ≠ some P) (hnF : ∀ x, fv.ownBlock = some x → (Value.slice na (sortN (nsF smD n L)).length nc).ownBlock ≠ some x)
    (hfile : ∀ f ∈ L, deepF f = false → Finds bs D f.tx)
    (hdir : ∀ m ∈ names L, ∀ (F' : List Fl) (fv' : Value) (W : World), WS B P M D ba bc bs F' fv' W → F'.length + (sub m L).length ≤ 60 → Calls Tryz.prog 142 #[.pointer (some ⟨P, 0, none⟩), .agg #[.string ⟨m.toArray⟩, .int .i64 3, .string (smD (dirF smD n (sub m L)).1)], .string (a ++ ⟨m.toArray⟩)] W (StP B P M D ba bc bs F' fv' W ((sub m L).map (addP ⟨(a.data.toList ++ (m ++ [47])).toArray⟩)))) :
    Calls Tryz.prog 97 #[.pointer (some ⟨P, 0, none⟩), .slice na (sortN (nsF smD n L)).length nc, .string a] w (StP B P M D ba bc bs F fv w (L.map (addP a))) := by
  have HK : Hid (okT L) := hok
  have HAll : Hid (((sortN (nsF smD n L)).flatMap fun x => filesOf a L (kyN x)).Perm (L.map (addP a))) := all_files smD n hok a
  have HSome : Hid (∀ k, (((sortN (nsF smD n L)).take k).flatMap fun x => filesOf a L (kyN x)).length ≤ L.length) := some_files smD n hok a
  have HCase : Hid (∀ x ∈ sortN (nsF smD n L), (∃ f, f ∈ L ∧ deepF f = false ∧ x = ndF smD f ∧ filesOf a L (kyN x) = [addP a f]) ∨ (∃ m, m ∈ names L ∧ x = ndM smD m (dirF smD n (sub m L)).1 ∧ filesOf a L (kyN x) = (sub m L).map (addP ⟨(a.data.toList ++ (m ++ [47])).toArray⟩))) := fun x hx => node_cases smD n hok hx a
  have HA : Hid (∀ f ∈ L, a.size + f.pa.size ≤ 100) := ha
  have HF : Hid (F.length + L.length ≤ 60) := hF
  have HR : Hid (w.ownsRow B2 108 3 (.slice na (sortN (nsF smD n L)).length nc) (sortN (nsF smD n L)).length (ndCells (sortN (nsF smD n L)))) := hrow
  have HNP : Hid ((Value.slice na (sortN (nsF smD n L)).length nc).ownBlock ≠ some P) := hnP
  have HNF : Hid (∀ x, fv.ownBlock = some x → (Value.slice na (sortN (nsF smD n L)).length nc).ownBlock ≠ some x) := hnF
  have HFi : Hid (∀ f ∈ L, deepF f = false → Finds bs D f.tx) := hfile
  have HDi : Hid (∀ m ∈ names L, ∀ (F' : List Fl) (fv' : Value) (W : World), WS B P M D ba bc bs F' fv' W → F'.length + (sub m L).length ≤ 60 → Calls Tryz.prog 142 #[.pointer (some ⟨P, 0, none⟩), .agg #[.string ⟨m.toArray⟩, .int .i64 3, .string (smD (dirF smD n (sub m L)).1)], .string (a ++ ⟨m.toArray⟩)] W (StP B P M D ba bc bs F' fv' W ((sub m L).map (addP ⟨(a.data.toList ++ (m ++ [47])).toArray⟩)))) := hdir
  have HS0 : Hid (EaL B P M D ba bc bs F fv w (sortN (nsF smD n L)) a L (.int .i64 ((0 : Nat) : Int)) w) := ⟨0, fv, [], by omega, rfl, .refl _, by rw [List.append_nil]; exact h, FR.of_below (Below.refl _ _)⟩
  have hnl : ((sortN (nsF smD n L)).length : Int) ≤ 60 := by
    rw [(sortN_perm _).length_eq]
    have := nsF_len smD n L
    have := hok.1
    omega
  have hmf : ∀ (fn : Fn) (first cap : Array Value) (w : World), (Instr.makeFunc fn first cap).run Tryz.prog w = .ok (.func fn first cap) w := fun _ _ _ _ => rfl
  clear hok h ha hF hrow hnP hnF hfile hdir
  generalize hl : sortN (nsF smD n L) = l at *
  clear hl
  go_enter Tryz.func97, Tryz.ntmps97
  go_wp2
  go_loopw [13] (fun i wr => EaL B P M D ba bc bs F fv w l a L i wr) (fun i _ => l.length - (intOf i).toNat)
  case atStart => exact HS0.out
  case round =>
    clear HS0
    obtain ⟨k, fv', Y, hk, rfl, hY, hws, hfr⟩ := hrel
    have HY : Hid (Y.Perm ((l.take k).flatMap fun x => filesOf a L (kyN x))) := hY
    have HW : Hid (WS B P M D ba bc bs (F ++ Y) fv' wr) := hws
    have HFR : Hid (FR P fv fv' w wr) := hfr
    by_cases hlt : k < l.length
    · have hki : (k : Int) < (l.length : Int) := by omega
      rcases HR.out.2 with ⟨_, h0⟩ | ⟨ng, nc2, cur, hnv, _, hnh, _⟩
      · exfalso; omega
      injection hnv with hna hx1 hx2
      subst hna
      clear hx1 hx2
      have hblk : wr.heap[ng]? = w.heap[ng]? := hfr.blk ng (Array.getElem?_eq_some_iff.1 hnh).1 (fun e => HNP.out (by rw [e]; rfl)) (fun e => HNF.out ng e rfl)
      have hcs : ∀ j u, (ndCells l)[j]? = some u → wr.cell? ⟨ng, j, none⟩ = some u := fun j u hu => by
        have h1 := HR.out.cells (show (Value.slice (some ⟨ng, 0, none⟩) l.length nc).ownBlock = some ng from rfl) j u hu
        rw [add0] at h1
        exact (World.cell?_of_block (w := w) (a := ⟨ng, j, none⟩) hblk).trans h1
      obtain ⟨g0, g1, g2⟩ := ndCells_get l k hlt
      have c0 := hcs _ _ g0
      have c1 := hcs _ _ g1
      have c2 := hcs _ _ g2
      have hcase := HCase.out l[k] (List.getElem_mem hlt)
      have hcnt := HSome.out (k + 1)
      rw [List.take_succ_eq_append_getElem hlt, List.flatMap_append, List.length_append] at hcnt
      have hYl := hY.length_eq
      have hFl : F.length + L.length ≤ 60 := HF.out
      simp only [List.flatMap_cons, List.flatMap_nil, List.append_nil] at hcnt
      generalize hx : l[k] = x at c0 c1 c2 hcase hcnt
      have HX : Hid (l[k] = x) := hx
      clear hx g0 g1 g2 hcs hblk hY hfr
      rcases hcase with ⟨f, hf, hd, rfl, hfo⟩ | ⟨m, hm, rfl, hfo⟩
      · rw [hfo, List.length_singleton] at hcnt
        have hpl : (a ++ f.pa).size ≤ 100 := by rw [app_size]; exact HA.out f hf
        have hFe : addP a f = ⟨a ++ f.pa, f.tx, f.rn⟩ := by unfold addP; rw [app_bytes]; rfl
        have hFl2 : (F ++ Y).length < 60 := by rw [List.length_append]; omega
        have hA1 : Below wr.heap.size wr (wr.alloc (.cells #[.string f.pa, .int .i64 (kdF f.rn), .string (smD f.tx)] 108)) := (Below.refl _ wr).alloc (Nat.le_refl _) _
        have HC : Hid (Calls Tryz.prog 141 #[.pointer (some ⟨P, 0, none⟩), .agg #[.string f.pa, .int .i64 (kdF f.rn), .string (smD f.tx)], .string (a ++ f.pa)] (wr.alloc (.cells #[.string f.pa, .int .i64 (kdF f.rn), .string (smD f.tx)] 108)) (StP B P M D ba bc bs (F ++ Y) fv' (wr.alloc (.cells #[.string f.pa, .int .i64 (kdF f.rn), .string (smD f.tx)] 108)) [⟨a ++ f.pa, f.tx, f.rn⟩])) := file_ok (HW.out.below hA1) f.pa f.tx (a ++ f.pa) f.rn (HFi.out f hf hd) hpl hFl2
        have HEnd : Hid (∀ w2 fv'' Z, Z.Perm [⟨a ++ f.pa, f.tx, f.rn⟩] → WS B P M D ba bc bs ((F ++ Y) ++ Z) fv'' w2 → FR P fv' fv'' (wr.alloc (.cells #[.string f.pa, .int .i64 (kdF f.rn), .string (smD f.tx)] 108)) w2 → ∀ v, v = .int .i64 ((k + 1 : Nat) : Int) → EaL B P M D ba bc bs F fv w l a L v w2) := fun w2 fv'' Z hZ hw hf2 v hv => EaL.step hlt HX.out HY.out HFR.out (by rw [hfo, hFe]; exact hZ) hw ((FR.of_below hA1).trans hf2) hv
        have hpl2 : (a.size : Int) + (f.pa.size : Int) ≤ 100 := by have := HA.out f hf; omega
        have hpl3 : a.size + f.pa.size ≤ 100 := HA.out f hf
        have hk3 : ¬ kdF f.rn = 3 := by unfold kdF; split <;> decide
        unfold ndF at c0 c1 c2
        clear hfo hpl hFe hFl2 hA1 hcnt hYl hFl hws hnh HFi HDi HCase HSome HA
        generalize smD f.tx = dg at *
        generalize kdF f.rn = kd at *
        go_wp2_with fail
        refine HC.out.mono ?_
        rintro e w2 ⟨fv'', Z, rfl, hZ, hw2, hf2⟩
        have HE2 : Hid (∀ v, v = .int .i64 ((k + 1 : Nat) : Int) → EaL B P M D ba bc bs F fv w l a L v w2) := HEnd.out w2 fv'' Z hZ hw2 hf2
        clear hZ hw2 hf2 HEnd HC
        go_wp2
        exact ⟨HE2.out _ (by go_num), by simp [intOf]; omega⟩
      · rw [hfo, List.length_map] at hcnt
        have hA1 : Below wr.heap.size wr (wr.alloc (.cells #[.string ⟨m.toArray⟩, .int .i64 3, .string (smD (dirF smD n (sub m L)).1)] 108)) := (Below.refl _ wr).alloc (Nat.le_refl _) _
        have HC : Hid (Calls Tryz.prog 142 #[.pointer (some ⟨P, 0, none⟩), .agg #[.string ⟨m.toArray⟩, .int .i64 3, .string (smD (dirF smD n (sub m L)).1)], .string (a ++ ⟨m.toArray⟩)] (wr.alloc (.cells #[.string ⟨m.toArray⟩, .int .i64 3, .string (smD (dirF smD n (sub m L)).1)] 108)) (StP B P M D ba bc bs (F ++ Y) fv' (wr.alloc (.cells #[.string ⟨m.toArray⟩, .int .i64 3, .string (smD (dirF smD n (sub m L)).1)] 108)) ((sub m L).map (addP ⟨(a.data.toList ++ (m ++ [47])).toArray⟩)))) := HDi.out m hm _ _ _ (HW.out.below hA1) (by rw [List.length_append]; omega)
        have HEnd : Hid (∀ w2 fv'' Z, Z.Perm ((sub m L).map (addP ⟨(a.data.toList ++ (m ++ [47])).toArray⟩)) → WS B P M D ba bc bs ((F ++ Y) ++ Z) fv'' w2 → FR P fv' fv'' (wr.alloc (.cells #[.string ⟨m.toArray⟩, .int .i64 3, .string (smD (dirF smD n (sub m L)).1)] 108)) w2 → ∀ v, v = .int .i64 ((k + 1 : Nat) : Int) → EaL B P M D ba bc bs F fv w l a L v w2) := fun w2 fv'' Z hZ hw hf2 v hv => EaL.step hlt HX.out HY.out HFR.out (by rw [hfo]; exact hZ) hw ((FR.of_below hA1).trans hf2) hv
        have hpl3 : a.size + (⟨m.toArray⟩ : ByteArray).size ≤ 100 := by
          obtain ⟨f, hf, hd, hh⟩ := (names_mem L m).1 hm
          have e := congrArg List.length (deep_sl hd).2
          rw [List.length_append, hh] at e
          have e1 : (pth f).length = f.pa.size := Array.length_toList
          have e2 : (⟨m.toArray⟩ : ByteArray).size = m.length := by show m.toArray.size = _; simp
          have := HA.out f hf
          omega
        have hpl2 : (a.size : Int) + ((⟨m.toArray⟩ : ByteArray).size : Int) ≤ 100 := by omega
        unfold ndM at c0 c1 c2
        clear hfo hA1 hcnt hYl hFl hws hnh HFi HDi HCase HSome HA
        generalize smD (dirF smD n (sub m L)).1 = dg at *
        go_wp2_with fail
        refine HC.out.mono ?_
        rintro e w2 ⟨fv'', Z, rfl, hZ, hw2, hf2⟩
        have HE2 : Hid (∀ v, v = .int .i64 ((k + 1 : Nat) : Int) → EaL B P M D ba bc bs F fv w l a L v w2) := HEnd.out w2 fv'' Z hZ hw2 hf2
        clear hZ hw2 hf2 HEnd HC
        go_wp2
        exact ⟨HE2.out _ (by go_num), by simp [intOf]; omega⟩
    · have hki : ¬ (k : Int) < (l.length : Int) := by omega
      have HEnd : Hid (Y.Perm (L.map (addP a)) ∧ WS B P M D ba bc bs (F ++ Y) fv' wr ∧ FR P fv fv' w wr) := by
        refine ⟨?_, hws, hfr⟩
        rw [List.take_of_length_le (by omega)] at hY
        exact hY.trans HAll.out
      clear hY hws hfr
      go_wp2
      go_ret
      exact ⟨fv', Y, rfl, HEnd.out⟩
end
end Go.Proofs.YtcdgdmhlbgbklaaGreatDoor

/- A tree is flattened: all of it. -/
namespace Go.Proofs.YtcdgdmhlbgbklaaGreatDoor
open Go.RowKit Go.Shelf Go.Maps Go.WideMaps Go.Sort
attribute [local go_sem ↓] appS_eq

section
variable {B P M : Nat} {D : DataW Unit} {ba : Option Addr} {bc : Nat} {bs : List ByteArray}

theorem sub_ne {L : List Fl} {m : List UInt8} (hm : m ∈ names L) : sub m L ≠ [] := by
  obtain ⟨f, hf, hd, hh⟩ := (names_mem L m).1 hm
  intro e
  have : subF f ∈ sub m L := List.mem_map.2 ⟨f, List.mem_filter.2 ⟨hf, by rw [hd, hh]; simp⟩, rfl⟩
  rw [e] at this
  cases this
theorem sub_path {L : List Fl} {m : List UInt8} {g : Fl} (hg : g ∈ sub m L) : ∃ f ∈ L, f.pa.size = m.length + 1 + g.pa.size := by
  obtain ⟨f, hf, rfl⟩ := List.mem_map.1 hg
  rw [List.mem_filter, Bool.and_eq_true, decide_eq_true_eq] at hf
  refine ⟨f, hf.1, ?_⟩
  have e := congrArg List.length (deep_sl hf.2.1).2
  rw [List.length_append, List.length_cons, hf.2.2] at e
  have e1 : (pth f).length = f.pa.size := Array.length_toList
  have e2 : (pth (subF f)).length = (subF f).pa.size := Array.length_toList
  omega

theorem each_any : ∀ (n : Nat) (L F : List Fl) (fv : Value) (w : World) (a : ByteArray) (B2 : Nat) (na : Option Addr) (nc : Nat), okT L → (∀ f ∈ L, f.pa.size < n + 1) → WS B P M D ba bc bs F fv w → (∀ f ∈ L, a.size + f.pa.size ≤ 100) → F.length + L.length ≤ 60 →
    w.ownsRow B2 108 3 (.slice na (sortN (nsF smD n L)).length nc) (sortN (nsF smD n L)).length (ndCells (sortN (nsF smD n L))) → (Value.slice na (sortN (nsF smD n L)).length nc).ownBlock ≠ some P → (∀ x, fv.ownBlock = some x → (Value.slice na (sortN (nsF smD n L)).length nc).ownBlock ≠ some x) →
    (∀ t ∈ (dirF smD (n + 1) L).2, Finds bs D t) →
    Calls Tryz.prog 97 #[.pointer (some ⟨P, 0, none⟩), .slice na (sortN (nsF smD n L)).length nc, .string a] w (StP B P M D ba bc bs F fv w (L.map (addP a)))
  | n, L, F, fv, w, a, B2, na, nc, hok, hsz, h, ha, hF, hrow, hnP, hnF, hfind => by
    refine each_step n L a B2 na nc hok h ha hF hrow hnP hnF (fun f hf hd => hfind _ (top_text smD n L hf hd)) fun m hm F' fv' W hW hF' => ?_
    have hne := sub_ne hm
    cases n with
    | zero =>
      exfalso
      obtain ⟨f, hf⟩ := List.exists_mem_of_ne_nil _ hne
      have := sub_less hsz m f hf
      omega
    | succ n =>
      have hokm := okT_sub hok m
      have hml : (⟨m.toArray⟩ : ByteArray).size = m.length := by show m.toArray.size = _; simp
      have hp : (a ++ (⟨m.toArray⟩ : ByteArray)).size ≤ 100 := by
        obtain ⟨g, hg⟩ := List.exists_mem_of_ne_nil _ hne
        obtain ⟨f, hf, e⟩ := sub_path hg
        rw [app_size, hml]
        have := ha f hf
        omega
      have hpe : (a ++ (⟨m.toArray⟩ : ByteArray)) ++ (⟨#[47]⟩ : ByteArray) = ⟨(a.data.toList ++ (m ++ [47])).toArray⟩ := by
        rw [app_bytes, app_bytes]
        simp
      refine dir_ok hW ⟨m.toArray⟩ (dirF smD (n + 1) (sub m L)).1 (a ++ ⟨m.toArray⟩) (hfind _ (sub_texts smD (n + 1) L hm _ (own_text smD n _))) (sortN (nsF smD n (sub m L))) (by have := txN_size smD smD_dig n hokm; unfold maxLen; omega) (nsF_ok smD smD_dig n hokm) (by
        rw [dirF_succ]
        show (txN (nsF smD n (sub m L))).data.toList = _
        unfold txN
        simp) (by rw [(sortN_perm _).length_eq]; exact nsF_ne smD hne) hp _ fun W2 B3 na2 nc2 hW2 hrow2 hP2 hF2 => ?_
      rw [hpe]
      refine each_any n (sub m L) F' fv' W2 ⟨(a.data.toList ++ (m ++ [47])).toArray⟩ B3 na2 nc2 hokm (sub_less hsz m) hW2 (fun g hg => ?_) hF' hrow2 hP2 hF2 (fun t ht => hfind t (sub_texts smD (n + 1) L hm t ht))
      obtain ⟨f, hf, e⟩ := sub_path hg
      have := ha f hf
      have e2 : (⟨(a.data.toList ++ (m ++ [47])).toArray⟩ : ByteArray).size = a.size + (m.length + 1) := by
        show (a.data.toList ++ (m ++ [47])).toArray.size = _
        simp
      omega

set_option maxHeartbeats 2000000 in
set_option maxRecDepth 100000 in
theorem whole_ok {F : List Fl} {fv : Value} {w : World} (L : List Fl) (hok : okT L) (h : WS B P M D ba bc bs F fv w) (hF : F.length + L.length ≤ 60) (hfind : ∀ t ∈ (pkT1 L).2, Finds bs D t) :
    Calls Tryz.prog 54 #[.pointer (some ⟨P, 0, none⟩), .string (smD (pkT1 L).1)] w (StP B P M D ba bc bs F fv w L) := by
  have HN : Hid (Calls Tryz.prog 96 #[.pointer (some ⟨P, 0, none⟩), .string (smD (pkT1 L).1)] w (NdP (sortN (nsF smD 100 L)) w)) := nodes_ok h _ (hfind _ (own_text smD 100 L)) _ (Nat.le_trans (pkT1_size hok) (by decide)) (nsF_ok smD smD_dig 100 hok) (by
    show (txN (nsF smD 100 L)).data.toList = _
    unfold txN
    simp)
  have HE : Hid (∀ W na nc, Below w.heap.size w W → W.ownsRow w.heap.size 108 3 (.slice na (sortN (nsF smD 100 L)).length nc) (sortN (nsF smD 100 L)).length (ndCells (sortN (nsF smD 100 L))) → Calls Tryz.prog 97 #[.pointer (some ⟨P, 0, none⟩), .slice na (sortN (nsF smD 100 L)).length nc, .string ⟨#[]⟩] W (StP B P M D ba bc bs F fv W L)) := fun W na nc hW hrow => by
    have h1 := each_any 100 L F fv W ⟨#[]⟩ w.heap.size na nc hok (fun f hf => by have := pathOk_size (flE_pa (hok.2.1 f hf)).1; omega) (h.below hW) (fun f hf => by have := pathOk_size (flE_pa (hok.2.1 f hf)).1; show 0 + _ ≤ _; omega) hF hrow (fun e => by
      have := (hrow.lt P e).1
      have := h.lt
      omega) (fun x hx e => by
      have := (hrow.lt x e).1
      have := (h.files.lt x hx).2
      omega) hfind
    have e : L.map (addP ⟨#[]⟩) = L := by
      have : ∀ f ∈ L, addP ⟨#[]⟩ f = f := fun f _ => by
        obtain ⟨⟨p⟩, t, r⟩ := f
        unfold addP pth
        simp
      rw [List.map_congr_left this, List.map_id']
    rw [e] at h1
    exact h1
  clear h hok hfind hF
  generalize smD (pkT1 L).1 = rt at *
  generalize sortN (nsF smD 100 L) = l at *
  go_enter Tryz.func54, Tryz.ntmps54
  go_wp2_with fail
  refine HN.out.mono ?_
  rintro e w1 ⟨na, nc, rfl, hrow, hb⟩
  have HE1 : Hid (Calls Tryz.prog 97 #[.pointer (some ⟨P, 0, none⟩), .slice na l.length nc, .string ⟨#[]⟩] w1 (StP B P M D ba bc bs F fv w1 L)) := HE.out w1 na nc hb hrow
  have HB : Hid (Below w.heap.size w w1) := hb
  clear hrow hb HE
  go_wp2_with fail
  refine HE1.out.mono ?_
  rintro e w2 ⟨fv', Y, rfl, hY, hws, hfr⟩
  have HF : Hid (Y.Perm L ∧ WS B P M D ba bc bs (F ++ Y) fv' w2 ∧ FR P fv fv' w w2) := ⟨hY, hws, (FR.of_below HB.out).trans hfr⟩
  clear hY hws hfr
  go_wp2
  go_ret
  exact ⟨fv', Y, rfl, HF.out⟩
end
end Go.Proofs.YtcdgdmhlbgbklaaGreatDoor

/- A tree is flattened: a new walk. -/
namespace Go.Proofs.YtcdgdmhlbgbklaaGreatDoor
open Go.RowKit Go.Shelf Go.Maps Go.WideMaps Go.Sort
attribute [local go_sem ↓] appS_eq

/-- Where things stand, by their keys: the first k of them. -/
def ixG (key : Nat → List UInt8) : Nat → DataW Unit
  | 0 => .map []
  | k + 1 => (ixG key k).put (.string (key k)) (.lit (.int .i64 (k : Int)))
theorem ixG_succ (key : Nat → List UInt8) (k : Nat) : ixG key (k + 1) = (ixG key k).put (.string (key k)) (.lit (.int .i64 (k : Int))) := rfl
theorem ixG_map (key : Nat → List UInt8) : ∀ k, IsMap (ixG key k)
  | 0 => isMap_empty
  | k + 1 => (ixG_map key k).put _ _
theorem str_ne {a b : List UInt8} (h : a ≠ b) : Lit.string a ≠ Lit.string b := fun e => h (by injection e)
theorem ixG_at (key : Nat → List UInt8) (d : List UInt8) : ∀ k, (∃ j, j < k ∧ key j = d) → ∃ i, i < k ∧ key i = d ∧ Maps.has (ixG key k) (.string d) = true ∧ (ixG key k).atKey (.string d) (.lit (.int .i64 0)) = .lit (.int .i64 (i : Int))
  | 0, ⟨j, hj, _⟩ => by omega
  | k + 1, ⟨j, hj, h⟩ => by
    by_cases e : key k = d
    · refine ⟨k, by omega, e, ?_, ?_⟩
      · rw [ixG_succ, e]
        exact has_put_same (ixG_map key k) (by exact trivial) _
      · rw [ixG_succ, e]
        exact atKey_put_same (ixG_map key k) (by exact trivial) _ _
    · have hjk : j < k := by
        rcases Nat.lt_or_ge j k with h5 | h5
        · exact h5
        · exfalso
          have e2 : j = k := by omega
          rw [e2] at h
          exact e h
      obtain ⟨i, h1, h2, h3, h4⟩ := ixG_at key d k ⟨j, hjk, h⟩
      refine ⟨i, by omega, h2, ?_, ?_⟩
      · rw [ixG_succ, has_put_other (str_ne fun e2 => e e2.symm)]
        exact h3
      · rw [ixG_succ, atKey_put_other (str_ne fun e2 => e e2.symm)]
        exact h4
/-- A text's digest, by its place. -/
def dgAt (bs : List ByteArray) (k : Nat) : List UInt8 := (smD (bs.getD k ⟨#[]⟩)).data.toList
theorem dgAt_eq (bs : List ByteArray) (k : Nat) (h : k < bs.length) : dgAt bs k = (smD bs[k]).data.toList := by
  unfold dgAt
  rw [List.getD_eq_getElem?_getD, List.getElem?_eq_getElem h, Option.getD_some]
def ixD (bs : List ByteArray) (k : Nat) : DataW Unit := ixG (dgAt bs) k
theorem bytes_ext {a b : ByteArray} (h : a.data.toList = b.data.toList) : a = b := by
  obtain ⟨x⟩ := a
  obtain ⟨y⟩ := b
  exact congrArg ByteArray.mk (Array.toList_inj.1 h)
theorem finds_of {bs : List ByteArray} {t : ByteArray} (ht : t ∈ bs) (hc : ∀ b ∈ bs, smD b = smD t → b = t) : Finds bs (ixD bs bs.length) t := by
  obtain ⟨j, hj, rfl⟩ := List.getElem_of_mem ht
  obtain ⟨i, h1, h2, h3, h4⟩ := ixG_at (dgAt bs) (smD bs[j]).data.toList bs.length ⟨j, hj, dgAt_eq bs j hj⟩
  rw [dgAt_eq bs i h1] at h2
  exact ⟨i, h1, hc _ (List.getElem_mem h1) (bytes_ext h2), h3, h4⟩

/-- How a new walk begins. -/
def NwP (ba : Option Addr) (bc : Nat) (bs : List ByteArray) (w : World) (e : Ending) (w' : World) : Prop := ∃ P M, e = .returned (.pointer (some ⟨P, 0, none⟩)) ∧ WS w.heap.size P M (ixD bs bs.length) ba bc bs [] (.slice none 0 0) w' ∧ Below w.heap.size w w'
def IsTxs (w : World) (ba : Option Addr) (bs : List ByteArray) : Prop := bs = [] ∨ ∃ g o, ba = some ⟨g, o, none⟩ ∧ g < w.heap.size ∧ ∀ j (hj : j < bs.length), w.cell? ⟨g, o + j, none⟩ = some (.string bs[j])
theorem IsTxs.below {B : Nat} {ba : Option Addr} {bs : List ByteArray} {w w' : World} (h : IsTxs w ba bs) (hb : Below B w w') (hB : w.heap.size ≤ B) : IsTxs w' ba bs := by
  rcases h with h | ⟨g, o, h1, h2, h3⟩
  · exact .inl h
  · exact .inr ⟨g, o, h1, Nat.lt_of_lt_of_le h2 hb.size, fun j hj => (hb.cell (p := ⟨g, o + j, none⟩) (by show g < _; omega)).trans (h3 j hj)⟩

set_option maxHeartbeats 4000000 in
set_option maxRecDepth 100000 in
theorem newWalk_any (ba : Option Addr) (bc : Nat) (bs : List ByteArray) (w : World) (hn : bs.length ≤ 1000000) (ht : IsTxs w ba bs) (hs : ∀ b ∈ bs, b.size ≤ 100000) (he : Env w) :
    Calls Tryz.prog 53 #[.slice ba bs.length bc] w (NwP ba bc bs w) := by
  have HT : Hid (IsTxs w ba bs) := ht
  have HS : Hid (∀ b ∈ bs, b.size ≤ 100000) := hs
  have HE : Hid (Env w) := he
  have hn1 : (bs.length : Int) ≤ 1000000 := by omega
  have hmm := makeMap_n Tryz.underlying93
  clear ht hs he
  go_enter Tryz.func53, Tryz.ntmps53
  go_wp2
  go_loopw [14] (fun i wr => ∃ k : Nat, k ≤ bs.length ∧ i = .int .i64 k ∧ wr.heap[w.heap.size + 1]? = some (.cells #[.slice ba bs.length bc, .map (some w.heap.size), .slice none 0 0] 95 (0, 0)) ∧ wr.ownsMap Tryz.prog 9 (plainElem Tryz.prog 3) w.heap.size k (ixD bs k) ∧ Below w.heap.size w wr) (fun i _ => bs.length - (intOf i).toNat)
  case atStart =>
    refine ⟨0, by omega, rfl, ?_, (World.ownsMap_made _ _ _ _).alloc _, ((Below.refl _ _).alloc (Nat.le_refl _) _).alloc (by rw [World.size_alloc]; omega) _⟩
    have := heap_alloc_new (w.alloc (.map #[] 0)) (.cells #[.slice ba bs.length bc, .map (some w.heap.size), .slice none 0 0] 95)
    rw [World.size_alloc] at this
    exact this
  case round =>
    obtain ⟨k, hk, rfl, hblk, hown, hb⟩ := hrel
    have HB : Hid (Below w.heap.size w wr) := hb
    have HK : Hid (wr.heap[w.heap.size + 1]? = some (.cells #[.slice ba bs.length bc, .map (some w.heap.size), .slice none 0 0] 95 (0, 0))) := hblk
    have HO : Hid (wr.ownsMap Tryz.prog 9 (plainElem (H := Unit) Tryz.prog 3) w.heap.size k (ixD bs k)) := hown
    have c1 : wr.cell? ⟨w.heap.size + 1, 1, none⟩ = some (.map (some w.heap.size)) := by rw [Lib.cell_of_heap hblk]; rfl
    have hwl : w.heap.size + 1 < wr.heap.size := (Array.getElem?_eq_some_iff.1 hblk).1
    by_cases hlt : k < bs.length
    · have HTB := HT.out.below hb (Nat.le_refl _)
      rcases HTB with h | ⟨g, o, rfl, hg, hc⟩
      · exfalso; rw [h] at hlt; exact absurd hlt (by simp)
      have c0 := hc k hlt
      have hsz := HS.out _ (List.getElem_mem hlt)
      have HX : Hid (ixD bs (k + 1) = (ixD bs k).put (.string (smD bs[k]).data.toList) (.lit (.int .i64 (k : Int)))) := by
        show _ = _
        unfold ixD
        rw [ixG_succ, dgAt_eq bs k hlt]
      have HSu : Hid (∀ W, Below wr.heap.size wr W → Calls Tryz.prog 16 #[.string bs[k]] W fun e w' => e = .returned (.string (smD bs[k])) ∧ Below W.heap.size W w') := fun W hW => Sm_any _ W (by omega) ((HE.out.up hb).up hW)
      have HPut : Hid (∀ W, Below wr.heap.size wr W → ∃ W2, (Instr.mapUpdate 93 (.map (some w.heap.size)) (.string (smD bs[k])) (.int .i64 (k : Int))).run Tryz.prog W = .ok () W2 ∧ W2.cell? ⟨w.heap.size + 1, 1, none⟩ = some (.map (some w.heap.size)) ∧ Hid (W2.heap[w.heap.size + 1]? = some (.cells #[.slice (some ⟨g, o, none⟩) bs.length bc, .map (some w.heap.size), .slice none 0 0] 95 (0, 0)) ∧ W2.ownsMap Tryz.prog 9 (plainElem (H := Unit) Tryz.prog 3) w.heap.size (k + 1) (ixD bs (k + 1)) ∧ Below w.heap.size w W2)) := fun W hW => by
        have ho : W.ownsMap Tryz.prog 9 (plainElem (H := Unit) Tryz.prog 3) w.heap.size k (ixD bs k) := ownsMap_heap HO.out (hW.block _ (by omega))
        obtain ⟨W2, r1, r2, r3⟩ := ho.store lawS Tryz.underlying93 (by unfold maxLen; omega) (keyOf_string_mk Tryz.underlying9 (s := smD bs[k]) (by rw [smD_size]; decide)) (plainElem_int (H := Unit) Tryz.underlying3 (a := (k : Int)) (WalkArith.wf_i64 (by omega)))
        have hWB : Below w.heap.size w W := HB.out.trans (hW.mono (by omega))
        have hblk2 : W2.heap[w.heap.size + 1]? = some (.cells #[.slice (some ⟨g, o, none⟩) bs.length bc, .map (some w.heap.size), .slice none 0 0] 95 (0, 0)) := ((r3.grown.block _ (by have := hW.size; omega) (by simp)).trans (hW.block _ hwl)).trans HK.out
        exact ⟨W2, r1, by rw [Lib.cell_of_heap hblk2]; rfl, hblk2, by rw [HX.out]; exact r2, hWB.grown r3.grown hWB.size (fun j hj => by injection hj with hj; omega)⟩
      clear hc hb hblk hown
      generalize bs[k] = tx at *
      go_wp2_with fail
      go_region_held3 (fun w' => w'.cell? ⟨w.heap.size + 1, 1, none⟩ = some (.map (some w.heap.size)))
        (first | assumption | (exact s1) | (simp [go_sem, *]; done) | (rw [hb3.cell (p := ⟨w.heap.size + 1, 1, none⟩) (by assumption)]; assumption))
        (first
          | (go_at_call 16; refine (HSu.out _ (Below.refl _ _).drew).mono ?_; rintro e w3 ⟨rfl, hb3⟩; obtain ⟨w4, hmu, s1, HX4⟩ := HPut.out w3 ((Below.refl wr.heap.size wr).drew.trans hb3))
          | fail)
      go_wp2
      exact ⟨⟨k + 1, by omega, by go_num, HX4.out⟩, by simp [intOf]; omega⟩
    · obtain rfl : k = bs.length := by omega
      have hki : ¬ (bs.length : Int) < (bs.length : Int) := by omega
      have HEnd : Hid (WS w.heap.size (w.heap.size + 1) w.heap.size (ixD bs bs.length) ba bc bs [] (.slice none 0 0) wr ∧ Below w.heap.size w wr) := by
        refine ⟨⟨hblk, hown, ?_, World.ownsRow_nil _ _ _ _, by omega, by simp [Value.ownBlock], by simp [Value.ownBlock], by omega, Nat.le_refl _⟩, hb⟩
        rcases HT.out with h | ⟨g, o, h1, h2, h3⟩
        · exact .inl h
        · exact .inr ⟨g, o, h1, h2, fun j hj => (hb.cell (p := ⟨g, o + j, none⟩) h2).trans (h3 j hj)⟩
      clear hblk hown hb
      go_wp2
      go_ret
      exact ⟨_, _, rfl, HEnd.out⟩
end Go.Proofs.YtcdgdmhlbgbklaaGreatDoor
