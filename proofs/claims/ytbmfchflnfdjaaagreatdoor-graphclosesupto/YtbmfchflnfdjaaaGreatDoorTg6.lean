/- Targets that came in as an argument, of little bulk. -/
import Derived.Test.YtbmfchflnfdjaaaGreatDoorTie
import Derived.Test.YtbmfchflnfdjaaaGreatDoorCards
import Derived.ProofKit
import Derived.OpenShut
import Derived.ShutString
import Derived.ChangeOld
import Derived.SliceStrings
import Derived.Below
import Derived.Lib.SmallJoins
import Derived.Lay
import Derived.HandedShaped
import Derived.SevenTiedAt
import Derived.Stop.Joined
import Derived.Shelf.Vars
import Derived.Deep.DeepHandedRow
import Derived.Test.YtbmfchflnfdjaaaGreatDoorTg5
namespace Go.Proofs.YtbmfchflnfdjaaaGreatDoor
open Go.ChangeShapes Go.WideShapes Go.ChangeAt Go.RowKit Go.Shelf Go.Joins
/-- What holds of targets that came in. -/
structure Fine (w : World) (ao : Option Addr) (L : List Tg) : Prop where
  is : IsTg w ao L
  len : L.length ≤ 1048576
  sz : ∀ t ∈ L, ∀ y ∈ t.ns, y.size ≤ maxLen
  nm : ∀ t ∈ L, (tnm t).length ≤ maxLen
  sum : (L.map fun t => t.ns.length).sum ≤ 1048576
theorem Fine.below {w w' : World} {ao : Option Addr} {L : List Tg} (h : Fine w ao L) (hb : Below w.heap.size w w') : Fine w' ao L := ⟨h.is.below hb (Nat.le_refl _), h.len, h.sz, h.nm, h.sum⟩
def totG : List ByteArray → Nat
  | [] => 0
  | s :: l => s.size + 1 + totG l
theorem totG_len (ss : List ByteArray) : ss.length ≤ totG ss := by
  induction ss with
  | nil => simp [totG]
  | cons s l ih => simp only [totG, List.length_cons]; omega
theorem totG_mem {ss : List ByteArray} {s : ByteArray} (h : s ∈ ss) : s.size ≤ totG ss := by
  induction ss with
  | nil => cases h
  | cons a l ih =>
    simp only [totG]
    rcases List.mem_cons.1 h with rfl | h
    · omega
    · have := ih h; omega
theorem totG_strs {H : Type} (ss : List ByteArray) : Rows.uptoBulkAll (Go.ChangeShapes.strs (H := H) ss) = totG ss := by
  induction ss with
  | nil => simp [Go.ChangeShapes.strs, Rows.uptoBulkAll, totG]
  | cons s l ih =>
    have e : Go.ChangeShapes.strs (H := H) (s :: l) = .lit (.string s.data.toList) :: Go.ChangeShapes.strs l := rfl
    have e2 : s.data.toList.length = s.size := by simp
    rw [e]
    simp only [Rows.uptoBulkAll, Rows.uptoBulk, totG, ih, e2]
theorem bulkG_sum {H : Type} : ∀ (a : List Nat) (ds : List (DataW H)), a.length = ds.length → (∀ i (h1 : i < a.length) (h2 : i < ds.length), a[i] ≤ Rows.uptoBulk ds[i]) → a.sum ≤ Rows.uptoBulkAll ds
  | [], _, _, _ => Nat.zero_le _
  | x :: a, [], h, _ => by simp at h
  | x :: a, d :: ds, h, hp => by
    have h0 := hp 0 (by simp) (by simp)
    have ih := bulkG_sum a ds (by simpa using h) fun i h1 h2 => hp (i + 1) (by simp; omega) (by simp; omega)
    simp only [Rows.uptoBulkAll, List.sum_cons]
    simp at h0
    omega
theorem bulkG_mem {H : Type} : ∀ (ds : List (DataW H)) (i : Nat) (h : i < ds.length), Rows.uptoBulk ds[i] ≤ Rows.uptoBulkAll ds
  | d :: ds, 0, _ => by simp only [Rows.uptoBulkAll, List.getElem_cons_zero]; omega
  | d :: ds, i + 1, h => by
    have := bulkG_mem ds i (by simpa using h)
    simp only [Rows.uptoBulkAll, List.getElem_cons_succ]
    omega
theorem bulkG_len {H : Type} (l : List (DataW H)) : l.length ≤ Rows.uptoBulkAll l := by
  induction l with
  | nil => exact Nat.zero_le _
  | cons d r ih =>
    have h1 : 1 ≤ Rows.uptoBulk d := by
      cases d with
      | lit x => cases x <;> simp [Rows.uptoBulk]
      | _ => simp [Rows.uptoBulk]
    simp only [Rows.uptoBulkAll, List.length_cons]
    omega

set_option maxRecDepth 100000 in
/-- A slice of texts that stands in a field. -/
theorem fieldG {H : Type} {enc : TypeId × Value → H} {W : World} {v : Value} {n : Nat} {y : DataW H × List MemPlace}
    (hf : DataW.trod enc Tryz.prog W 0 (fun _ => true) true n 25 [v] = some y) (hr : Rows.uptoBulk y.1 ≤ 1048576) : ∃ ss, TxIn W v ss ∧ (∀ s ∈ ss, s.size ≤ maxLen) ∧ ss.length + 1 ≤ Rows.uptoBulk y.1 := by
  rcases open_strings Tryz.underlying25 Tryz.underlying9 (by kernel_rfl) hf with ⟨hcs, hx⟩ | ⟨x, l, c, ss, hcs, _, hl, hm, hz, hx, hcell, hws⟩
  · obtain rfl : v = .slice none 0 0 := by simpa using hcs
    exact ⟨[], ⟨⟨none, 0, 0, rfl⟩, Nat.zero_le _, none, 0, rfl, .inl rfl⟩, (fun s hs => by cases hs), by rw [hx]; simp [Rows.uptoBulk]⟩
  · obtain rfl : v = .slice (some x) l c := by simpa using hcs
    have hz' : ss.length = c := by simpa using hz
    have hlen : (ss.take l).length = l := by rw [List.length_take]; omega
    have hT : totG (ss.take l) + 1 ≤ Rows.uptoBulk y.1 := by
      rw [hx]
      simp only [Rows.uptoBulk, totG_strs]
      omega
    have hb := totG_len (ss.take l)
    refine ⟨ss.take l, ⟨⟨_, _, _, rfl⟩, by omega, some x, c, by rw [hlen], ?_⟩, fun s hs => hws s (List.mem_of_mem_take hs), by omega⟩
    by_cases h0 : l = 0
    · exact .inl (by rw [h0]; rfl)
    · obtain ⟨b, off, spot⟩ := x
      have hc0 := hcell 0 (by omega)
      have hspot : spot = none := by simpa [Addr.add] using World.cell?_spot hc0
      subst hspot
      refine .inr ⟨b, off, rfl, by simpa [Addr.add] using World.block_lt_of_cell? W _ hc0, fun j hj => ?_⟩
      rw [hlen] at hj
      rw [← Go.WideShapes.add_plain, hcell j (by omega)]
      simp [List.getD, List.getElem?_eq_getElem (show j < ss.length by omega)]
theorem cellsTg : Tryz.prog.cellsOf 36 = 5 := by kernel_rfl

set_option maxRecDepth 100000 in
theorem arg_target {H : Type} {enc : TypeId × Value → H} {W : World} {cs : List Value} {n : Nat} {y : DataW H × List MemPlace} (hl : cs.length = 5)
    (h : DataW.trod enc Tryz.prog W 0 (fun _ => true) true n 36 cs = some y) (hr : Rows.uptoBulk y.1 ≤ 1048576) : ∃ t : Tg, cs = tgC t ∧ (TxIn W t.vs t.ss ∧ TxIn W t.vn t.ns ∧ TxIn W t.vo t.os ∧ TxIn W t.vc t.cs) ∧ t.nm.size ≤ 1048576 ∧ t.nm.size ≤ maxLen ∧ (∀ s ∈ t.ns, s.size ≤ maxLen) ∧ t.ns.length ≤ Rows.uptoBulk y.1 := by
  match cs, hl with
  | [c0, c1, c2, c3, c4], _ =>
    obtain ⟨xs, m, _, rfl, _, hlen, hf⟩ := DataW.trod_struct Tryz.underlying36 h
    match xs, hlen with
    | [y0, y1, y2, y3, y4], _ =>
      have k1 : Tryz.prog.cellsOf 9 = 1 := by kernel_rfl
      have k2 : Tryz.prog.cellsOf 25 = 1 := by kernel_rfl
      have h0 := hf 0 _ rfl
      have h1 := hf 1 _ rfl
      have h2 := hf 2 _ rfl
      have h3 := hf 3 _ rfl
      have h4 := hf 4 _ rfl
      simp [k1, k2] at h0 h1 h2 h3 h4
      simp only [Rows.uptoBulk, Rows.uptoBulkAll, List.map_cons, List.map_nil] at hr ⊢
      obtain ⟨s, e0, e1, z0⟩ := DataW.trod_string Tryz.underlying9 h0
      simp at e0
      subst e0
      have hs0 : s.size ≤ 1048576 := by
        have e2 : s.data.toList.length = s.size := by simp
        rw [e1] at hr
        simp only [Rows.uptoBulk, e2] at hr
        omega
      obtain ⟨s1, t1, q1, r1⟩ := fieldG h1 (by omega)
      obtain ⟨s2, t2, q2, r2⟩ := fieldG h2 (by omega)
      obtain ⟨s3, t3, q3, r3⟩ := fieldG h3 (by omega)
      obtain ⟨s4, t4, q4, r4⟩ := fieldG h4 (by omega)
      exact ⟨⟨s, c1, c2, c3, c4, s1, s2, s3, s4⟩, rfl, ⟨t1, t2, t3, t4⟩, hs0, z0, q2, by show s2.length ≤ _; omega⟩

set_option maxRecDepth 100000 in
theorem arg_targets {H : Type} {enc : TypeId × Value → H} {W : World} {v : Value} {d : DataW H} {p : List MemPlace} {base : Nat}
    (hv : Value.okWide Tryz.prog W .any base 22 v) (h : DataW.Trod enc Tryz.prog W 0 (fun _ => true) true 22 v d p) (hr : Rows.uptoBulk d ≤ 1048576) : ∃ (L : List Tg) (ao : Option Addr) (cap : Nat), v = .slice ao L.length cap ∧ Fine W ao L ∧ L.length ≤ cap ∧ (ao = none → cap = 0) := by
  obtain ⟨a, len, cap, rfl⟩ := okWide_slice Tryz.underlying22 hv
  obtain ⟨fuel, hf⟩ := h
  rcases DataW.trod_slice Tryz.underlying22 hf with ⟨hcs, _⟩ | ⟨x, l, c, elems, rest, n, _, hcs, hx, _, hlc, _, hlen, hel, _, _⟩
  · simp [Value.cells] at hcs
    obtain ⟨rfl, rfl, rfl⟩ := hcs
    exact ⟨[], none, 0, rfl, ⟨⟨.inl rfl, (fun t ht => by cases ht), (fun t ht => by cases ht)⟩, Nat.zero_le _, (fun t ht => by cases ht), (fun t ht => by cases ht), Nat.zero_le _⟩, Nat.le_refl _, fun _ => rfl⟩
  · simp [Value.cells] at hcs
    obtain ⟨rfl, rfl, rfl⟩ := hcs
    have hd : d = .slice (elems.map (·.1)) (rest.map (·.1)) := congrArg Prod.fst hx
    have hbk : Rows.uptoBulkAll (elems.map (·.1)) ≤ 1048576 := by
      rw [hd] at hr
      simp only [Rows.uptoBulk] at hr
      omega
    have hb : len ≤ 1048576 := by
      have := bulkG_len (elems.map (·.1))
      rw [List.length_map] at this
      omega
    have each : ∀ i : Fin len, ∃ t : Tg, (TxIn W t.vs t.ss ∧ TxIn W t.vn t.ns ∧ TxIn W t.vo t.os ∧ TxIn W t.vc t.cs) ∧ t.nm.size ≤ 1048576 ∧ t.nm.size ≤ maxLen ∧ (∀ s ∈ t.ns, s.size ≤ maxLen) ∧ t.ns.length ≤ Rows.uptoBulk (elems[i.val]'(by omega)).1 ∧
        W.cell? (x.add (i.val * 5)) = some (.string t.nm) ∧ W.cell? ((x.add (i.val * 5)).add 1) = some t.vs ∧ W.cell? ((x.add (i.val * 5)).add 2) = some t.vn ∧ W.cell? ((x.add (i.val * 5)).add 3) = some t.vo ∧ W.cell? ((x.add (i.val * 5)).add 4) = some t.vc := by
      intro i
      have hi : i.val < elems.length := by omega
      have h1 := hel i.val i.isLt
      rw [cellsTg, List.getElem?_eq_getElem hi, Option.bind_eq_some_iff] at h1
      obtain ⟨cs', hc, hy⟩ := h1
      have hs := World.cells?_some hc
      have hbi := bulkG_mem (elems.map (·.1)) i.val (by simpa using hi)
      rw [List.getElem_map] at hbi
      obtain ⟨t, rfl, q1, q2, q3, q4, q5⟩ := arg_target (by simpa using hs.2.1) hy (by omega)
      refine ⟨t, q1, q2, q3, q4, q5, ?_, ?_, ?_, ?_, ?_⟩
      · have := hs.2.2 0 (by omega); simpa [Addr.add, tgC] using this
      · have := hs.2.2 1 (by omega); simpa [tgC] using this
      · have := hs.2.2 2 (by omega); simpa [tgC] using this
      · have := hs.2.2 3 (by omega); simpa [tgC] using this
      · have := hs.2.2 4 (by omega); simpa [tgC] using this
    obtain ⟨f, hf2⟩ := Classical.axiomOfChoice each
    have hlen2 : (List.ofFn f).length = len := by simp
    have hmem : ∀ t ∈ List.ofFn f, ∃ i, t = f i := fun t ht => by
      obtain ⟨i, hi⟩ := List.mem_ofFn.1 ht
      exact ⟨i, hi.symm⟩
    refine ⟨List.ofFn f, some x, cap, by rw [hlen2], ⟨⟨?_, fun t ht => ?_, fun t ht => ?_⟩, by rw [hlen2]; exact hb, fun t ht => ?_, fun t ht => ?_, ?_⟩, by rw [hlen2]; exact hlc, fun e => by cases e⟩
    · by_cases h0 : len = 0
      · exact .inl (List.length_eq_zero_iff.1 (hlen2.trans h0))
      · obtain ⟨b, off, spot⟩ := x
        have c0 := (hf2 ⟨0, by omega⟩).2.2.2.2.2.1
        have hspot : spot = none := by simpa [Addr.add] using World.cell?_spot c0
        subst hspot
        refine .inr ⟨b, off, rfl, by simpa [Addr.add] using World.block_lt_of_cell? W _ c0, fun j hj => ?_⟩
        rw [hlen2] at hj
        rw [List.getElem_ofFn]
        have k := (hf2 ⟨j, hj⟩).2.2.2.2.2
        simp only [addr_add] at k
        exact k
    · obtain ⟨i, rfl⟩ := hmem t ht
      exact (hf2 i).1
    · obtain ⟨i, rfl⟩ := hmem t ht
      exact (hf2 i).2.1
    · obtain ⟨i, rfl⟩ := hmem t ht
      exact (hf2 i).2.2.2.1
    · obtain ⟨i, rfl⟩ := hmem t ht
      have := (hf2 i).2.2.1
      simpa [tnm] using this
    · refine Nat.le_trans (bulkG_sum _ (elems.map (·.1)) (by simp [hlen]) fun i h1 h2 => ?_) hbk
      have hi : i < len := by simpa using h1
      have k := (hf2 ⟨i, hi⟩).2.2.2.2.1
      simpa using k
end Go.Proofs.YtbmfchflnfdjaaaGreatDoor

/- Targets turned round: the law's walk. -/
namespace Go.Proofs.YtbmfchflnfdjaaaGreatDoor
open Go.RowKit Go.Shelf Go.Maps
attribute [local go_sem ↓] appG_eq2
theorem Fine.rot {w w2 : World} {ao : Option Addr} {L : List Tg} {rg k : Nat} (h : Fine w ao L) (hb : Below w.heap.size w w2) (hc : TgAt rg 0 (rotL L k) w2) (hg : rg < w2.heap.size) : Fine w2 (some ⟨rg, 0, none⟩) (rotL L k) := by
  have hp := rotL_perm L k
  refine ⟨rot_is h.is hb hc hg, by rw [hp.length_eq]; exact h.len, fun t ht => h.sz t (hp.mem_iff.1 ht), fun t ht => h.nm t (hp.mem_iff.1 ht), ?_⟩
  rw [(hp.map fun t => t.ns.length).sum_nat]
  exact h.sum
theorem Fine.order {w : World} {ao : Option Addr} {L : List Tg} (h : Fine w ao L) (n cap : Nat) (hn : n = L.length) (W : World) (hb : Below w.heap.size w W) : Calls Tryz.prog 7 #[.slice ao n cap] W fun e w' => ∃ v code, e = .returned (.tuple #[v, .int .i64 code]) ∧ Hid (∃ out, LsA (ckN L) (nfL L) (fun k => k ∈ L.map tnm) out code ∧ TxIn w' v out ∧ Below W.heap.size W w') := by
  subst hn
  refine (Order_tw ao cap L W (h.below hb).is h.len h.sz h.nm).mono fun e w' ⟨out, code, v, q1, q2, q3, q4⟩ => ⟨v, code, q2, out, q1, row_tx q3 (out_len q1 (fun _ k hk => hk) h.len), q4⟩
theorem Fine.cone {w : World} {ao : Option Addr} {L : List Tg} (h : Fine w ao L) (n cap : Nat) (hn : n = L.length) (x : ByteArray) (hx : x.size ≤ maxLen) (W : World) (hb : Below w.heap.size w W) : Calls Tryz.prog 8 #[.slice ao n cap, .string x] W fun e w' => ∃ v code, e = .returned (.tuple #[v, .int .i64 code]) ∧ Hid (∃ out, LsA (ckW L x) (nfL L) (CnS L x) out code ∧ TxIn w' v out ∧ Below W.heap.size W w') := by
  subst hn
  refine (Cone_tw ao cap L x W (h.below hb).is h.len h.sz h.nm hx).mono fun e w' ⟨out, code, v, q1, q2, q3, q4⟩ => ⟨v, code, q2, out, q1, row_tx q3 (out_len q1 (fun h0 => cn_in h0) h.len), q4⟩
theorem Fine.users {w : World} {ao : Option Addr} {L : List Tg} (h : Fine w ao L) (n cap : Nat) (hn : n = L.length) (x : ByteArray) (hx : x.size ≤ maxLen) (W : World) (hb : Below w.heap.size w W) : Calls Tryz.prog 9 #[.slice ao n cap, .string x] W fun e w' => ∃ v code, e = .returned (.tuple #[v, .int .i64 code]) ∧ Hid (∃ out, UsA (ckW L x) (UsT L x) out code ∧ TxIn w' v out ∧ Below W.heap.size W w') := by
  subst hn
  refine (Users_tw ao cap L x W (h.below hb).is h.len h.sz h.nm hx h.sum).mono fun e w' ⟨out, code, v, q1, q2, q3, q4⟩ => ⟨v, code, q2, out, q1, row_tx q3 (us_len q1 h.len), q4⟩
theorem Fine.depth {w : World} {ao : Option Addr} {L : List Tg} (h : Fine w ao L) (n cap : Nat) (hn : n = L.length) (x : ByteArray) (hx : x.size ≤ maxLen) (W : World) (hb : Below w.heap.size w W) : Calls Tryz.prog 10 #[.slice ao n cap, .string x] W fun e w' => ∃ d code, e = .returned (.tuple #[.int .i64 d, .int .i64 code]) ∧ Hid (DpA (ckW L x) (nfL L) (CnS L x) (tl x) d code ∧ Below W.heap.size W w') := by
  subst hn
  refine (Depth_any ao cap L x W (h.below hb).is h.len h.sz h.nm hx).mono fun e w' ⟨d, code, q1, q2, q3⟩ => ⟨d, code, q2, q1, q3⟩

set_option maxHeartbeats 8000000 in
set_option maxRecDepth 100000 in
theorem turns_walk (ao : Option Addr) (cap : Nat) (L : List Tg) (turn : Int) (x : ByteArray) (w : World) (h : Fine w ao L) (hm : MaxIs w) (hx : x.size ≤ maxLen) (hcap : L.length ≤ cap) (hnil : ao = none → cap = 0) (ht0 : -9223372036854775808 ≤ turn) (ht1 : turn ≤ 9223372036854775807) :
    Calls Tryz.prog 3 #[.slice ao L.length cap, .int .i64 turn, .string x] w fun e w' => e = .returned (.bool true) ∧ Below w.heap.size w w' := by
  have HBg : Hid (Calls Tryz.prog 5 #[] w fun e w' => e = .returned (.bool true) ∧ Below w.heap.size w w') := begun_any w hm
  have HX : Hid (x.size ≤ maxLen) := hx
  have hln := h.len
  have HBg : Hid (Calls Tryz.prog 5 #[] w fun e w' => e = .returned (.bool true) ∧ Below w.heap.size w w') := begun_any w hm
  have HX : Hid (x.size ≤ maxLen) := hx
  have hln := h.len
  have HBg : Hid (Calls Tryz.prog 5 #[] w fun e w' => e = .returned (.bool true) ∧ Below w.heap.size w w') := begun_any w hm
  have HX : Hid (x.size ≤ maxLen) := hx
  have hln := h.len
  have HBg : Hid (Calls Tryz.prog 5 #[] w fun e w' => e = .returned (.bool true) ∧ Below w.heap.size w w') := begun_any w hm
  have HX : Hid (x.size ≤ maxLen) := hx
  have hln := h.len
  by_cases h0 : L = []
  · have HF0 : Hid (Fine w ao L) := h
    have HL1 : Hid (0 = L.length) := by rw [h0]; rfl
    rw [show L.length = 0 by rw [h0]; rfl] at hcap ⊢
    have hap := fun (g : Nat) (W : World) => appTN g cap W ao
    clear h hm hln
    go_enter Tryz.func3, Tryz.ntmps3
    go_wp2_with fail
    refine HBg.out.mono ?_
    rintro e w1 ⟨rfl, hb1⟩
    have HB1 : Hid (Below w.heap.size w w1) := hb1
    clear hb1 HBg
    go_wp2_with fail
    go_region
    all_goals go_wp2_with fail
    have hA : Below w1.heap.size w1 ((w1.alloc (.cells #[] 36)).drew) := ⟨rfl, rfl, rfl, ((Below.refl w1.heap.size w1).alloc (Nat.le_refl _) _).size, ((Below.refl w1.heap.size w1).alloc (Nat.le_refl _) _).block⟩
    have HBo : Hid (Below w.heap.size w ((w1.alloc (.cells #[] 36)).drew)) := HB1.out.trans (hA.mono HB1.out.size)
    have HF : Hid (Fine ((w1.alloc (.cells #[] 36)).drew) ao L) := HF0.out.below HBo.out
    have HR : Hid (Fine ((w1.alloc (.cells #[] 36)).drew) (some ⟨w1.heap.size, 0, none⟩) L) := ⟨⟨.inl h0, HF.out.is.tx, HF.out.is.sz⟩, HF.out.len, HF.out.sz, HF.out.nm, HF.out.sum⟩
    have HP : Hid (L.Perm L) := List.Perm.refl L
    have HL2 : Hid (0 = L.length) := HL1.out
    clear hA HF0 HB1 hap h0
    generalize (w1.alloc (.cells #[] 36)).drew = wb at *
    have HB0 : Hid (Below wb.heap.size wb wb) := Below.refl _ _
    refine (HF.out.order 0 cap HL1.out wb HB0.out).mono ?_
    rintro e u1 ⟨v1, c1, rfl, G1⟩
    have bx : Below wb.heap.size wb u1 := by
      obtain ⟨_, _, _, q⟩ := G1.out
      exact q
    have HB1 : Hid (Below wb.heap.size wb u1) := HB0.out.trans (bx.mono HB0.out.size)
    clear bx
    go_wp2_with fail
    refine (HR.out.order 0 0 HL2.out u1 HB1.out).mono ?_
    rintro e u2 ⟨v2, c2, rfl, G2⟩
    have bx : Below u1.heap.size u1 u2 := by
      obtain ⟨_, _, _, q⟩ := G2.out
      exact q
    have HB2 : Hid (Below wb.heap.size wb u2) := HB1.out.trans (bx.mono HB1.out.size)
    clear bx
    have HT2 : Hid (∃ o, TxIn u2 v1 o ∧ TxIn u2 v2 o) ∧ c1 = c2 := by
      obtain ⟨o1, a1, t1, _⟩ := G1.out
      obtain ⟨o2, a2, t2, b2⟩ := G2.out
      obtain ⟨e1, e2⟩ := ls_perm HP.out a1 a2
      subst e1 e2
      exact ⟨⟨o1, t1.below b2 (Nat.le_refl _), t2⟩, rfl⟩
    obtain ⟨HT2_, hc⟩ := HT2
    subst hc
    clear G1 G2
    go_wp2_with fail
    refine (HF.out.cone 0 cap HL1.out x HX.out u2 HB2.out).mono ?_
    rintro e u3 ⟨v3, c3, rfl, G3⟩
    have bx : Below u2.heap.size u2 u3 := by
      obtain ⟨_, _, _, q⟩ := G3.out
      exact q
    have HB3 : Hid (Below wb.heap.size wb u3) := HB2.out.trans (bx.mono HB2.out.size)
    have HT2_3 : Hid (∃ o, TxIn u3 v1 o ∧ TxIn u3 v2 o) := by
      obtain ⟨o, p, q⟩ := HT2_.out
      exact ⟨o, p.below bx (Nat.le_refl _), q.below bx (Nat.le_refl _)⟩
    clear HT2_
    clear bx
    go_wp2_with fail
    refine (HR.out.cone 0 0 HL2.out x HX.out u3 HB3.out).mono ?_
    rintro e u4 ⟨v4, c4, rfl, G4⟩
    have bx : Below u3.heap.size u3 u4 := by
      obtain ⟨_, _, _, q⟩ := G4.out
      exact q
    have HB4 : Hid (Below wb.heap.size wb u4) := HB3.out.trans (bx.mono HB3.out.size)
    have HT2_4 : Hid (∃ o, TxIn u4 v1 o ∧ TxIn u4 v2 o) := by
      obtain ⟨o, p, q⟩ := HT2_3.out
      exact ⟨o, p.below bx (Nat.le_refl _), q.below bx (Nat.le_refl _)⟩
    clear HT2_3
    clear bx
    have HT4 : Hid (∃ o, TxIn u4 v3 o ∧ TxIn u4 v4 o) ∧ c3 = c4 := by
      obtain ⟨o1, a1, t1, _⟩ := G3.out
      obtain ⟨o2, a2, t2, b2⟩ := G4.out
      obtain ⟨e1, e2⟩ := cn_perm HP.out a1 a2
      subst e1 e2
      exact ⟨⟨o1, t1.below b2 (Nat.le_refl _), t2⟩, rfl⟩
    obtain ⟨HT4_, hc⟩ := HT4
    subst hc
    clear G3 G4
    go_wp2_with fail
    refine (HF.out.users 0 cap HL1.out x HX.out u4 HB4.out).mono ?_
    rintro e u5 ⟨v5, c5, rfl, G5⟩
    have bx : Below u4.heap.size u4 u5 := by
      obtain ⟨_, _, _, q⟩ := G5.out
      exact q
    have HB5 : Hid (Below wb.heap.size wb u5) := HB4.out.trans (bx.mono HB4.out.size)
    have HT2_5 : Hid (∃ o, TxIn u5 v1 o ∧ TxIn u5 v2 o) := by
      obtain ⟨o, p, q⟩ := HT2_4.out
      exact ⟨o, p.below bx (Nat.le_refl _), q.below bx (Nat.le_refl _)⟩
    clear HT2_4
    have HT4_5 : Hid (∃ o, TxIn u5 v3 o ∧ TxIn u5 v4 o) := by
      obtain ⟨o, p, q⟩ := HT4_.out
      exact ⟨o, p.below bx (Nat.le_refl _), q.below bx (Nat.le_refl _)⟩
    clear HT4_
    clear bx
    go_wp2_with fail
    refine (HR.out.users 0 0 HL2.out x HX.out u5 HB5.out).mono ?_
    rintro e u6 ⟨v6, c6, rfl, G6⟩
    have bx : Below u5.heap.size u5 u6 := by
      obtain ⟨_, _, _, q⟩ := G6.out
      exact q
    have HB6 : Hid (Below wb.heap.size wb u6) := HB5.out.trans (bx.mono HB5.out.size)
    have HT2_6 : Hid (∃ o, TxIn u6 v1 o ∧ TxIn u6 v2 o) := by
      obtain ⟨o, p, q⟩ := HT2_5.out
      exact ⟨o, p.below bx (Nat.le_refl _), q.below bx (Nat.le_refl _)⟩
    clear HT2_5
    have HT4_6 : Hid (∃ o, TxIn u6 v3 o ∧ TxIn u6 v4 o) := by
      obtain ⟨o, p, q⟩ := HT4_5.out
      exact ⟨o, p.below bx (Nat.le_refl _), q.below bx (Nat.le_refl _)⟩
    clear HT4_5
    clear bx
    have HT6 : Hid (∃ o, TxIn u6 v5 o ∧ TxIn u6 v6 o) ∧ c5 = c6 := by
      obtain ⟨o1, a1, t1, _⟩ := G5.out
      obtain ⟨o2, a2, t2, b2⟩ := G6.out
      obtain ⟨e1, e2⟩ := us_perm HP.out a1 a2
      subst e1 e2
      exact ⟨⟨o1, t1.below b2 (Nat.le_refl _), t2⟩, rfl⟩
    obtain ⟨HT6_, hc⟩ := HT6
    subst hc
    clear G5 G6
    go_wp2_with fail
    refine (HF.out.depth 0 cap HL1.out x HX.out u6 HB6.out).mono ?_
    rintro e u7 ⟨v7, c7, rfl, G7⟩
    have bx : Below u6.heap.size u6 u7 := G7.out.2
    have HB7 : Hid (Below wb.heap.size wb u7) := HB6.out.trans (bx.mono HB6.out.size)
    have HT2_7 : Hid (∃ o, TxIn u7 v1 o ∧ TxIn u7 v2 o) := by
      obtain ⟨o, p, q⟩ := HT2_6.out
      exact ⟨o, p.below bx (Nat.le_refl _), q.below bx (Nat.le_refl _)⟩
    clear HT2_6
    have HT4_7 : Hid (∃ o, TxIn u7 v3 o ∧ TxIn u7 v4 o) := by
      obtain ⟨o, p, q⟩ := HT4_6.out
      exact ⟨o, p.below bx (Nat.le_refl _), q.below bx (Nat.le_refl _)⟩
    clear HT4_6
    have HT6_7 : Hid (∃ o, TxIn u7 v5 o ∧ TxIn u7 v6 o) := by
      obtain ⟨o, p, q⟩ := HT6_.out
      exact ⟨o, p.below bx (Nat.le_refl _), q.below bx (Nat.le_refl _)⟩
    clear HT6_
    clear bx
    go_wp2_with fail
    refine (HR.out.depth 0 0 HL2.out x HX.out u7 HB7.out).mono ?_
    rintro e u8 ⟨v8, c8, rfl, G8⟩
    have bx : Below u7.heap.size u7 u8 := G8.out.2
    have HB8 : Hid (Below wb.heap.size wb u8) := HB7.out.trans (bx.mono HB7.out.size)
    have HT2_8 : Hid (∃ o, TxIn u8 v1 o ∧ TxIn u8 v2 o) := by
      obtain ⟨o, p, q⟩ := HT2_7.out
      exact ⟨o, p.below bx (Nat.le_refl _), q.below bx (Nat.le_refl _)⟩
    clear HT2_7
    have HT4_8 : Hid (∃ o, TxIn u8 v3 o ∧ TxIn u8 v4 o) := by
      obtain ⟨o, p, q⟩ := HT4_7.out
      exact ⟨o, p.below bx (Nat.le_refl _), q.below bx (Nat.le_refl _)⟩
    clear HT4_7
    have HT6_8 : Hid (∃ o, TxIn u8 v5 o ∧ TxIn u8 v6 o) := by
      obtain ⟨o, p, q⟩ := HT6_7.out
      exact ⟨o, p.below bx (Nat.le_refl _), q.below bx (Nat.le_refl _)⟩
    clear HT6_7
    clear bx
    obtain ⟨hv, hc⟩ := dp_perm HP.out G7.out.1 G8.out.1
    subst hv hc
    clear G7 G8
    clear HF HR HL1 HL2 HP HX
    go_wp2_with fail
    have HC : Hid (Calls Tryz.prog 11 #[v1, v2] u8 fun e w' => e = .returned (.bool true) ∧ Hid (Below u8.heap.size u8 w')) := by
      obtain ⟨o, p, q⟩ := HT2_8.out
      exact Same_yes v1 v2 o u8 p q
    refine HC.out.mono ?_
    rintro e z2 ⟨rfl, GS⟩
    have bx := GS.out
    have HBz2 : Hid (Below wb.heap.size wb z2) := HB8.out.trans (bx.mono HB8.out.size)
    have HT4_z2 : Hid (∃ o, TxIn z2 v3 o ∧ TxIn z2 v4 o) := by
      obtain ⟨o, p, q⟩ := HT4_8.out
      exact ⟨o, p.below bx (Nat.le_refl _), q.below bx (Nat.le_refl _)⟩
    clear HT4_8
    have HT6_z2 : Hid (∃ o, TxIn z2 v5 o ∧ TxIn z2 v6 o) := by
      obtain ⟨o, p, q⟩ := HT6_8.out
      exact ⟨o, p.below bx (Nat.le_refl _), q.below bx (Nat.le_refl _)⟩
    clear HT6_8
    clear HC GS bx
    go_wp2_with fail
    have HC : Hid (Calls Tryz.prog 11 #[v3, v4] z2 fun e w' => e = .returned (.bool true) ∧ Hid (Below z2.heap.size z2 w')) := by
      obtain ⟨o, p, q⟩ := HT4_z2.out
      exact Same_yes v3 v4 o z2 p q
    refine HC.out.mono ?_
    rintro e z4 ⟨rfl, GS⟩
    have bx := GS.out
    have HBz4 : Hid (Below wb.heap.size wb z4) := HBz2.out.trans (bx.mono HBz2.out.size)
    have HT6_z4 : Hid (∃ o, TxIn z4 v5 o ∧ TxIn z4 v6 o) := by
      obtain ⟨o, p, q⟩ := HT6_z2.out
      exact ⟨o, p.below bx (Nat.le_refl _), q.below bx (Nat.le_refl _)⟩
    clear HT6_z2
    clear HC GS bx
    go_wp2_with fail
    have HC : Hid (Calls Tryz.prog 11 #[v5, v6] z4 fun e w' => e = .returned (.bool true) ∧ Hid (Below z4.heap.size z4 w')) := by
      obtain ⟨o, p, q⟩ := HT6_z4.out
      exact Same_yes v5 v6 o z4 p q
    refine HC.out.mono ?_
    rintro e z6 ⟨rfl, GS⟩
    have bx := GS.out
    have HBz6 : Hid (Below wb.heap.size wb z6) := HBz4.out.trans (bx.mono HBz4.out.size)
    clear HC GS bx
    go_wp2
    go_ret
    exact ⟨rfl, HBo.out.trans (HBz6.out.mono HBo.out.size)⟩
  · obtain ⟨g, o, rfl, hg, hat⟩ := h.is.at_.resolve_left h0
    have hpos : 0 < L.length := List.length_pos_iff.2 h0
    have HCh : Hid (∀ W, Calls Tryz.prog 6 #[.int .i64 turn, .int .i64 (L.length : Int)] W fun e w' => (∃ r : Nat, r < L.length ∧ e = .returned (.int .i64 (r : Int))) ∧ w' = W) := fun W => choose_any turn L.length W ht0 ht1 hpos (by omega)
    have HF0 : Hid (Fine w (some ⟨g, o, none⟩) L) := h
    have hpi : (0 : Int) < (L.length : Int) := by omega
    have hli : (L.length : Int) ≤ 1048576 := by omega
    have hci : (L.length : Int) ≤ (cap : Int) := by omega
    clear h hm hnil h0
    go_enter Tryz.func3, Tryz.ntmps3
    go_wp2_with fail
    refine HBg.out.mono ?_
    rintro e w1 ⟨rfl, hb1⟩
    have HB1 : Hid (Below w.heap.size w w1) := hb1
    clear hb1 HBg
    go_wp2_with fail
    refine (HCh.out _).mono ?_
    rintro e w2 ⟨⟨k, hk, rfl⟩, rfl⟩
    have hki : (k : Int) < (L.length : Int) := by omega
    have hkc : ¬ cap = k := by omega
    have hkc2 : (k : Int) ≤ (cap : Int) := by omega
    obtain ⟨v1, rg, rc, wa, wb, r1, r2, hT, hrg, hbb⟩ := rot_ap (cap := cap) (X := w2) (Y := (w2.alloc (.cells #[] 36)).drew) (hat.below HB1.out hg) (Nat.lt_of_lt_of_le hg HB1.out.size) (sls_of HF0.out.is) ⟨rfl, rfl, rfl, ((Below.refl w2.heap.size w2).alloc (Nat.le_refl _) _).size, ((Below.refl w2.heap.size w2).alloc (Nat.le_refl _) _).block⟩ (heap_alloc_new w2 _) hln k hk
    have HR : Hid (Fine wb (some ⟨rg, 0, none⟩) (rotL L k)) := (HF0.out.below HB1.out).rot hbb hT hrg
    have HL2 : Hid (L.length = (rotL L k).length) := (rotL_perm L k).length_eq.symm
    have HBo : Hid (Below w.heap.size w wb) := HB1.out.trans (hbb.mono HB1.out.size)
    have HF : Hid (Fine wb (some ⟨g, o, none⟩) L) := HF0.out.below HBo.out
    have HP : Hid (L.Perm (rotL L k)) := (rotL_perm L k).symm
    clear HCh hat hT hrg hbb hln hk hg HF0 HB1
    obtain ⟨ln, hLn⟩ : ∃ ln, ln = L.length := ⟨_, rfl⟩
    have HL1 : Hid (ln = L.length) := hLn
    rw [← hLn] at hki r1 r2 HL2 hpi hli hci ⊢
    have hkl : k ≤ ln := by omega
    clear hLn
    generalize rotL L k = M at *
    go_wp2_with fail
    go_region
    all_goals go_wp2_with fail
    clear r1 r2
    have HB0 : Hid (Below wb.heap.size wb wb) := Below.refl _ _
    refine (HF.out.order ln cap HL1.out wb HB0.out).mono ?_
    rintro e u1 ⟨v1, c1, rfl, G1⟩
    have bx : Below wb.heap.size wb u1 := by
      obtain ⟨_, _, _, q⟩ := G1.out
      exact q
    have HB1 : Hid (Below wb.heap.size wb u1) := HB0.out.trans (bx.mono HB0.out.size)
    clear bx
    go_wp2_with fail
    refine (HR.out.order ln rc HL2.out u1 HB1.out).mono ?_
    rintro e u2 ⟨v2, c2, rfl, G2⟩
    have bx : Below u1.heap.size u1 u2 := by
      obtain ⟨_, _, _, q⟩ := G2.out
      exact q
    have HB2 : Hid (Below wb.heap.size wb u2) := HB1.out.trans (bx.mono HB1.out.size)
    clear bx
    have HT2 : Hid (∃ o, TxIn u2 v1 o ∧ TxIn u2 v2 o) ∧ c1 = c2 := by
      obtain ⟨o1, a1, t1, _⟩ := G1.out
      obtain ⟨o2, a2, t2, b2⟩ := G2.out
      obtain ⟨e1, e2⟩ := ls_perm HP.out a1 a2
      subst e1 e2
      exact ⟨⟨o1, t1.below b2 (Nat.le_refl _), t2⟩, rfl⟩
    obtain ⟨HT2_, hc⟩ := HT2
    subst hc
    clear G1 G2
    go_wp2_with fail
    refine (HF.out.cone ln cap HL1.out x HX.out u2 HB2.out).mono ?_
    rintro e u3 ⟨v3, c3, rfl, G3⟩
    have bx : Below u2.heap.size u2 u3 := by
      obtain ⟨_, _, _, q⟩ := G3.out
      exact q
    have HB3 : Hid (Below wb.heap.size wb u3) := HB2.out.trans (bx.mono HB2.out.size)
    have HT2_3 : Hid (∃ o, TxIn u3 v1 o ∧ TxIn u3 v2 o) := by
      obtain ⟨o, p, q⟩ := HT2_.out
      exact ⟨o, p.below bx (Nat.le_refl _), q.below bx (Nat.le_refl _)⟩
    clear HT2_
    clear bx
    go_wp2_with fail
    refine (HR.out.cone ln rc HL2.out x HX.out u3 HB3.out).mono ?_
    rintro e u4 ⟨v4, c4, rfl, G4⟩
    have bx : Below u3.heap.size u3 u4 := by
      obtain ⟨_, _, _, q⟩ := G4.out
      exact q
    have HB4 : Hid (Below wb.heap.size wb u4) := HB3.out.trans (bx.mono HB3.out.size)
    have HT2_4 : Hid (∃ o, TxIn u4 v1 o ∧ TxIn u4 v2 o) := by
      obtain ⟨o, p, q⟩ := HT2_3.out
      exact ⟨o, p.below bx (Nat.le_refl _), q.below bx (Nat.le_refl _)⟩
    clear HT2_3
    clear bx
    have HT4 : Hid (∃ o, TxIn u4 v3 o ∧ TxIn u4 v4 o) ∧ c3 = c4 := by
      obtain ⟨o1, a1, t1, _⟩ := G3.out
      obtain ⟨o2, a2, t2, b2⟩ := G4.out
      obtain ⟨e1, e2⟩ := cn_perm HP.out a1 a2
      subst e1 e2
      exact ⟨⟨o1, t1.below b2 (Nat.le_refl _), t2⟩, rfl⟩
    obtain ⟨HT4_, hc⟩ := HT4
    subst hc
    clear G3 G4
    go_wp2_with fail
    refine (HF.out.users ln cap HL1.out x HX.out u4 HB4.out).mono ?_
    rintro e u5 ⟨v5, c5, rfl, G5⟩
    have bx : Below u4.heap.size u4 u5 := by
      obtain ⟨_, _, _, q⟩ := G5.out
      exact q
    have HB5 : Hid (Below wb.heap.size wb u5) := HB4.out.trans (bx.mono HB4.out.size)
    have HT2_5 : Hid (∃ o, TxIn u5 v1 o ∧ TxIn u5 v2 o) := by
      obtain ⟨o, p, q⟩ := HT2_4.out
      exact ⟨o, p.below bx (Nat.le_refl _), q.below bx (Nat.le_refl _)⟩
    clear HT2_4
    have HT4_5 : Hid (∃ o, TxIn u5 v3 o ∧ TxIn u5 v4 o) := by
      obtain ⟨o, p, q⟩ := HT4_.out
      exact ⟨o, p.below bx (Nat.le_refl _), q.below bx (Nat.le_refl _)⟩
    clear HT4_
    clear bx
    go_wp2_with fail
    refine (HR.out.users ln rc HL2.out x HX.out u5 HB5.out).mono ?_
    rintro e u6 ⟨v6, c6, rfl, G6⟩
    have bx : Below u5.heap.size u5 u6 := by
      obtain ⟨_, _, _, q⟩ := G6.out
      exact q
    have HB6 : Hid (Below wb.heap.size wb u6) := HB5.out.trans (bx.mono HB5.out.size)
    have HT2_6 : Hid (∃ o, TxIn u6 v1 o ∧ TxIn u6 v2 o) := by
      obtain ⟨o, p, q⟩ := HT2_5.out
      exact ⟨o, p.below bx (Nat.le_refl _), q.below bx (Nat.le_refl _)⟩
    clear HT2_5
    have HT4_6 : Hid (∃ o, TxIn u6 v3 o ∧ TxIn u6 v4 o) := by
      obtain ⟨o, p, q⟩ := HT4_5.out
      exact ⟨o, p.below bx (Nat.le_refl _), q.below bx (Nat.le_refl _)⟩
    clear HT4_5
    clear bx
    have HT6 : Hid (∃ o, TxIn u6 v5 o ∧ TxIn u6 v6 o) ∧ c5 = c6 := by
      obtain ⟨o1, a1, t1, _⟩ := G5.out
      obtain ⟨o2, a2, t2, b2⟩ := G6.out
      obtain ⟨e1, e2⟩ := us_perm HP.out a1 a2
      subst e1 e2
      exact ⟨⟨o1, t1.below b2 (Nat.le_refl _), t2⟩, rfl⟩
    obtain ⟨HT6_, hc⟩ := HT6
    subst hc
    clear G5 G6
    go_wp2_with fail
    refine (HF.out.depth ln cap HL1.out x HX.out u6 HB6.out).mono ?_
    rintro e u7 ⟨v7, c7, rfl, G7⟩
    have bx : Below u6.heap.size u6 u7 := G7.out.2
    have HB7 : Hid (Below wb.heap.size wb u7) := HB6.out.trans (bx.mono HB6.out.size)
    have HT2_7 : Hid (∃ o, TxIn u7 v1 o ∧ TxIn u7 v2 o) := by
      obtain ⟨o, p, q⟩ := HT2_6.out
      exact ⟨o, p.below bx (Nat.le_refl _), q.below bx (Nat.le_refl _)⟩
    clear HT2_6
    have HT4_7 : Hid (∃ o, TxIn u7 v3 o ∧ TxIn u7 v4 o) := by
      obtain ⟨o, p, q⟩ := HT4_6.out
      exact ⟨o, p.below bx (Nat.le_refl _), q.below bx (Nat.le_refl _)⟩
    clear HT4_6
    have HT6_7 : Hid (∃ o, TxIn u7 v5 o ∧ TxIn u7 v6 o) := by
      obtain ⟨o, p, q⟩ := HT6_.out
      exact ⟨o, p.below bx (Nat.le_refl _), q.below bx (Nat.le_refl _)⟩
    clear HT6_
    clear bx
    go_wp2_with fail
    refine (HR.out.depth ln rc HL2.out x HX.out u7 HB7.out).mono ?_
    rintro e u8 ⟨v8, c8, rfl, G8⟩
    have bx : Below u7.heap.size u7 u8 := G8.out.2
    have HB8 : Hid (Below wb.heap.size wb u8) := HB7.out.trans (bx.mono HB7.out.size)
    have HT2_8 : Hid (∃ o, TxIn u8 v1 o ∧ TxIn u8 v2 o) := by
      obtain ⟨o, p, q⟩ := HT2_7.out
      exact ⟨o, p.below bx (Nat.le_refl _), q.below bx (Nat.le_refl _)⟩
    clear HT2_7
    have HT4_8 : Hid (∃ o, TxIn u8 v3 o ∧ TxIn u8 v4 o) := by
      obtain ⟨o, p, q⟩ := HT4_7.out
      exact ⟨o, p.below bx (Nat.le_refl _), q.below bx (Nat.le_refl _)⟩
    clear HT4_7
    have HT6_8 : Hid (∃ o, TxIn u8 v5 o ∧ TxIn u8 v6 o) := by
      obtain ⟨o, p, q⟩ := HT6_7.out
      exact ⟨o, p.below bx (Nat.le_refl _), q.below bx (Nat.le_refl _)⟩
    clear HT6_7
    clear bx
    obtain ⟨hv, hc⟩ := dp_perm HP.out G7.out.1 G8.out.1
    subst hv hc
    clear G7 G8
    clear HF HR HL1 HL2 HP HX
    go_wp2_with fail
    have HC : Hid (Calls Tryz.prog 11 #[v1, v2] u8 fun e w' => e = .returned (.bool true) ∧ Hid (Below u8.heap.size u8 w')) := by
      obtain ⟨o, p, q⟩ := HT2_8.out
      exact Same_yes v1 v2 o u8 p q
    refine HC.out.mono ?_
    rintro e z2 ⟨rfl, GS⟩
    have bx := GS.out
    have HBz2 : Hid (Below wb.heap.size wb z2) := HB8.out.trans (bx.mono HB8.out.size)
    have HT4_z2 : Hid (∃ o, TxIn z2 v3 o ∧ TxIn z2 v4 o) := by
      obtain ⟨o, p, q⟩ := HT4_8.out
      exact ⟨o, p.below bx (Nat.le_refl _), q.below bx (Nat.le_refl _)⟩
    clear HT4_8
    have HT6_z2 : Hid (∃ o, TxIn z2 v5 o ∧ TxIn z2 v6 o) := by
      obtain ⟨o, p, q⟩ := HT6_8.out
      exact ⟨o, p.below bx (Nat.le_refl _), q.below bx (Nat.le_refl _)⟩
    clear HT6_8
    clear HC GS bx
    go_wp2_with fail
    have HC : Hid (Calls Tryz.prog 11 #[v3, v4] z2 fun e w' => e = .returned (.bool true) ∧ Hid (Below z2.heap.size z2 w')) := by
      obtain ⟨o, p, q⟩ := HT4_z2.out
      exact Same_yes v3 v4 o z2 p q
    refine HC.out.mono ?_
    rintro e z4 ⟨rfl, GS⟩
    have bx := GS.out
    have HBz4 : Hid (Below wb.heap.size wb z4) := HBz2.out.trans (bx.mono HBz2.out.size)
    have HT6_z4 : Hid (∃ o, TxIn z4 v5 o ∧ TxIn z4 v6 o) := by
      obtain ⟨o, p, q⟩ := HT6_z2.out
      exact ⟨o, p.below bx (Nat.le_refl _), q.below bx (Nat.le_refl _)⟩
    clear HT6_z2
    clear HC GS bx
    go_wp2_with fail
    have HC : Hid (Calls Tryz.prog 11 #[v5, v6] z4 fun e w' => e = .returned (.bool true) ∧ Hid (Below z4.heap.size z4 w')) := by
      obtain ⟨o, p, q⟩ := HT6_z4.out
      exact Same_yes v5 v6 o z4 p q
    refine HC.out.mono ?_
    rintro e z6 ⟨rfl, GS⟩
    have bx := GS.out
    have HBz6 : Hid (Below wb.heap.size wb z6) := HBz4.out.trans (bx.mono HBz4.out.size)
    clear HC GS bx
    go_wp2
    go_ret
    exact ⟨rfl, HBo.out.trans (HBz6.out.mono HBo.out.size)⟩
end Go.Proofs.YtbmfchflnfdjaaaGreatDoor

/- A slice of texts that came in as an argument. -/
namespace Go.Proofs.YtbmfchflnfdjaaaGreatDoor
open Go.ChangeShapes Go.WideShapes Go.ChangeAt Go.RowKit Go.Shelf
open Go.ChangeMaps (open_string shut_string)

theorem own : ownKnob Tryz.prog.godebug = none := by kernel_rfl
theorem laidOut : laidOutB Tryz.prog = true := by kernel_rfl
theorem bytesS : Tryz.prog.bytesOf 9 = 16 := by kernel_rfl
set_option maxRecDepth 100000 in
/-- A slice of texts that came in. -/
theorem arg_texts {H : Type} {enc : TypeId × Value → H} {W : World} {v : Value} {d : DataW H} {p : List MemPlace} {base : Nat}
    (hv : Value.okWide Tryz.prog W .any base 25 v) (h : DataW.Trod enc Tryz.prog W 0 (fun _ => true) true 25 v d p) (hr : ∀ elems sp, d = .slice elems sp → elems.length ≤ 4611686018427387904) : ∃ ss, IsTexts W v ss := by
  obtain ⟨a, len, cap, rfl⟩ := okWide_slice Tryz.underlying25 hv
  obtain ⟨fuel, hf⟩ := h
  rcases open_strings Tryz.underlying25 Tryz.underlying9 (by kernel_rfl) hf with ⟨hcs, _⟩ | ⟨x, l, c, ss, hcs, _, hl, hm, hz, hx, hcell, hws⟩
  · simp [Value.cells] at hcs
    obtain ⟨rfl, rfl, rfl⟩ := hcs
    exact ⟨[], by decide, none, 0, rfl, Or.inl rfl⟩
  · simp [Value.cells] at hcs
    obtain ⟨rfl, rfl, rfl⟩ := hcs
    have hz' : ss.length = cap := by simpa using hz
    have hlen : (ss.take len).length = len := by rw [List.length_take]; omega
    have hb : len ≤ 4611686018427387904 := by
      have := hr _ _ (congrArg Prod.fst hx)
      simp [Go.ChangeShapes.strs] at this
      omega
    refine ⟨ss.take len, by rw [hlen]; exact hb, some x, cap, by rw [hlen], ?_⟩
    by_cases h0 : len = 0
    · exact Or.inl (by rw [h0]; rfl)
    · obtain ⟨b, off, spot⟩ := x
      have hspot : spot = none := by simpa [Addr.add] using World.cell?_spot (hcell 0 (by omega))
      subst hspot
      refine Or.inr ⟨b, off, rfl, fun j hj => ?_⟩
      rw [hlen] at hj
      rw [← Go.WideShapes.add_plain, hcell j (by omega)]
      simp [List.getD, List.getElem?_eq_getElem (show j < ss.length by omega)]

theorem arg_len {H : Type} {ts : List TypeId} {ds : List (DataW H)} (hsz : (DataW.weightsEach Tryz.prog ts ds).all (· ≤ reachBytes) = true) (j : Nat) (d : DataW H) (ht : ts[j]? = some 25) (hd : ds[j]? = some d) :
    ∀ elems sp, d = .slice elems sp → elems.length ≤ 4611686018427387904 := fun elems sp he => by
  have h1 := sized_slice hsz (j := j) (t := 25) ht (by rw [hd, he]) Tryz.underlying25
  have h2 := reachBytes_lt
  rw [bytesS] at h1
  omega
end Go.Proofs.YtbmfchflnfdjaaaGreatDoor

/- A law whose row lists variables of the program: its wrap, the world's shape kept. -/
namespace Go.Proofs.YtbmfchflnfdjaaaGreatDoor
open Go.ChangeShapes Go.WideShapes Go.ChangeAt Go.RowKit Go.Shelf

/-- What is asked of a call in a world that can be met. -/
def Meets {H : Type} (enc : TypeId × Value → H) (f : FuncId) (fn : Func) (s : ChangeSpec) (laid : List (String × DataW Unit)) : Prop :=
  ∀ (W : World) (base : Nat) (args : Array Value) (ds gs : List (DataW H)) (before : List MemPlace),
    (∀ (j : Nat) t v, fn.params[j]? = some t → args[j]? = some v → Value.okWide Tryz.prog W .any base t v) →
    DataW.Whole enc Tryz.prog fn.params.toList s.vars false W args.toList ds gs before →
    (DataW.weightsEach Tryz.prog (fn.params.toList ++ s.plain.varTypes Tryz.prog) (ds ++ gs)).all (· ≤ reachBytes) = true →
    laidMetH Tryz.prog laid W → W.ShapedOpen Tryz.prog →
    Calls Tryz.prog f args W fun e W' => ∃ v, e = .returned v ∧ s.post enc Tryz.prog fn false true false false W args v W'

set_option maxRecDepth 100000 in
theorem returns_laid {H : Type} {enc : TypeId × Value → H} {os : Os} {f : FuncId} {fn : Func} {s : ChangeSpec} {conds : List PathCond} {laid : List (String × DataW Unit)}
    (own : ownKnob Tryz.prog.godebug = none) (started : os.Started) (noInit : Tryz.checked.prog.inits.idxOf? f = none) (hfn : Tryz.checked.prog.funcs[f]? = some fn)
    (start : ∃ (w : World) (tape : Tape) (i : Input), w.os = os ∧ (w.forCall tape i).Shaped Tryz.checked.prog ∧ i.vars = [] ∧ Input.okWide Tryz.checked.prog (w.forCall tape i) .any w.heap.size f i ∧
      ((s.pre enc Tryz.checked.prog fn conds false (w.forCall tape i).memory i.args ∧ laidMetH Tryz.prog laid (w.forCall tape i).memory) ∧ sizedMet enc Tryz.checked.prog fn (OpenSpec.ofChange s) false (w.forCall tape i).memory i.args) ∧ Assume.holds {} Tryz.checked.prog (lone (Frame.enter Tryz.checked.prog f i.args .normal) [] (w.forCall tape i)))
    (meets : Meets enc f fn s laid) :
    ReturnsInHanded {} Tryz.checked os f .any (fun w args => (s.pre enc Tryz.prog fn conds false w args ∧ laidMetH Tryz.prog laid w) ∧ sizedMet enc Tryz.prog fn (OpenSpec.ofChange s) false w args) (s.post enc Tryz.prog fn false true false false) := by
  refine returnsInHanded_of_calls own started noInit start fun w tape i _ shape _ wide met _ => ?_
  obtain ⟨_, _, _, fn', h, _, _, _, _, vals⟩ := wide
  cases Option.some.inj (h.symm.trans hfn)
  obtain ⟨⟨⟨ds, gs, before, whole, _⟩, lies⟩, sized⟩ := met
  refine (meets (w.forCall tape i) w.heap.size i.args ds gs before vals (DataW.Whole.of_heap (w' := w.forCall tape i) (by rfl) whole) (sized.weights whole) (laidMetH.of_heap (by rfl) lies) shape).mono ?_
  rintro e W' ⟨v, rfl, post⟩
  exact ChangeSpec.post_blind post

set_option maxRecDepth 100000 in
theorem max_of_shaped {W : World} (h : W.ShapedOpen Tryz.prog) : MaxIs W :=
  cell_of_shapedOpen_int (t := 3) (zero := #[.int .i64 0]) h (by decide +kernel) (by kernel_rfl) rfl (by kernel_rfl) (by kernel_rfl) Tryz.underlying3
end Go.Proofs.YtbmfchflnfdjaaaGreatDoor

/- The second form of a row that lists variables, the world's shape kept: its witness. -/
namespace Go.Proofs.YtbmfchflnfdjaaaGreatDoor
open Go.ChangeShapes Go.WideShapes Go.ChangeAt Go.RowKit Go.Shelf

theorem witness_up {H : Type} {enc : TypeId × Value → H} {C : Checked} {os : Os} {f : FuncId} {fn : Func} {s : OpenSpec} {conds : List PathCond} {apart : Bool} {laid : List (String × DataW Unit)} (w0 : World) (args : Array Value) (hos : w0.os = os)
    (hsh : (w0.forCall (fun _ _ => 0) ⟨#[], args, []⟩).Shaped C.prog)
    (hok : Input.okWideB C.prog (w0.forCall (fun _ _ => 0) ⟨#[], args, []⟩) f ⟨#[], args, []⟩ = true)
    (hrow : s.preRow enc C.prog fn conds apart laid (w0.forCall (fun _ _ => 0) ⟨#[], args, []⟩).memory args) :
    ∃ (w : World) (tape : Tape) (i : Input), w.os = os ∧ (w.forCall tape i).Shaped C.prog ∧ i.vars = [] ∧ Input.okWide C.prog (w.forCall tape i) .any w.heap.size f i ∧
      s.preRow enc C.prog fn conds apart laid (w.forCall tape i).memory i.args ∧ ({} : Assume).holds C.prog (lone (Frame.enter C.prog f i.args .normal) [] (w.forCall tape i)) :=
  ⟨w0, fun _ _ => 0, ⟨#[], args, []⟩, hos, hsh, (Input.okWide_of_okWideB (base := 0) hok).1, (Input.okWide_of_okWideB hok).2, hrow, by
    simp only [Assume.holds]
    exact ⟨by simp, by simp, fun _ => Modest.zero, by simp, by simp⟩⟩
end Go.Proofs.YtbmfchflnfdjaaaGreatDoor
