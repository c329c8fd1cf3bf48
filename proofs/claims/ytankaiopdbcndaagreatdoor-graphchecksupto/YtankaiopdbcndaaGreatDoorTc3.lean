/- What targets need: needsOf, needsWith. -/
import Derived.Maps.RangeWalk
import Derived.Sort.KeysCollected
import Derived.Test.YtankaiopdbcndaaGreatDoorTc2
namespace Go.Proofs.YtankaiopdbcndaaGreatDoor
open Go.RowKit Go.Shelf Go.Maps Go.WideMaps

theorem zeroSl (w : World) : (zeroValue 23).run Tryz.prog w = .ok (.slice none 0 0) w := by kernel_rfl
theorem omapG {H : Type} {w w' : World} {P : Program} {k : TypeId} {R : Value → Option (DataW H × List MemPlace)} {b n : Nat} {D : DataW H} (h : w.ownsMap P k R b n D) (hh : w'.heap[b]? = w.heap[b]?) : w'.ownsMap P k R b n D := by
  obtain ⟨es, clock, hb, rest⟩ := h
  exact ⟨es, clock, hh.trans hb, rest⟩
/-- A name looked for among links. -/
theorem lookL {w : World} {M n : Nat} {D : DataW Unit} (h : w.ownsMap Tryz.prog 9 slE M n D) (x : ByteArray) (hs : x.size ≤ maxLen) : ∃ v ps, (Instr.lookup 53 (.map (some M)) (.string x) true).run Tryz.prog w = .ok (.tuple #[v, .bool (Maps.has D (.string x.data.toList))]) w ∧ slE v = some (D.atKey (.string x.data.toList) (slD (.slice none 0 0)), ps) :=
  h.look_ok lawS Tryz.underlying53 (zeroSl w) (zd := slD (.slice none 0 0)) (zp := []) rfl (keyOf_string_mk Tryz.underlying9 hs)

set_option maxHeartbeats 2000000 in
theorem lacks_any (M n : Nat) (D : DataW Unit) (x : ByteArray) (w : World) (h : w.ownsMap Tryz.prog 9 slE M n D) (hs : x.size ≤ maxLen) :
    Calls Tryz.prog 49 #[.map (some M), .string x] w fun e w' => e = .returned (.bool (!Maps.has D (.string x.data.toList))) ∧ w' = w := by
  obtain ⟨v, ps, hr, _⟩ := lookL h x hs
  generalize Maps.has D (.string x.data.toList) = b at *
  clear h hs
  go_enter Tryz.func49, Tryz.ntmps49
  go_wp2
  go_ret
  exact ⟨by first | rfl | simp, rfl⟩

set_option maxHeartbeats 2000000 in
theorem isUnnamed_any (x : Tg) (w : World) (hs : x.nm.size ≤ maxLen) :
    Calls Tryz.prog 51 #[.agg #[.string x.nm, x.vs, x.vn, x.vo, x.vc]] w fun e w' => e = .returned (.bool (!nameOk x.nm)) ∧ Below w.heap.size w w' := by
  obtain ⟨nm, vs, vn, vo, vc, ss, ns, os, cs⟩ := x
  obtain ⟨V, hV⟩ : ∃ V, V = w.alloc (.cells #[.string nm, vs, vn, vo, vc] 38) := ⟨_, rfl⟩
  have HB : Hid (Below w.heap.size w V) := by show Below _ _ _; rw [hV]; exact (Below.refl _ w).alloc (Nat.le_refl _) _
  have HN : Hid (Calls Tryz.prog 74 #[.string nm] V fun e w' => e = .returned (.bool (nameOk nm)) ∧ Hid (Below V.heap.size V w')) := (IsName_any nm V hs).mono fun e w' q => ⟨q.1, by rw [q.2]; exact Below.refl _ _⟩
  simp only
  rw [hV] at HN
  clear hs
  generalize nameOk nm = b at *
  go_enter Tryz.func51, Tryz.ntmps51
  go_wp2_with (first | (go_at_call 74; refine HN.out.mono ?_; rintro e w1 ⟨rfl, H1⟩; rw [← hV] at H1) | go_in)
  go_ret
  exact ⟨by first | rfl | simp, HB.out.trans (H1.out.mono HB.out.size)⟩

/-- Is some name of a list not among the links? -/
def lckB (D : DataW Unit) (l : List ByteArray) : Bool := l.any fun y => !Maps.has D (.string y.data.toList)

set_option maxHeartbeats 2000000 in
theorem unmet_any (x : Tg) (bx M n : Nat) (D : DataW Unit) (w : World) (hbx : w.cell? ⟨bx, 0, none⟩ = some (.map (some M))) (hown : w.ownsMap Tryz.prog 9 slE M n D) (htx : TxIn w x.vn x.ns) (hs : ∀ y ∈ x.ns, y.size ≤ maxLen) :
    Calls Tryz.prog 47 #[.agg #[.string x.nm, x.vs, x.vn, x.vo, x.vc], .pointer (some ⟨bx, 0, none⟩)] w fun e w' => e = .returned (.bool (lckB D x.ns)) ∧ Below w.heap.size w w' := by
  obtain ⟨nm, vs, vn, vo, vc, ss, ns, os, cs⟩ := x
  simp only at htx hs ⊢
  obtain ⟨V, hV⟩ : ∃ V, V = w.alloc (.cells #[.string nm, vs, vn, vo, vc] 38) := ⟨_, rfl⟩
  have hb : Below w.heap.size w V := by rw [hV]; exact (Below.refl _ w).alloc (Nat.le_refl _) _
  have HB : Hid (Below w.heap.size w V) := hb
  have hbl : bx < w.heap.size := by simpa using World.block_lt_of_cell? w _ hbx
  have hcx : V.cell? ⟨bx, 0, none⟩ = some (.map (some M)) := (hb.cell (p := ⟨bx, 0, none⟩) hbl).trans hbx
  have hoV : V.ownsMap Tryz.prog 9 slE M n D := omapG hown (hb.block M hown.lt)
  have HC : Hid (Calls Tryz.prog 48 #[vn, .func (.func 49) #[.map (some M)] #[]] V fun e w' => e = .returned (.bool (lckB D ns)) ∧ Hid (Below V.heap.size V w')) :=
    conSb vn ns 49 (.map (some M)) (fun y => !Maps.has D (.string y.data.toList)) V htx.2.1 (htx.below hb (Nat.le_refl _)) (enters_of Tryz.func49 (by kernel_rfl) rfl) fun y hy W hW => (lacks_any M n D y W (omapG hoV (hW.block M hoV.lt)) (hs y hy)).mono fun e w' q => ⟨q.1, by rw [q.2]; exact Below.refl _ _⟩
  generalize lckB D ns = r at *
  rw [hV] at HC hcx
  clear hbx hown htx hs hb hbl hoV
  go_enter Tryz.func47, Tryz.ntmps47
  go_wp2_with (first | (go_at_call 48; refine HC.out.mono ?_; rintro e w1 ⟨rfl, H1⟩; rw [← hV] at H1) | go_in)
  go_ret
  exact ⟨by first | rfl | simp, HB.out.trans (H1.out.mono HB.out.size)⟩

/-- What is wrong with targets. -/
def ckN (L : List Tg) : Int := if 60 < L.length then 2 else if (L.any fun t => !nameOk t.nm) = true then 1 else if (L.map tnm).Nodup then (if (L.any fun t => lckB (ndD L) t.ns) = true then 5 else 0) else 6
/-- How needsOf ends. -/
def NdP (L : List Tg) (w : World) (e : Ending) (w' : World) : Prop := ∃ mo, e = .returned (.tuple #[.map mo, .int .i64 (ckN L)]) ∧ (ckN L ≠ 0 → mo = none) ∧ (ckN L = 0 → ∃ M n, mo = some M ∧ w.heap.size ≤ M ∧ n ≤ 60 ∧ w'.ownsMap Tryz.prog 9 slE M n (ndD L)) ∧ Below w.heap.size w w'

set_option maxHeartbeats 4000000 in
set_option maxRecDepth 100000 in
theorem needsOf_any (ao : Option Addr) (cap : Nat) (L : List Tg) (w : World) (hl : IsTg w ao L) (hn : L.length ≤ 1048576) (hs : ∀ t ∈ L, ∀ y ∈ t.ns, y.size ≤ maxLen) :
    Calls Tryz.prog 29 #[.slice ao L.length cap] w (NdP L w) := by
  have hn0 : (L.length : Int) ≤ 1048576 := by omega
  by_cases h60 : 60 < L.length
  · have hk : (60 : Int) < (L.length : Int) := by omega
    have hc : ckN L = 2 := by unfold ckN; rw [if_pos h60]
    have HZ : Hid (NdP L w (.returned (.tuple #[.map none, .int .i64 2])) w) := ⟨none, by rw [hc], (fun _ => rfl), (fun h => by rw [hc] at h; cases h), Below.refl _ _⟩
    clear hl hs hn hc h60
    go_enter Tryz.func29, Tryz.ntmps29
    go_wp2
    go_ret2
    exact HZ.out
  · have hk : ¬ (60 : Int) < (L.length : Int) := by omega
    have HL : Hid (IsTg w ao L) := hl
    have hmm := @run_makeMap Tryz.prog
    obtain ⟨bx, hbx⟩ : ∃ bx, bx = w.heap.size + 1 := ⟨_, rfl⟩
    have H0 : Hid (((w.alloc (.map #[] 0)).alloc (.cells #[.map (some w.heap.size)] 53)).ownsMap Tryz.prog 9 slE w.heap.size 0 (ndD (L.take 0)) ∧ Below w.heap.size w ((w.alloc (.map #[] 0)).alloc (.cells #[.map (some w.heap.size)] 53)) ∧ ((w.alloc (.map #[] 0)).alloc (.cells #[.map (some w.heap.size)] 53)).heap[bx]? = some (.cells #[.map (some w.heap.size)] 53 (0, 0))) := by
      refine ⟨(World.ownsMap_made w Tryz.prog 9 _).alloc _, ((Below.refl _ w).alloc (Nat.le_refl _) _).alloc (by rw [World.size_alloc]; omega) _, ?_⟩
      rw [hbx, ← World.size_alloc w (.map #[] 0)]
      exact heap_alloc_new _ _
    have HSz : Hid (∀ t ∈ L, ∀ y ∈ t.ns, y.size ≤ maxLen) := hs
    have HND : Hid (∀ (W : World) (mo : Option Nat) (c : Int), c = ckN L → (c ≠ 0 → mo = none) → (c = 0 → mo = some w.heap.size ∧ W.ownsMap Tryz.prog 9 slE w.heap.size L.length (ndD L)) → Below w.heap.size w W → NdP L w (.returned (.tuple #[.map mo, .int .i64 c])) W) := fun W mo c hc h1 h2 hb => by
      subst hc
      refine ⟨mo, rfl, h1, fun h => ?_, hb⟩
      obtain ⟨e, ho⟩ := h2 h
      exact ⟨w.heap.size, L.length, e, Nat.le_refl _, by omega, ho⟩
    clear hl hs
    go_enter Tryz.func29, Tryz.ntmps29
    go_wp2
    rw [← hbx]
    have HBX : Hid (w.heap.size < bx) := by show _ < _; omega
    obtain ⟨M, hM⟩ : ∃ M, M = w.heap.size := ⟨_, rfl⟩
    clear hbx
    go_loopw [14] (fun i wr => ∃ k : Nat, k ≤ L.length ∧ i = .int .i64 (k : Int) ∧ Hid (wr.ownsMap Tryz.prog 9 slE w.heap.size k (ndD (L.take k)) ∧ Below w.heap.size w wr ∧ wr.heap[bx]? = some (.cells #[.map (some w.heap.size)] 53 (0, 0)))) (fun i _ => L.length - (intOf i).toNat)
    case atStart => exact ⟨0, Nat.zero_le _, rfl, H0⟩
    case round =>
      obtain ⟨k, hk2, rfl, HI⟩ := hrel
      by_cases hlt : k < L.length
      · have hki : (k : Int) < (L.length : Int) := by omega
        obtain ⟨hown, hb, hbox⟩ := HI.out
        rcases HL.out.at_ with h | ⟨g, o, rfl, hg, hcc⟩
        · exfalso; rw [h] at hlt; exact absurd hlt (by simp)
        obtain ⟨c0, c1, c2, c3, c4⟩ := (hcc.below hb hg) k hlt
        have htx := HL.out.tx _ (List.getElem_mem hlt)
        have hsz := HL.out.sz _ (List.getElem_mem hlt)
        have HE : Hid (ndD (L.take (k + 1)) = (ndD (L.take k)).put (.string (tnm L[k])) (tD L[k])) := by
          show _ = _
          rw [List.take_succ_eq_append_getElem hlt, ndD_snoc]
        have HB : Hid (Below w.heap.size w wr ∧ wr.heap[bx]? = some (.cells #[.map (some w.heap.size)] 53 (0, 0))) := ⟨hb, hbox⟩
        have hwz := hb.size
        have hbl : bx < wr.heap.size := (Array.getElem?_eq_some_iff.1 hbox).1
        generalize hx : L[k] = x at c0 c1 c2 c3 c4 htx hsz HE
        clear hx
        obtain ⟨nm, vs, vn, vo, vc, ss, ns, os, cs⟩ := x
        simp only [tnm, tD] at c0 c1 c2 c3 c4 htx hsz HE
        obtain ⟨⟨_, _, sa, sc, rfl, _⟩, ⟨hsl, _, na, nc, rfl, _⟩, ⟨_, _, oa, oc, rfl, _⟩, ⟨_, _, ca, cc, rfl, _⟩⟩ := htx
        generalize ss.length = s1 at c1
        generalize ns.length = s2 at c2 hsl HE
        generalize os.length = s3 at c3
        generalize cs.length = s4 at c4
        have hkey := keyOf_string_mk Tryz.underlying9 (s := nm) (by unfold maxLen; omega)
        have hown2 := hown.alloc (.cells #[.string nm, .slice sa s1 sc, .slice na s2 nc, .slice oa s3 oc, .slice ca s4 cc] 38)
        have cb : (wr.alloc (.cells #[.string nm, .slice sa s1 sc, .slice na s2 nc, .slice oa s3 oc, .slice ca s4 cc] 38)).cell? ⟨bx, 0, none⟩ = some (.map (some w.heap.size)) := by
          rw [World.cell?_alloc_lt _ _ _ hbl, Lib.cell_of_heap hbox]
          rfl
        have hel := slE_is hsl
        clear hb hown hcc hbox hsl
        go_wp2_with (first
          | (at_mapUpdate; refine wpList_mapUpdate_own _ rfl _ _ _ 53 rfl 9 23 lawS Tryz.underlying53 _ w.heap.size k (ndD (L.take k)) rfl hown2 (by unfold maxLen; omega) _ _ _ rfl rfl hkey _ [] hel ?_; intro w1 hown1 hgrow1)
          | go_in)
        refine ⟨⟨k + 1, by omega, by go_num, ?_⟩, by simp [intOf]; omega⟩
        refine ⟨by rw [HE.out]; exact hown1, ?_, ?_⟩
        · exact ((HB.out.1.alloc (by omega) _).grown hgrow1 (by rw [World.size_alloc]; omega) (fun j hj => by cases hj; exact Nat.le_refl _))
        · have hne : some bx ≠ some w.heap.size := fun e => by have := HBX.out; injection e; omega
          exact (hgrow1.block bx (by rw [World.size_alloc]; omega) hne).trans ((((Below.refl _ wr).alloc (Nat.le_refl _) _).block bx hbl).trans HB.out.2)
      · obtain rfl : k = L.length := by omega
        have hI := HI.out
        rw [List.take_length] at hI
        obtain ⟨hown, hb, hbox⟩ := hI
        have hLw := HL.out.below hb (Nat.le_refl _)
        have hMl := hown.lt
        have hbl : bx < wr.heap.size := (Array.getElem?_eq_some_iff.1 hbox).1
        have hW : ∀ W, Below wr.heap.size wr W → W.cell? ⟨bx, 0, none⟩ = some (.map (some w.heap.size)) ∧ W.ownsMap Tryz.prog 9 slE w.heap.size L.length (ndD L) ∧ Below w.heap.size w W ∧ ∀ ty, (Builtin.len_ #[53] ty #[.map (some w.heap.size)]).run Tryz.prog W = .ok (.int .i64 (Maps.size (ndD L))) W := fun W h => by
          have ho := omapG hown (h.block _ hMl)
          exact ⟨by rw [Lib.cell_of_heap ((h.block bx hbl).trans hbox)]; rfl, ho, hb.trans (h.mono hb.size), fun ty => ho.len Tryz.underlying53 ty⟩
        have HU : Hid (Calls Tryz.prog 50 #[.slice ao L.length cap, .func (.func 51) #[] #[]] wr fun e w' => e = .returned (.bool (L.any fun t => !nameOk t.nm)) ∧ (w'.cell? ⟨bx, 0, none⟩ = some (.map (some w.heap.size)) ∧ ∀ ty, (Builtin.len_ #[53] ty #[.map (some w.heap.size)]).run Tryz.prog w' = .ok (.int .i64 (Maps.size (ndD L))) w') ∧ Hid (Below wr.heap.size wr w')) :=
          (conTn ao cap L 51 (fun t => !nameOk t.nm) wr hn hLw (enters_of Tryz.func51 (by kernel_rfl) rfl) fun x hx W hW => isUnnamed_any x W (by have := HL.out.sz x hx; unfold maxLen; omega)).mono fun e w' q => ⟨q.1, ⟨(hW w' q.2).1, (hW w' q.2).2.2.2⟩, q.2⟩
        have HM : Hid (∀ W, Hid (Below wr.heap.size wr W) → Calls Tryz.prog 50 #[.slice ao L.length cap, .func (.func 47) #[] #[.pointer (some ⟨bx, 0, none⟩)]] W fun e w' => e = .returned (.bool (L.any fun t => lckB (ndD L) t.ns)) ∧ w'.cell? ⟨bx, 0, none⟩ = some (.map (some w.heap.size)) ∧ Hid (Below wr.heap.size wr w')) := fun W h =>
          (conTc ao cap L 47 (.pointer (some ⟨bx, 0, none⟩)) (fun t => lckB (ndD L) t.ns) W hn (hLw.below h.out (Nat.le_refl _)) (enters_of Tryz.func47 (by kernel_rfl) rfl) fun x hx W2 hW2 => by
            have hb2 : Below wr.heap.size wr W2 := h.out.trans (hW2.mono h.out.size)
            exact unmet_any x bx w.heap.size L.length (ndD L) W2 (hW W2 hb2).1 (hW W2 hb2).2.1 (((hLw.below hb2 (Nat.le_refl _)).tx x hx).2.1) (HSz.out x hx)).mono fun e w' q => by
            have hb2 : Below wr.heap.size wr w' := h.out.trans (q.2.mono h.out.size)
            exact ⟨q.1, (hW w' hb2).1, hb2⟩
        have HF : Hid (∀ (W : World) (mo : Option Nat) (c : Int), Hid (Below wr.heap.size wr W) → c = ckN L → (c ≠ 0 → mo = none) → (c = 0 → mo = some w.heap.size) → NdP L w (.returned (.tuple #[.map mo, .int .i64 c])) W) := fun W mo c h h1 h2 h3 => HND.out W mo c h1 h2 (fun h0 => ⟨h3 h0, (hW W h.out).2.1⟩) (hW W h.out).2.2.1
        obtain ⟨s1, s2⟩ := size_ndD L
        generalize Maps.size (ndD L) = s at *
        have hck : ckN L = if (L.any fun t => !nameOk t.nm) = true then 1 else if (L.map tnm).Nodup then (if (L.any fun t => lckB (ndD L) t.ns) = true then 5 else 0) else 6 := by unfold ckN; rw [if_neg h60]
        rw [hck] at HF
        clear hck hown hb hbox hLw hW HI HL HND H0 hMl hbl hlt
        cases hu : (L.any fun t => !nameOk t.nm) with
        | true =>
          rw [hu] at HU HF
          clear hu HM
          go_wp2_with (first | (go_at_call 50; refine HU.out.mono ?_; rintro e w1 ⟨rfl, ⟨d1, d2⟩, H1⟩) | go_in)
          go_ret2
          exact HF.out _ none 1 H1 (by simp) (fun _ => rfl) (fun h => by cases h)
        | false =>
          rw [hu] at HU HF
          clear hu
          by_cases hnd : (L.map tnm).Nodup
          · rw [if_pos hnd] at HF
            have e1 : s = L.length := s2.2 hnd
            subst e1
            clear s1 s2 hnd
            cases hm : (L.any fun t => lckB (ndD L) t.ns) with
            | true =>
              rw [hm] at HM HF
              clear hm
              go_wp2_with (first
                | (go_at_call 50; with_reducible refine HU.out.mono ?_; rintro e w1 ⟨rfl, ⟨d1, d2⟩, H1⟩)
                | (go_at_call 50; with_reducible refine (HM.out _ H1).mono ?_; rintro e w2 ⟨rfl, d3, H2⟩)
                | go_in)
              go_ret2
              exact HF.out _ none 5 H2 (by simp) (fun _ => rfl) (fun h => by cases h)
            | false =>
              rw [hm] at HM HF
              clear hm
              go_wp2_with (first
                | (go_at_call 50; with_reducible refine HU.out.mono ?_; rintro e w1 ⟨rfl, ⟨d1, d2⟩, H1⟩)
                | (go_at_call 50; with_reducible refine (HM.out _ H1).mono ?_; rintro e w2 ⟨rfl, d3, H2⟩)
                | go_in)
              go_ret2
              exact HF.out _ (some w.heap.size) 0 H2 (by simp) (fun h => absurd rfl h) (fun _ => rfl)
          · rw [if_neg hnd] at HF
            have e1 : (s : Int) < (L.length : Int) := by
              have : s ≠ L.length := fun e => hnd (s2.1 e)
              omega
            clear s1 s2 hnd HM
            go_wp2_with (first | (go_at_call 50; refine HU.out.mono ?_; rintro e w1 ⟨rfl, ⟨d1, d2⟩, H1⟩) | go_in)
            go_ret2
            exact HF.out _ none 6 H1 (by simp) (fun _ => rfl) (fun h => by cases h)
end Go.Proofs.YtankaiopdbcndaaGreatDoor

/- Lists of names in a map, each a row of one's own; one name more behind one of them. -/
namespace Go.Proofs.YtankaiopdbcndaaGreatDoor
open Go.RowKit Go.Shelf Go.Maps Go.WideMaps

/-- A map of lists: by each key the names us of it, as the row vf of it; no list is there that is empty. -/
structure ML (B M N : Nat) (us : List UInt8 → List ByteArray) (vf : List UInt8 → Value) (D : DataW Unit) (w : World) : Prop where
  own : w.ownsMap Tryz.prog 9 slE M N D
  tidy : Tidy D
  has : ∀ k, Maps.has D (.string k) = decide (us k ≠ [])
  get : ∀ k, us k ≠ [] → ∀ z, D.atKey (.string k) z = slD (vf k)
  row : ∀ k, us k ≠ [] → w.ownsRow B 9 1 (vf k) (us k).length ((us k).map Value.string)
  apart : ∀ k j g, us k ≠ [] → us j ≠ [] → (vf k).ownBlock = some g → (vf j).ownBlock = some g → k = j
  lo : B ≤ M
/-- The blocks of such a map. -/
def MLS (M : Nat) (us : List UInt8 → List ByteArray) (vf : List UInt8 → Value) (g : Nat) : Prop := g = M ∨ ∃ k, us k ≠ [] ∧ (vf k).ownBlock = some g
theorem ML.keep {B M N : Nat} {us : List UInt8 → List ByteArray} {vf : List UInt8 → Value} {D : DataW Unit} {w w' : World} (h : ML B M N us vf D w) (hk : ∀ g, MLS M us vf g → w'.heap[g]? = w.heap[g]?) : ML B M N us vf D w' := by
  refine ⟨omapG h.own (hk M (.inl rfl)), h.tidy, h.has, h.get, fun k hk2 => ?_, h.apart, h.lo⟩
  have hr := h.row k hk2
  refine ⟨hr.1, ?_⟩
  rcases hr.2 with h2 | ⟨g, cap, cur, hv, hb, hg, r⟩
  · exact .inl h2
  · exact .inr ⟨g, cap, cur, hv, hb, (hk g (.inr ⟨k, hk2, by rw [hv]; rfl⟩)).trans hg, r⟩
theorem row_sl {w : World} {B : Nat} {v : Value} {n : Nat} {xs : List Value} (h : w.ownsRow B 9 1 v n xs) : IsSl v := by
  rcases h.2 with ⟨h1, _⟩ | ⟨g, c, cur, h1, _⟩
  · exact ⟨none, 0, 0, h1⟩
  · exact ⟨_, n, c, h1⟩
def updL (us : List UInt8 → List ByteArray) (k : List UInt8) (l : List ByteArray) : List UInt8 → List ByteArray := fun j => if j = k then l else us j
def updV (vf : List UInt8 → Value) (k : List UInt8) (v : Value) : List UInt8 → Value := fun j => if j = k then v else vf j
/-- What a look-up gives: the list, or none. -/
def lkV (us : List UInt8 → List ByteArray) (vf : List UInt8 → Value) (k : List UInt8) : Value := if us k = [] then .slice none 0 0 else vf k
theorem ML.look {B M N : Nat} {us : List UInt8 → List ByteArray} {vf : List UInt8 → Value} {D : DataW Unit} {w : World} (h : ML B M N us vf D w) (x : ByteArray) (hs : x.size ≤ maxLen) :
    (Instr.lookup 53 (.map (some M)) (.string x) false).run Tryz.prog w = .ok (lkV us vf x.data.toList) w := by
  obtain ⟨v, ps, hr, hv⟩ := h.own.lookup lawS Tryz.underlying53 (zeroSl w) (zd := slD (.slice none 0 0)) (zp := []) rfl (keyOf_string_mk Tryz.underlying9 hs)
  have e : v = lkV us vf x.data.toList := by
    unfold lkV
    by_cases he : us x.data.toList = []
    · rw [if_pos he]
      have hno : Maps.has D (.string x.data.toList) = false := by rw [h.has, he]; rfl
      rw [atKey_of_not_has hno] at hv
      exact slE_inj hv (slE_is ⟨none, 0, 0, rfl⟩)
    · rw [if_neg he]
      rw [h.get _ he] at hv
      exact slE_inj hv (slE_is (row_sl (h.row _ he)))
  rw [hr, e]
theorem ML.lrow {B M N : Nat} {us : List UInt8 → List ByteArray} {vf : List UInt8 → Value} {D : DataW Unit} {w : World} (h : ML B M N us vf D w) (k : List UInt8) : w.ownsRow B 9 1 (lkV us vf k) (us k).length ((us k).map Value.string) := by
  unfold lkV
  by_cases he : us k = []
  · rw [if_pos he, he]
    exact World.ownsRow_nil _ _ _ _
  · rw [if_neg he]
    exact h.row k he
/-- One name more behind a list: what append and the map's update leave. -/
theorem ML.put {B M N : Nat} {us : List UInt8 → List ByteArray} {vf : List UInt8 → Value} {D : DataW Unit} {w w1 w2 : World} (h : ML B M N us vf D w) (k : List UInt8) (x : ByteArray) (G C : Nat)
    (hrow : w1.ownsRow B 9 1 (.slice (some ⟨G, 0, none⟩) (us k ++ [x]).length C) (us k ++ [x]).length ((us k ++ [x]).map Value.string))
    (hg : w.grownBy w1 (lkV us vf k).ownBlock) (hat : (lkV us vf k).ownBlock = some G ∨ w.heap.size ≤ G)
    (hown : w2.ownsMap Tryz.prog 9 slE M (N + 1) (D.put (.string k) (slD (.slice (some ⟨G, 0, none⟩) (us k ++ [x]).length C)))) (hg2 : w1.grownBy w2 (some M)) :
    ML B M (N + 1) (updL us k (us k ++ [x])) (updV vf k (.slice (some ⟨G, 0, none⟩) (us k ++ [x]).length C)) (D.put (.string k) (slD (.slice (some ⟨G, 0, none⟩) (us k ++ [x]).length C))) w2 := by
  have hob : ∀ g, (lkV us vf k).ownBlock = some g → us k ≠ [] ∧ (vf k).ownBlock = some g := fun g hg => by
    unfold lkV at hg
    by_cases he : us k = []
    · rw [if_pos he] at hg; cases hg
    · rw [if_neg he] at hg; exact ⟨he, hg⟩
  have hMl := h.own.lt
  have hMo : ∀ j, us j ≠ [] → (vf j).ownBlock ≠ some M := fun j hj e => by
    obtain ⟨es, clock, hb, _⟩ := h.own
    rcases (h.row j hj).2 with ⟨h1, h2⟩ | ⟨g, c, cur, h1, _, h3, _⟩
    · rw [h1] at e; cases e
    · rw [h1] at e
      have : g = M := by simpa [Value.ownBlock] using e
      subst this
      rw [hb] at h3
      cases h3
  have hGM : G ≠ M := fun e => by
    rcases hat with h2 | h2
    · obtain ⟨h3, h4⟩ := hob _ h2
      exact hMo k h3 (by rw [h4, e])
    · omega
  have hkeep : ∀ j, j ≠ k → us j ≠ [] → ∀ g, (vf j).ownBlock = some g → w2.heap[g]? = w.heap[g]? := fun j hj hjn g hgj => by
    have hlt := ((h.row j hjn).lt g hgj).2
    refine (hg2.block g (Nat.lt_of_lt_of_le hlt hg.size) (fun e => hMo j hjn (by rw [hgj]; exact e))).trans (hg.block g hlt fun e => ?_)
    obtain ⟨h3, h4⟩ := hob g e.symm
    exact hj (h.apart j k g hjn h3 hgj h4)
  refine ⟨hown, h.tidy.put (by exact trivial) _, fun j => ?_, fun j hj z => ?_, fun j hj => ?_, fun i j g hi hj hgi hgj => ?_, h.lo⟩
  · unfold updL
    by_cases e : j = k
    · subst e
      rw [has_put_same h.tidy.isMap (by exact trivial), if_pos rfl]
      simp
    · rw [has_put_other (fun e2 => e (by injection e2)), if_neg e]
      exact h.has j
  · unfold updV
    by_cases e : j = k
    · subst e
      rw [if_pos rfl]
      exact atKey_put_same h.tidy.isMap (by exact trivial) _ _
    · rw [if_neg e, atKey_put_other (fun e2 => e (by injection e2))]
      unfold updL at hj
      rw [if_neg e] at hj
      exact h.get j hj z
  · unfold updL updV at *
    by_cases e : j = k
    · subst e
      rw [if_pos rfl, if_pos rfl]
      exact hrow.kept hg2 (.inr (fun e => hGM (by simpa [Value.ownBlock] using e)))
    · rw [if_neg e, if_neg e]
      rw [if_neg e] at hj
      have hr := h.row j hj
      refine ⟨hr.1, ?_⟩
      rcases hr.2 with h2 | ⟨g, cap, cur, hv, hb, hgg, r⟩
      · exact .inl h2
      · exact .inr ⟨g, cap, cur, hv, hb, (hkeep j e hj g (by rw [hv]; rfl)).trans hgg, r⟩
  · unfold updL updV at *
    have key : ∀ j, j ≠ k → us j ≠ [] → (vf j).ownBlock ≠ some G := fun j hjk hjn e => by
      rcases hat with h2 | h2
      · obtain ⟨h3, h4⟩ := hob _ h2
        exact hjk (h.apart j k G hjn h3 e h4)
      · have := ((h.row j hjn).lt G e).2
        omega
    by_cases ei : i = k
    · by_cases ej : j = k
      · rw [ei, ej]
      · rw [if_pos ei] at hgi
        rw [if_neg ej] at hj hgj
        have : G = g := by simpa [Value.ownBlock] using hgi
        subst this
        exact absurd hgj (key j ej hj)
    · rw [if_neg ei] at hi hgi
      by_cases ej : j = k
      · rw [if_pos ej] at hgj
        have : G = g := by simpa [Value.ownBlock] using hgj
        subst this
        exact absurd hgi (key i ei hi)
      · rw [if_neg ej] at hj hgj
        exact h.apart i j g hi hj hgi hgj
end Go.Proofs.YtankaiopdbcndaaGreatDoor

/- Links, turned the other way round. -/
namespace Go.Proofs.YtankaiopdbcndaaGreatDoor
open Go.RowKit Go.Shelf Go.Maps Go.WideMaps Go.Sort
/-- Appending, shut. -/
theorem appG_eq2 (ats : Array TypeId) (ty : TypeId) (args : Array Value) : Builtin.append_ ats ty args = appG ats ty args := rfl
attribute [local go_sem ↓] appG_eq2

/-- Links in memory: by each name a list of texts that is there. -/
structure LK (M N : Nat) (D : DataW Unit) (nf : List UInt8 → List ByteArray) (lf : List UInt8 → Value) (w : World) : Prop where
  own : w.ownsMap Tryz.prog 9 slE M N D
  get : ∀ k, Maps.has D (.string k) = true → ∀ z, D.atKey (.string k) z = slD (lf k)
  tx : ∀ k, Maps.has D (.string k) = true → TxIn w (lf k) (nf k)
  sz : ∀ k, Maps.has D (.string k) = true → ∀ y ∈ nf k, y.size ≤ maxLen
  ks : ∀ k, Maps.has D (.string k) = true → k.length ≤ maxLen
theorem LK.below {M N B : Nat} {D : DataW Unit} {nf : List UInt8 → List ByteArray} {lf : List UInt8 → Value} {w w' : World} (h : LK M N D nf lf w) (hb : Below B w w') (hB : w.heap.size ≤ B) : LK M N D nf lf w' :=
  ⟨omapG h.own (hb.block M (Nat.lt_of_lt_of_le h.own.lt hB)), h.get, fun k hk => (h.tx k hk).below hb hB, h.sz, h.ks⟩
def bN (k : List UInt8) : ByteArray := ⟨k.toArray⟩
/-- Users, and one more of all that it needs. -/
def uadd (us : List UInt8 → List ByteArray) (x : ByteArray) (l : List ByteArray) : List UInt8 → List ByteArray := fun o => us o ++ (l.filter fun y => decide (y.data.toList = o)).map fun _ => x
theorem uadd_nil (us : List UInt8 → List ByteArray) (x : ByteArray) : uadd us x [] = us := by funext o; simp [uadd]
theorem uadd_snoc (us : List UInt8 → List ByteArray) (x y : ByteArray) (l : List ByteArray) : uadd us x (l ++ [y]) = updL (uadd us x l) y.data.toList (uadd us x l y.data.toList ++ [x]) := by
  funext o
  unfold uadd updL
  by_cases h : o = y.data.toList
  · subst h
    simp
  · rw [if_neg h]
    simp [Ne.symm h]
/-- Users of names, by those that were walked through. -/
def usF (nf : List UInt8 → List ByteArray) : List (List UInt8) → List UInt8 → List ByteArray
  | [] => fun _ => []
  | k :: ks => uadd (usF nf ks) (bN k) (nf k)
theorem usF_len (nf : List UInt8 → List ByteArray) (o : List UInt8) : ∀ ks, (usF nf ks o).length ≤ (ks.map fun k => (nf k).length).sum
  | [] => Nat.le_refl _
  | k :: ks => by
    have := usF_len nf o ks
    have h2 : ((nf k).filter fun y => decide (y.data.toList = o)).length ≤ (nf k).length := List.length_filter_le _ _
    simp only [usF, uadd, List.length_append, List.length_map, List.map_cons, List.sum_cons]
    omega
theorem invKG (key : Value) (kl : Lit) (hk : keyOf Tryz.prog 9 key = some kl) : ∃ x, key = encStr x := by
  obtain ⟨x, rfl, _, _⟩ := Maps.keyOf_str Tryz.underlying9 hk
  exact ⟨x, rfl⟩
theorem invSl (v : Value) (y : DataW Unit × List MemPlace) (_ : slE v = some y) : ∃ u : Value, v = u := ⟨v, rfl⟩

theorem ranges_heap {w w' : World} {M R N : Nat} {D : DataW Unit} {left : Lit → Bool} {cnt : Nat} (h : w.ranges Tryz.prog 9 slE M R N D left cnt) (hM : w'.heap[M]? = w.heap[M]?) (hR : w'.heap[R]? = w.heap[R]?) : w'.ranges Tryz.prog 9 slE M R N D left cnt := by
  obtain ⟨es, clock, since, seen, c0, hb, F, hs, hD, hr, rest⟩ := h
  exact ⟨es, clock, since, seen, c0, hM.trans hb, F, hs, hD, hR.trans hr, rest⟩
theorem ranges_no {w : World} {M R N B n : Nat} {D : DataW Unit} {left : Lit → Bool} {cnt : Nat} {v : Value} {xs : List Value} (h : w.ranges Tryz.prog 9 slE M R N D left cnt) (hr : w.ownsRow B 9 1 v n xs) : v.ownBlock ≠ some R := fun e => by
  obtain ⟨es, clock, since, seen, c0, hb, F, hs, hD, hrr, rest⟩ := h
  rcases hr.2 with ⟨h1, _⟩ | ⟨g, c, cur, h1, _, h3, _⟩
  · rw [h1] at e; cases e
  · rw [h1] at e
    have : g = R := by simpa [Value.ownBlock] using e
    subst this
    rw [hrr] at h3
    cases h3
/-- One name more behind a list: the append, and what the map's update then leaves. -/
theorem ML.step {B M N : Nat} {us : List UInt8 → List ByteArray} {vf : List UInt8 → Value} {D : DataW Unit} {w : World} (h : ML B M N us vf D w) (k : List UInt8) (x : ByteArray) (hB : B ≤ w.heap.size) (hl : (us k).length ≤ 100000000) :
    ∃ (G C : Nat) (w1 : World), (appG #[23, 23] 23 #[lkV us vf k, .slice (some ⟨w.heap.size, 0, none⟩) 1 1]).run Tryz.prog (w.alloc (.cells #[.string x] 9)) = .ok (.slice (some ⟨G, 0, none⟩) (us k ++ [x]).length C) w1 ∧ w1.ownsMap Tryz.prog 9 slE M N D ∧
      ∀ w2, w2.ownsMap Tryz.prog 9 slE M (N + 1) (D.put (.string k) (slD (.slice (some ⟨G, 0, none⟩) (us k ++ [x]).length C))) → w1.grownBy w2 (some M) →
        ML B M (N + 1) (updL us k (us k ++ [x])) (updV vf k (.slice (some ⟨G, 0, none⟩) (us k ++ [x]).length C)) (D.put (.string k) (slD (.slice (some ⟨G, 0, none⟩) (us k ++ [x]).length C))) w2 ∧ Oth (MLS M us vf) w w2 := by
  obtain ⟨i0, hi, hz0, hz1, hz2⟩ := infoG sStrG
  obtain ⟨W, hW⟩ : ∃ W, W = w.alloc (.cells #[.string x] 9) := ⟨_, rfl⟩
  have hsz : W.heap.size = w.heap.size + 1 := by rw [hW]; exact World.size_alloc _ _
  have hbW : Below w.heap.size w W := by rw [hW]; exact (Below.refl _ w).alloc (Nat.le_refl _) _
  have hnew : W.heap[w.heap.size]? = some (.cells #[.string x] 9 (0, 0)) := by rw [hW]; exact heap_alloc_new w _
  have hrW : W.ownsRow B 9 1 (lkV us vf k) (us k).length ((us k).map Value.string) := by rw [hW]; exact (h.lrow k).alloc _
  obtain ⟨G, C, w1, a1, a2, a3, a4, _⟩ := run_append_lies (P := Tryz.prog) W 23 23 B 9 i0 (.string ⟨#[]⟩) 1 16 Tryz.underlying23 hi hz0 hz1 hz2 rfl (by decide) (lkV us vf k) (us k).length ((us k).map Value.string) hrW ⟨w.heap.size, 0, none⟩ 1 1 [.string x] rfl (fun j u hu => by rw [addr_add, Nat.zero_add, Lib.cell_of_heap hnew]; simpa using hu) (fun u hu => by simp at hu; subst hu; rfl) (by decide) (by unfold maxLen; omega) (by omega) (by omega) W.heap.size rfl
  have el : (us k).length + 1 = (us k ++ [x]).length := by simp
  have em : (us k).map Value.string ++ [.string x] = (us k ++ [x]).map Value.string := by simp
  rw [el, em] at a2
  have hMl := h.own.lt
  have hMo : (lkV us vf k).ownBlock ≠ some M := fun e => by
    obtain ⟨es, clock, hb, _⟩ := h.own
    rcases (h.lrow k).2 with ⟨h1, h2⟩ | ⟨g, c, cur, h1, _, h3, _⟩
    · rw [h1] at e; cases e
    · rw [h1] at e
      have : g = M := by simpa [Value.ownBlock] using e
      subst this
      rw [hb] at h3
      cases h3
  have hgw : w.grownBy w1 (lkV us vf k).ownBlock := ⟨a3.os.trans hbW.os, a3.tape.trans hbW.tape, a3.output.trans hbW.output, by have := a3.size; omega, fun g hg hn => (a3.block g (by omega) hn).trans (hbW.block g hg)⟩
  refine ⟨G, C, w1, by rw [← hW, ← el]; exact a1, h.own.kept hgw (fun e => hMo e.symm), fun w2 ho hg2 => ⟨h.put k x G C a2 hgw ?_ ho hg2, ?_⟩⟩
  · rcases a4 with a4 | a4
    · exact .inl a4
    · exact .inr (by omega)
  · refine ⟨hg2.os.trans hgw.os, hg2.tape.trans hgw.tape, hg2.output.trans hgw.output, Nat.le_trans hgw.size hg2.size, fun g hg hn => (hg2.block g (Nat.lt_of_lt_of_le hg hgw.size) (fun e => hn (.inl (by injection e)))).trans (hgw.block g hg fun e => hn ?_)⟩
    unfold lkV at e
    by_cases he : us k = []
    · rw [if_pos he] at e; cases e
    · rw [if_neg he] at e
      exact .inr ⟨k, he, e.symm⟩

/-- What holds of turned's walk through the links: those that were walked through, and the users so far; and so many of one's needs more. -/
structure TI (B M N : Nat) (D : DataW Unit) (nf : List UInt8 → List ByteArray) (R : Nat) (w wr : World) (ks : List (List UInt8)) (us : List UInt8 → List ByteArray) (t : Nat) (left : Lit → Bool) (cnt : Nat) : Prop where
  rg : wr.ranges Tryz.prog 9 slE M R N D left cnt
  ml : ∃ n2 vf D2, ML B B n2 us vf D2 wr ∧ n2 ≤ t
  ln : ∀ o, (us o).length ≤ t
  nd : ks.Nodup
  mem : ∀ k, Maps.has D (.string k) = true → (k ∈ ks ↔ left (.string k) = false)
  sub : ∀ k ∈ ks, Maps.has D (.string k) = true
  bel : Below B w wr
  szk : ks.length + cnt ≤ 60
  ne : B < R ∧ M < B
theorem TI.mono {B M N R t t2 cnt : Nat} {D : DataW Unit} {nf : List UInt8 → List ByteArray} {w wr : World} {ks : List (List UInt8)} {us : List UInt8 → List ByteArray} {left : Lit → Bool} (h : TI B M N D nf R w wr ks us t left cnt) (ht : t ≤ t2) : TI B M N D nf R w wr ks us t2 left cnt := by
  obtain ⟨n2, vf, D2, m1, m2⟩ := h.ml
  exact ⟨h.rg, ⟨n2, vf, D2, m1, by omega⟩, fun o => Nat.le_trans (h.ln o) ht, h.nd, h.mem, h.sub, h.bel, h.szk, h.ne⟩
theorem same_str {a b : List UInt8} : (Lit.string a).sameKey (Lit.string b) = decide (a = b) := by
  by_cases e : a = b
  · subst e
    rw [decide_eq_true rfl]
    exact WideAt.sameKey_self (by exact trivial)
  · rw [decide_eq_false e]
    cases h : (Lit.string a).sameKey (Lit.string b) with
    | false => rfl
    | true => exact absurd (by have := WideAt.sameKey_eq h; injection this) e
/-- The next name is walked to. -/
theorem TI.next {B M N R t cnt cnt2 : Nat} {D : DataW Unit} {nf : List UInt8 → List ByteArray} {w wr w2 : World} {ks : List (List UInt8)} {us : List UInt8 → List ByteArray} {left : Lit → Bool} {x : List UInt8} (h : TI B M N D nf R w wr ks us t left cnt) (hhas : Maps.has D (.string x) = true) (hl : left (.string x) = true)
    (hrg : w2.ranges Tryz.prog 9 slE M R N D (fun z => left z && !z.sameKey (.string x)) cnt2) (hlt : cnt2 < cnt) (hg : wr.grownBy w2 (some R)) : TI B M N D nf R w w2 (x :: ks) us t (fun z => left z && !z.sameKey (.string x)) cnt2 := by
  have hx : x ∉ ks := fun hm => by rw [(h.mem x hhas).1 hm] at hl; cases hl
  obtain ⟨n2, vf, D2, m1, m2⟩ := h.ml
  refine ⟨hrg, ⟨n2, vf, D2, m1.keep fun g hg2 => ?_, m2⟩, h.ln, List.nodup_cons.2 ⟨hx, h.nd⟩, fun k hk => ?_, fun k hk => ?_, ?_, by have := h.szk; simp; omega, h.ne⟩
  · rcases hg2 with rfl | ⟨k, hk, hk2⟩
    · exact hg.block g m1.own.lt (fun e => by have := h.ne.1; injection e with e; omega)
    · exact hg.block g ((m1.row k hk).lt g hk2).2 (fun e => ranges_no h.rg (m1.row k hk) (by rw [hk2]; exact e))
  · show _ ↔ (left (.string k) && !(Lit.string k).sameKey (.string x)) = false
    rw [same_str, List.mem_cons]
    by_cases e : k = x
    · subst e; simp
    · simp [e, h.mem k hk]
  · rcases List.mem_cons.1 hk with rfl | hk
    · exact hhas
    · exact h.sub k hk
  · have hb := h.bel
    have hlo := m1.own.lt
    refine ⟨hg.os.trans hb.os, hg.tape.trans hb.tape, hg.output.trans hb.output, Nat.le_trans hb.size hg.size, fun g hg2 => (hg.block g (by omega) (fun e => by have := h.ne.1; injection e with e; omega)).trans (hb.block g hg2)⟩
/-- One user more. -/
theorem TI.add {B M N R t cnt n2 : Nat} {D D2 D3 : DataW Unit} {nf : List UInt8 → List ByteArray} {w wr w3 : World} {ks : List (List UInt8)} {us us2 : List UInt8 → List ByteArray} {vf vf2 : List UInt8 → Value} {left : Lit → Bool} (h : TI B M N D nf R w wr ks us t left cnt) (m1 : ML B B n2 us vf D2 wr) (m2 : n2 ≤ t) (hml : ML B B (n2 + 1) us2 vf2 D3 w3) (ho : Oth (MLS B us vf) wr w3) (hln : ∀ o, (us2 o).length ≤ t + 1) : TI B M N D nf R w w3 ks us2 (t + 1) left cnt := by
  have hne := h.ne
  have hM : ¬ MLS B us vf M := fun e => by
    rcases e with e | ⟨k, hk, e⟩
    · omega
    · have := ((m1.row k hk).lt M e).1; omega
  have hR : ¬ MLS B us vf R := fun e => by
    rcases e with e | ⟨k, hk, e⟩
    · omega
    · exact ranges_no h.rg (m1.row k hk) e
  refine ⟨ranges_heap h.rg (ho.block M h.rg.owns.lt hM) (ho.block R h.rg.lt hR), ⟨n2 + 1, vf2, D3, hml, by omega⟩, hln, h.nd, h.mem, h.sub, ?_, h.szk, hne⟩
  have hb := h.bel
  have hlo := m1.own.lt
  refine ⟨ho.os.trans hb.os, ho.tape.trans hb.tape, ho.output.trans hb.output, Nat.le_trans hb.size ho.size, fun g hg => (ho.block g (by omega) fun e => ?_).trans (hb.block g hg)⟩
  rcases e with e | ⟨k, hk, e⟩
  · omega
  · have := ((m1.row k hk).lt g e).1; omega
theorem updL_len {us : List UInt8 → List ByteArray} {t : Nat} (h : ∀ o, (us o).length ≤ t) (k : List UInt8) (x : ByteArray) (o : List UInt8) : (updL us k (us k ++ [x]) o).length ≤ t + 1 := by
  unfold updL
  split
  · have := h k; simp; omega
  · have := h o; omega
theorem has_of_at {D : DataW Unit} {kl : Lit} {y : DataW Unit} (h : ∀ zd, D.atKey kl zd = y) : Maps.has D kl = true := by
  cases e : Maps.has D kl with
  | true => rfl
  | false =>
    have h1 := (atKey_of_not_has e .nil).symm.trans (h .nil)
    have h2 := (atKey_of_not_has e (.map [])).symm.trans (h (.map []))
    rw [← h1] at h2
    cases h2

set_option maxHeartbeats 8000000 in
set_option maxRecDepth 100000 in
theorem mul_up {q n : Nat} {x : List UInt8} {ks : List (List UInt8)} (h : n ≤ q) : ks.length * q + n ≤ (x :: ks).length * q := by
  rw [List.length_cons, Nat.add_mul, Nat.one_mul]
  exact Nat.add_le_add_left h _
theorem turned_any (M N : Nat) (D : DataW Unit) (nf : List UInt8 → List ByteArray) (lf : List UInt8 → Value) (w : World) (h : LK M N D nf lf w) (hN : Maps.size D ≤ 60) :
    Calls Tryz.prog 36 #[.map (some M)] w fun e w' => ∃ M2 n2 vf D2 ks, e = .returned (.map (some M2)) ∧ ML w.heap.size M2 n2 (usF nf ks) vf D2 w' ∧ ks.Nodup ∧ (∀ k, k ∈ ks ↔ Maps.has D (.string k) = true) ∧ n2 ≤ 60 * 1048576 ∧ Below w.heap.size w w' := by
  have HK : Hid (LK M N D nf lf w ∧ Maps.size D ≤ 60) := ⟨h, hN⟩
  have hmm := @run_makeMap Tryz.prog
  have hown1 := h.own.alloc (.map #[] 0)
  clear h hN
  go_enter Tryz.func36, Tryz.ntmps36
  go_wp2_with (first
    | (at_range; refine wpList_range_own _ rfl _ 53 rfl 9 23 lawS Tryz.underlying53 _ M _ _ rfl hown1 ?_; intro w0 hrg0 hg0 hs0)
    | go_in)
  go_frame
  obtain ⟨B, hB⟩ : ∃ B, B = w.heap.size := ⟨_, rfl⟩
  obtain ⟨R, hR⟩ : ∃ R, R = (w.alloc (.map #[] 0)).heap.size := ⟨_, rfl⟩
  have hsz1 : (w.alloc (.map #[] 0)).heap.size = w.heap.size + 1 := World.size_alloc _ _
  have H0 : Hid (TI B M N D nf R w w0 [] (usF nf []) 0 (Maps.has D) (Maps.size D)) := by
    have hK := HK.out
    have hMl := hK.1.own.lt
    refine ⟨by rw [hR]; exact hrg0, ⟨0, fun _ => .slice none 0 0, .map [], ⟨?_, tidy_empty, fun k => by simp [usF]; rfl, fun k hk => absurd rfl hk, fun k hk => absurd rfl hk, fun k j g hk => absurd rfl hk, Nat.le_refl _⟩, Nat.le_refl _⟩, fun o => Nat.le_refl _, List.nodup_nil, fun k hk => by rw [hk]; simp, fun k hk => by simp at hk, ?_, by simp; exact hK.2, by omega, by omega⟩
    · rw [hB]
      exact (World.ownsMap_made w Tryz.prog 9 _).kept hg0 (by simp)
    · rw [hB]
      refine ⟨hg0.os, hg0.tape, hg0.output, by have := hg0.size; omega, fun g hg => (hg0.block g (by omega) (by simp)).trans (((Below.refl _ w).alloc (Nat.le_refl _) _).block g hg)⟩
  have HB : Hid (B = w.heap.size) := hB
  rw [← hB, ← hR]
  clear hrg0 hg0 hs0 hown1 hsz1 hR hB
  go_loopw [4] (fun _ wr => ∃ ks left cnt, Hid (TI B M N D nf R w wr ks (usF nf ks) (ks.length * 1048576) left cnt)) (fun _ wr => wr.rangeLeft M R)
  case atStart => exact ⟨[], _, _, by show TI B M N D nf R w w0 [] (usF nf []) (0 * 1048576) _ _; rw [Nat.zero_mul]; exact H0.out⟩
  case round =>
    obtain ⟨ks, left, cnt, HI⟩ := hrel
    have hrg := HI.out.rg
    go_wp2_with (first
      | (at_next; refine wpList_next_ranges _ rfl _ rfl 9 lawS slE encStr (fun u : Value => u) invKG invSl M R _ _ _ _ rfl hrg ?_ ?_)
      | go_in)
    · intro hc0 hl0
      have HF : Hid (∃ M2 n2 vf D2 ks, Ending.returned (Value.map (some B)) = .returned (.map (some M2)) ∧ ML B M2 n2 (usF nf ks) vf D2 wr ∧ ks.Nodup ∧ (∀ k, k ∈ ks ↔ Maps.has D (.string k) = true) ∧ n2 ≤ 60 * 1048576 ∧ Below B w wr) := by
        obtain ⟨n2, vf, D2, m1, m2⟩ := HI.out.ml
        refine ⟨B, n2, vf, D2, ks, rfl, m1, HI.out.nd, fun k => ⟨HI.out.sub k, fun hk => (HI.out.mem k hk).2 (hl0 _)⟩, ?_, HI.out.bel⟩
        have hs := HI.out.szk
        exact Nat.le_trans m2 (Nat.mul_le_mul_right 1048576 (show ks.length ≤ 60 by omega))
      clear hc0 hl0 hrg
      go_wp2
      go_ret
      rw [← HB.out]
      exact HF.out
    · intro x u kl yd yp w2 cnt2 hkey hlk hv hat hrg2 hlt hg2 hs2 hen
      obtain ⟨x', ex, rfl, hxl⟩ := Maps.keyOf_str Tryz.underlying9 hkey
      obtain rfl := encStr_inj ex
      have hhas := has_of_at hat
      have hTI := HI.out.next hhas hlk hrg2 hlt hg2
      have hK := HK.out.1.below hTI.bel (Nat.le_of_eq HB.out.symm)
      obtain ⟨hsl, hln, ao, c, he, hmem⟩ := hK.tx _ hhas
      have hu : u = lf x := by
        have e1 := hK.get _ hhas .nil
        rw [hat] at e1
        subst e1
        exact slE_inj hv (slE_is hsl)
      rw [he] at hu
      subst hu
      have HT0 : Hid (TI B M N D nf R w w2 (x :: ks) (uadd (usF nf ks) (bN x) ((nf x).take 0)) (ks.length * 1048576 + 0) (fun z => left z && !z.sameKey (.string x)) cnt2) := by
        show TI _ _ _ _ _ _ _ _ _ _ _ _ _
        rw [List.take_zero, uadd_nil, Nat.add_zero]
        exact hTI
      have HMS : Hid (cnt2 < cnt ∧ wr.rangeLeft M R = cnt) := ⟨hlt, hrg.left_eq⟩
      have HSz : Hid (∀ y ∈ nf x, y.size ≤ maxLen) := hK.sz _ hhas
      have HMm : Hid (nf x = [] ∨ ∃ g o, ao = some ⟨g, o, none⟩ ∧ g < B ∧ ∀ j (hj : j < (nf x).length), w.cell? ⟨g, o + j, none⟩ = some (.string (nf x)[j])) := by
        obtain ⟨_, _, ao', c', he', hm'⟩ := HK.out.1.tx _ hhas
        rw [he] at he'
        injection he' with e1 _ _
        subst e1
        rw [HB.out]
        exact hm'
      have hln1 : ((nf x).length : Int) ≤ 1048576 := by omega
      have hes : encStr x = .string (bN x) := rfl
      rw [hes] at hen ⊢
      obtain ⟨nl, hnl⟩ : ∃ nl, nf x = nl := ⟨_, rfl⟩
      rw [hnl] at HSz HMm HT0 hln1 hen ⊢
      have HNL : Hid (nf x = nl) := hnl
      clear hkey ex hv hat hrg2 hlt hg2 hs2 hlk hhas hTI hK hsl hln he hmem hxl hes hrg hnl
      have HLn : Hid (nl.length ≤ 1048576) := by show _ ≤ _; omega
      go_wp2
      obtain ⟨wo, rfl⟩ : ∃ wo, wo = wr := ⟨wr, rfl⟩
      go_loopw [18] (fun v wr => ∃ i : Nat, i ≤ nl.length ∧ v = .int .i64 (i : Int) ∧ Hid (TI B M N D nf R w wr (x :: ks) (uadd (usF nf ks) (bN x) (nl.take i)) (ks.length * 1048576 + i) (fun z => left z && !z.sameKey (.string x)) cnt2)) (fun v _ => nl.length - (intOf v).toNat)
      case atStart => exact ⟨0, Nat.zero_le _, rfl, HT0⟩
      case round =>
        obtain ⟨i, hi, rfl, HJ⟩ := hrel
        by_cases hlt : i < nl.length
        · have hii : (i : Int) < (nl.length : Int) := by omega
          rcases HMm.out with h | ⟨g, o, rfl, hg, hcc⟩
          · exfalso; rw [h] at hlt; exact absurd hlt (by simp)
          obtain ⟨n2, vf, D2, m1, m2⟩ := HJ.out.ml
          have c0 : wr.cell? ⟨g, o + i, none⟩ = some (.string nl[i]) := (HJ.out.bel.cell (p := ⟨g, o + i, none⟩) hg).trans (hcc i hlt)
          have hys := HSz.out _ (List.getElem_mem hlt)
          have hlook := m1.look nl[i] hys
          have hkl : ks.length ≤ 59 := by have := HJ.out.szk; simp at this; omega
          have hbd : ks.length * 1048576 ≤ 59 * 1048576 := Nat.mul_le_mul_right _ hkl
          obtain ⟨G, C, w1, hap, hown1, hfin⟩ := m1.step nl[i].data.toList (bN x) (Nat.le_trans (Nat.le_of_eq HB.out) HJ.out.bel.size) (by have := HJ.out.ln nl[i].data.toList; have := HLn.out; omega)
          have hkey := keyOf_string_mk Tryz.underlying9 hys
          have hN2 : n2 < maxLen := by have := HLn.out; unfold maxLen; omega
          have HS : Hid (uadd (usF nf ks) (bN x) (nl.take (i + 1)) = updL (uadd (usF nf ks) (bN x) (nl.take i)) nl[i].data.toList (uadd (usF nf ks) (bN x) (nl.take i) nl[i].data.toList ++ [bN x])) := by
            show _ = _
            rw [List.take_succ_eq_append_getElem hlt, uadd_snoc]
          have HLN := HJ.out.ln
          have HJ2 := HJ
          obtain ⟨us, hus⟩ : ∃ us, uadd (usF nf ks) (bN x) (nl.take i) = us := ⟨_, rfl⟩
          rw [hus] at HS m1 hlook hap hfin HLN HJ2
          obtain ⟨y, hy⟩ : ∃ y, nl[i] = y := ⟨_, rfl⟩
          rw [hy] at HS c0 hlook hap hfin hkey
          have HFn : Hid (∀ D3 w3, D3 = D2.put (.string y.data.toList) (slD (.slice (some ⟨G, 0, none⟩) (us y.data.toList ++ [bN x]).length C)) → w3.ownsMap Tryz.prog 9 slE B (n2 + 1) D3 → w1.grownBy w3 (some B) → TI B M N D nf R w w3 (x :: ks) (uadd (usF nf ks) (bN x) (nl.take (i + 1))) (ks.length * 1048576 + (i + 1)) (fun z => left z && !z.sameKey (.string x)) cnt2) := fun D3 w3 hD ho hg3 => by
            subst hD
            obtain ⟨q1, q2⟩ := hfin w3 ho hg3
            have := HJ2.out.add m1 m2 q1 q2 (updL_len HLN _ _)
            rw [HS.out]
            rw [Nat.add_assoc] at this
            exact this
          have hel := slE_is (v := .slice (some ⟨G, 0, none⟩) (us y.data.toList ++ [bN x]).length C) ⟨_, _, _, rfl⟩
          generalize (us y.data.toList ++ [bN x]).length = ln1 at *
          generalize lkV us vf y.data.toList = lv at *
          clear hcc m1 m2 hys hfin HS HLN HJ2 hus hy hkl hbd HJ HT0 HMm
          go_wp2_with (first
            | (at_mapUpdate; refine wpList_mapUpdate_own _ rfl _ _ _ 53 rfl 9 23 lawS Tryz.underlying53 _ B n2 D2 rfl hown1 hN2 _ _ _ rfl rfl hkey _ [] hel ?_; intro w3 hown3 hgrow3)
            | go_in)
          refine ⟨⟨i + 1, by omega, by go_num, HFn.out _ w3 rfl hown3 hgrow3⟩, ?_⟩
          simp [intOf]
          omega
        · obtain rfl : i = nl.length := by omega
          have hJ := HJ.out
          rw [List.take_length] at hJ
          have HE : Hid (TI B M N D nf R w wr (x :: ks) (usF nf (x :: ks)) ((x :: ks).length * 1048576) (fun z => left z && !z.sameKey (.string x)) cnt2 ∧ wr.rangeLeft M R = cnt2) := by
            refine ⟨?_, hJ.rg.left_eq⟩
            show TI B M N D nf R w wr (x :: ks) (uadd (usF nf ks) (bN x) (nf x)) _ _ _
            rw [HNL.out]
            exact hJ.mono (mul_up HLn.out)
          clear hJ HJ HT0 HMm
          go_wp2
          refine ⟨⟨x :: ks, _, cnt2, HE.out.1⟩, ?_⟩
          rw [HE.out.2, HMS.out.2]
          exact HMS.out.1
end Go.Proofs.YtankaiopdbcndaaGreatDoor

/- Needs, with a name that must be among them. -/
namespace Go.Proofs.YtankaiopdbcndaaGreatDoor
open Go.RowKit Go.Shelf Go.Maps Go.WideMaps

/-- What needsWith tells. -/
def ckW (L : List Tg) (x : ByteArray) : Int := if ckN L ≠ 0 then ckN L else if Maps.has (ndD L) (.string x.data.toList) = true then 0 else 5
/-- How needsWith ends. -/
def NwP (L : List Tg) (x : ByteArray) (w : World) (e : Ending) (w' : World) : Prop := ∃ mo, e = .returned (.tuple #[.map mo, .int .i64 (ckW L x)]) ∧ (ckW L x ≠ 0 → mo = none) ∧ (ckW L x = 0 → ∃ M n, mo = some M ∧ w.heap.size ≤ M ∧ n ≤ 60 ∧ w'.ownsMap Tryz.prog 9 slE M n (ndD L)) ∧ Below w.heap.size w w'

set_option maxHeartbeats 4000000 in
set_option maxRecDepth 100000 in
theorem needsWith_any (ao : Option Addr) (cap : Nat) (L : List Tg) (x : ByteArray) (w : World) (hl : IsTg w ao L) (hn : L.length ≤ 1048576) (hs : ∀ t ∈ L, ∀ y ∈ t.ns, y.size ≤ maxLen) (hx : x.size ≤ maxLen) :
    Calls Tryz.prog 34 #[.slice ao L.length cap, .string x] w (NwP L x w) := by
  have H1 := needsOf_any ao cap L w hl hn hs
  have HP : Hid (∀ mo c w', c = ckW L x → (c ≠ 0 → mo = none) → (c = 0 → ∃ M n, mo = some M ∧ w.heap.size ≤ M ∧ n ≤ 60 ∧ w'.ownsMap Tryz.prog 9 slE M n (ndD L)) → Below w.heap.size w w' → NwP L x w (.returned (.tuple #[.map mo, .int .i64 c])) w') := fun mo c w' h1 h2 h3 h4 => by
    subst h1
    exact ⟨mo, rfl, h2, h3, h4⟩
  have hck : ckW L x = if ckN L ≠ 0 then ckN L else if Maps.has (ndD L) (.string x.data.toList) = true then 0 else 5 := rfl
  rw [hck] at HP
  clear hck
  generalize L.length = ln at *
  by_cases h0 : ckN L = 0
  · rw [if_neg (by simp [h0])] at HP
    cases hb : Maps.has (ndD L) (.string x.data.toList) with
    | true =>
      rw [hb, if_pos rfl] at HP
      go_enter Tryz.func34, Tryz.ntmps34
      go_wp2_with (first
        | (go_at_call 29; refine H1.mono ?_; rintro e w1 ⟨mo, rfl, g1, g2, g3⟩; obtain ⟨M, n, rfl, g4, g5, g6⟩ := g2 h0; rw [h0]; have H2 := lacks_any M n _ x w1 g6 hx; rw [hb] at H2; have H3 : Hid (w.heap.size ≤ M ∧ n ≤ 60 ∧ w1.ownsMap Tryz.prog 9 slE M n (ndD L) ∧ Below w.heap.size w w1) := ⟨g4, g5, g6, g3⟩; clear g1 g2 g3 g4 g5 g6 H1)
        | (go_at_call 49; refine H2.mono ?_; rintro e w2 ⟨rfl, rfl⟩)
        | go_in)
      go_ret2
      exact HP.out _ _ _ rfl (fun h => absurd rfl h) (fun _ => ⟨M, n, rfl, H3.out.1, H3.out.2.1, H3.out.2.2.1⟩) H3.out.2.2.2
    | false =>
      rw [hb, if_neg (by simp)] at HP
      go_enter Tryz.func34, Tryz.ntmps34
      go_wp2_with (first
        | (go_at_call 29; refine H1.mono ?_; rintro e w1 ⟨mo, rfl, g1, g2, g3⟩; obtain ⟨M, n, rfl, g4, g5, g6⟩ := g2 h0; rw [h0]; have H2 := lacks_any M n _ x w1 g6 hx; rw [hb] at H2; have H3 : Hid (w.heap.size ≤ M ∧ n ≤ 60 ∧ w1.ownsMap Tryz.prog 9 slE M n (ndD L) ∧ Below w.heap.size w w1) := ⟨g4, g5, g6, g3⟩; clear g1 g2 g3 g4 g5 g6 H1)
        | (go_at_call 49; refine H2.mono ?_; rintro e w2 ⟨rfl, rfl⟩)
        | go_in)
      go_ret2
      exact HP.out none 5 _ rfl (fun _ => rfl) (fun h => by cases h) H3.out.2.2.2
  · rw [if_pos h0] at HP
    have HC : Hid (ckN L ≠ 0) := h0
    unfold NdP at H1
    generalize ckN L = c at *
    have hc1 : ¬(c : Int) = 0 := h0
    go_enter Tryz.func34, Tryz.ntmps34
    go_wp2_with (first
      | (go_at_call 29; refine H1.mono ?_; rintro e w1 ⟨mo, rfl, g1, g2, g3⟩; have HB : Hid (Below w.heap.size w w1) := g3; clear g1 g2 g3 H1)
      | go_in)
    go_ret2
    exact HP.out none c _ rfl (fun _ => rfl) (fun h => absurd h HC.out) HB.out
end Go.Proofs.YtankaiopdbcndaaGreatDoor

/- Numbers by names, in a map; the depths of names. -/
namespace Go.Proofs.YtankaiopdbcndaaGreatDoor
open Go.RowKit Go.Shelf Go.Maps Go.WideMaps

def updI (f : List UInt8 → Int) (k : List UInt8) (v : Int) : List UInt8 → Int := fun j => if j = k then v else f j
/-- A map of numbers: by each name its number, none is 0. -/
def NM (M N : Nat) (f : List UInt8 → Int) (w : World) : Prop := ∃ D : DataW Unit, w.ownsMap Tryz.prog 9 (plainElem Tryz.prog 3) M N D ∧ Tidy D ∧ ∀ k, D.atKey (.string k) (.lit (.int .i64 0)) = .lit (.int .i64 (f k))
theorem zeroI (w : World) : (zeroValue 3).run Tryz.prog w = .ok (.int .i64 0) w := by kernel_rfl
theorem NM.made (w : World) : NM w.heap.size 0 (fun _ => 0) (w.alloc (.map #[] 0)) := ⟨.map [], World.ownsMap_made _ _ _ _, tidy_empty, fun _ => rfl⟩
theorem NM.keep {M N : Nat} {f : List UInt8 → Int} {w w' : World} (h : NM M N f w) (hh : w'.heap[M]? = w.heap[M]?) : NM M N f w' := by
  obtain ⟨D, h1, h2, h3⟩ := h
  exact ⟨D, omapG h1 hh, h2, h3⟩
theorem NM.look {M N : Nat} {f : List UInt8 → Int} {w : World} (h : NM M N f w) (x : ByteArray) (hs : x.size ≤ maxLen) : (Instr.lookup 67 (.map (some M)) (.string x) false).run Tryz.prog w = .ok (.int .i64 (f x.data.toList)) w := by
  obtain ⟨D, h1, h2, h3⟩ := h
  obtain ⟨c, hr, hat, _⟩ := h1.lookup_int lawS Tryz.underlying67 Tryz.underlying3 (zeroI w) (keyOf_string_mk Tryz.underlying9 hs)
  have e := Lit.int.inj (DataW.lit.inj ((h3 _).symm.trans hat))
  rw [hr, e.2]
theorem NM.put {M N : Nat} {f : List UInt8 → Int} {w : World} (h : NM M N f w) (x : ByteArray) (v : Int) (hs : x.size ≤ maxLen) (hN : N < maxLen) (hv : -9000000000000000000 ≤ v ∧ v ≤ 9000000000000000000) :
    ∃ w', (Instr.mapUpdate 67 (.map (some M)) (.string x) (.int .i64 v)).run Tryz.prog w = .ok () w' ∧ NM M (N + 1) (updI f x.data.toList v) w' ∧ w.grownBy w' (some M) := by
  obtain ⟨D, h1, h2, h3⟩ := h
  obtain ⟨w', r1, r2, r3⟩ := h1.update lawS Tryz.underlying67 hN (keyOf_string_mk Tryz.underlying9 hs) (plainElem_int (H := Unit) Tryz.underlying3 (a := v) (WalkArith.wf_i64 (by omega)))
  refine ⟨w', r1, ⟨_, r2, h2.put (by exact trivial) _, fun k => ?_⟩, r3⟩
  unfold updI
  by_cases e : k = x.data.toList
  · subst e
    rw [if_pos rfl]
    exact atKey_put_same h2.isMap (by exact trivial) _ _
  · rw [if_neg e, atKey_put_other (fun e2 => e (by injection e2))]
    exact h3 k
/-- What a name that is there needs. -/
theorem LK.look {M N : Nat} {D : DataW Unit} {nf : List UInt8 → List ByteArray} {lf : List UInt8 → Value} {w : World} (h : LK M N D nf lf w) (x : ByteArray) (hs : x.size ≤ maxLen) (hx : Maps.has D (.string x.data.toList) = true) :
    (Instr.lookup 53 (.map (some M)) (.string x) false).run Tryz.prog w = .ok (lf x.data.toList) w := by
  obtain ⟨v, ps, hr, hv⟩ := h.own.lookup lawS Tryz.underlying53 (zeroSl w) (zd := slD (.slice none 0 0)) (zp := []) rfl (keyOf_string_mk Tryz.underlying9 hs)
  rw [h.get _ hx] at hv
  rw [hr, slE_inj hv (slE_is (h.tx _ hx).1)]

/-- One name's depth, past all that it needs. -/
def dpI (x : List UInt8) (nl : List ByteArray) (f : List UInt8 → Int) : List UInt8 → Int := nl.foldl (fun g y => updI g x (max (g x) (g y.data.toList + 1))) f
def dpF (nf : List UInt8 → List ByteArray) (os : List ByteArray) : List UInt8 → Int := os.foldl (fun f x => dpI x.data.toList (nf x.data.toList) f) (fun _ => 0)
theorem dpI_snoc (x : List UInt8) (nl : List ByteArray) (y : ByteArray) (f : List UInt8 → Int) : dpI x (nl ++ [y]) f = updI (dpI x nl f) x (max (dpI x nl f x) (dpI x nl f y.data.toList + 1)) := by simp [dpI, List.foldl_append]
theorem dpF_snoc (nf : List UInt8 → List ByteArray) (os : List ByteArray) (x : ByteArray) : dpF nf (os ++ [x]) = dpI x.data.toList (nf x.data.toList) (dpF nf os) := by simp [dpF, List.foldl_append]

structure DI (B : Nat) (w wr : World) (f : List UInt8 → Int) (t : Nat) : Prop where
  nm : ∃ n, NM B n f wr ∧ n ≤ t
  rg : ∀ k, 0 ≤ f k ∧ f k ≤ (t : Int)
  bel : Below B w wr
theorem DI.mono {B t t2 : Nat} {w wr : World} {f : List UInt8 → Int} (h : DI B w wr f t) (ht : t ≤ t2) : DI B w wr f t2 := by
  obtain ⟨n, h1, h2⟩ := h.nm
  exact ⟨⟨n, h1, Nat.le_trans h2 ht⟩, fun k => by have := h.rg k; omega, h.bel⟩
theorem DI.step {B t : Nat} {w wr : World} {f : List UInt8 → Int} (h : DI B w wr f t) (ht : t ≤ 1000000000) (x y : ByteArray) (hx : x.size ≤ maxLen) :
    ∃ w', (Instr.mapUpdate 67 (.map (some B)) (.string x) (.int .i64 (max (f x.data.toList) (f y.data.toList + 1)))).run Tryz.prog wr = .ok () w' ∧ DI B w w' (updI f x.data.toList (max (f x.data.toList) (f y.data.toList + 1))) (t + 1) := by
  obtain ⟨n, h1, h2⟩ := h.nm
  have a := h.rg x.data.toList
  have b := h.rg y.data.toList
  have hlt : B < wr.heap.size := by obtain ⟨D, h3, _⟩ := h1; exact h3.lt
  obtain ⟨w', r1, r2, r3⟩ := h1.put x (max (f x.data.toList) (f y.data.toList + 1)) hx (by unfold maxLen; omega) (by omega)
  refine ⟨w', r1, ⟨n + 1, r2, by omega⟩, fun k => ?_, h.bel.grown r3 (Nat.le_of_lt hlt) (fun j hj => by injection hj with hj; omega)⟩
  unfold updI
  split
  · omega
  · have := h.rg k; omega

set_option maxHeartbeats 4000000 in
set_option maxRecDepth 100000 in
theorem depths_any (M N : Nat) (D : DataW Unit) (nf : List UInt8 → List ByteArray) (lf : List UInt8 → Value) (w : World) (h : LK M N D nf lf w) (v : Value) (os : List ByteArray) (ho : TxIn w v os) (hn : os.length ≤ 60) (hin : ∀ x ∈ os, Maps.has D (.string x.data.toList) = true) :
    Calls Tryz.prog 39 #[.map (some M), v] w fun e w' => ∃ M2 n2, e = .returned (.map (some M2)) ∧ NM M2 n2 (dpF nf os) w' ∧ w.heap.size ≤ M2 ∧ Below w.heap.size w w' := by
  obtain ⟨_, _, ao, c, rfl, hmem⟩ := ho
  have HK : Hid (LK M N D nf lf w) := h
  have HI : Hid (∀ x ∈ os, Maps.has D (.string x.data.toList) = true) := hin
  have HM : Hid (os = [] ∨ ∃ g o, ao = some ⟨g, o, none⟩ ∧ g < w.heap.size ∧ ∀ j (hj : j < os.length), w.cell? ⟨g, o + j, none⟩ = some (.string os[j])) := hmem
  have hn1 : (os.length : Int) ≤ 60 := by omega
  have hmm := @run_makeMap Tryz.prog
  have H0 : Hid (DI w.heap.size w (w.alloc (.map #[] 0)) (dpF nf (os.take 0)) (0 * 1048576)) := ⟨⟨0, NM.made w, Nat.zero_le _⟩, fun k => by simp [dpF], (Below.refl _ w).alloc (Nat.le_refl _) _⟩
  clear h hin hmem
  go_enter Tryz.func39, Tryz.ntmps39
  go_wp2
  obtain ⟨B, hB⟩ : ∃ B, B = w.heap.size := ⟨_, rfl⟩
  have HB : Hid (B = w.heap.size) := hB
  rw [← hB] at H0 HM ⊢
  clear hB
  go_loopw [13] (fun u wr => ∃ i : Nat, i ≤ os.length ∧ u = .int .i64 (i : Int) ∧ Hid (DI B w wr (dpF nf (os.take i)) (i * 1048576))) (fun u _ => os.length - (intOf u).toNat)
  case atStart => exact ⟨0, Nat.zero_le _, rfl, H0⟩
  case round =>
    obtain ⟨i, hi, rfl, HJ⟩ := hrel
    by_cases hlt : i < os.length
    · have hii : (i : Int) < (os.length : Int) := by omega
      rcases HM.out with h | ⟨g, o, rfl, hg, hcc⟩
      · exfalso; rw [h] at hlt; exact absurd hlt (by simp)
      have c0 : wr.cell? ⟨g, o + i, none⟩ = some (.string os[i]) := (HJ.out.bel.cell (p := ⟨g, o + i, none⟩) hg).trans (hcc i hlt)
      have hhas := HI.out _ (List.getElem_mem hlt)
      have HS : Hid (dpF nf (os.take (i + 1)) = dpI os[i].data.toList (nf os[i].data.toList) (dpF nf (os.take i))) := by
        show _ = _
        rw [List.take_succ_eq_append_getElem hlt, dpF_snoc]
      obtain ⟨x, hx⟩ : ∃ x, os[i] = x := ⟨_, rfl⟩
      rw [hx] at c0 hhas HS
      have hxs : x.size ≤ maxLen := by have := HK.out.ks _ hhas; simpa using this
      have HXS : Hid (x.size ≤ maxLen) := hxs
      have hK := HK.out.below HJ.out.bel (Nat.le_of_eq HB.out.symm)
      have hlook := hK.look x hxs hhas
      obtain ⟨_, hln, ao2, c2, he, hmem⟩ := HK.out.tx _ hhas
      have HSz : Hid (∀ y ∈ nf x.data.toList, y.size ≤ maxLen) := HK.out.sz _ hhas
      rw [he] at hlook
      obtain ⟨nl, hnl⟩ : ∃ nl, nf x.data.toList = nl := ⟨_, rfl⟩
      rw [hnl] at hlook hln hmem HSz HS
      rw [← HB.out] at hmem
      have HMm : Hid (nl = [] ∨ ∃ g o, ao2 = some ⟨g, o, none⟩ ∧ g < B ∧ ∀ j (hj : j < nl.length), w.cell? ⟨g, o + j, none⟩ = some (.string nl[j])) := hmem
      have hln1 : (nl.length : Int) ≤ 1048576 := by omega
      have HLn : Hid (nl.length ≤ 1048576) := hln
      obtain ⟨f, hf⟩ : ∃ f, dpF nf (os.take i) = f := ⟨_, rfl⟩
      rw [hf] at HS HJ
      have HT0 : Hid (DI B w wr (dpI x.data.toList (nl.take 0) f) (i * 1048576 + 0)) := by
        show DI _ _ _ _ _
        rw [Nat.add_zero]
        exact HJ.out
      clear hcc hx hhas hxs hK hln hmem hnl hf HJ he
      go_wp2
      obtain ⟨wo, rfl⟩ : ∃ wo, wo = wr := ⟨wr, rfl⟩
      go_loopw [21] (fun u wr => ∃ j : Nat, j ≤ nl.length ∧ u = .int .i64 (j : Int) ∧ Hid (DI B w wr (dpI x.data.toList (nl.take j) f) (i * 1048576 + j))) (fun u _ => nl.length - (intOf u).toNat)
      case atStart => exact ⟨0, Nat.zero_le _, rfl, HT0⟩
      case round =>
        obtain ⟨j, hj, rfl, HJ⟩ := hrel
        by_cases hjl : j < nl.length
        · have hjj : (j : Int) < (nl.length : Int) := by omega
          rcases HMm.out with h | ⟨g2, o2, rfl, hg2, hcc2⟩
          · exfalso; rw [h] at hjl; exact absurd hjl (by simp)
          have c1 : wr.cell? ⟨g2, o2 + j, none⟩ = some (.string nl[j]) := (HJ.out.bel.cell (p := ⟨g2, o2 + j, none⟩) hg2).trans (hcc2 j hjl)
          have hys := HSz.out _ (List.getElem_mem hjl)
          have HS2 : Hid (dpI x.data.toList (nl.take (j + 1)) f = updI (dpI x.data.toList (nl.take j) f) x.data.toList (max (dpI x.data.toList (nl.take j) f x.data.toList) (dpI x.data.toList (nl.take j) f nl[j].data.toList + 1))) := by
            show _ = _
            rw [List.take_succ_eq_append_getElem hjl, dpI_snoc]
          obtain ⟨y, hy⟩ : ∃ y, nl[j] = y := ⟨_, rfl⟩
          rw [hy] at c1 hys HS2
          obtain ⟨fj, hfj⟩ : ∃ fj, dpI x.data.toList (nl.take j) f = fj := ⟨_, rfl⟩
          rw [hfj] at HS2 HJ
          have hi60 : i ≤ 60 := by omega
          have hbd : i * 1048576 + j ≤ 1000000000 := Nat.le_trans (Nat.add_le_add (Nat.mul_le_mul_right 1048576 hi60) (Nat.le_trans hj HLn.out)) (by decide)
          obtain ⟨n, m1, _⟩ := HJ.out.nm
          have l1 := m1.look x HXS.out
          have l2 := m1.look y hys
          have hr1 := HJ.out.rg x.data.toList
          have hr2 := HJ.out.rg y.data.toList
          obtain ⟨w3, hup, hD⟩ := HJ.out.step hbd x y HXS.out
          have HE : Hid (DI B w w3 (dpI x.data.toList (nl.take (j + 1)) f) (i * 1048576 + (j + 1))) := by
            show DI _ _ _ _ _
            rw [HS2.out, ← Nat.add_assoc]
            exact hD
          have ha : (0 : Int) ≤ fj y.data.toList ∧ fj y.data.toList ≤ 1000000000 := by omega
          have ha0 := ha.1
          have ha1 := ha.2
          generalize fj x.data.toList = a at *
          generalize fj y.data.toList = b at *
          clear hcc2 hys HS2 hy hfj m1 hr1 hr2 hD HJ HT0 HMm HS H0 hbd ha
          go_wp2
          refine ⟨⟨j + 1, by omega, by go_num, HE⟩, ?_⟩
          simp [intOf]
          omega
        · obtain rfl : j = nl.length := by omega
          have HE : Hid (DI B w wr (dpF nf (os.take (i + 1))) ((i + 1) * 1048576)) := by
            have hJ := HJ.out
            rw [List.take_length] at hJ
            show DI _ _ _ _ _
            rw [HS.out]
            refine hJ.mono ?_
            rw [Nat.add_mul, Nat.one_mul]
            exact Nat.add_le_add_left HLn.out _
          clear HJ HT0 HMm HS H0
          go_wp2
          refine ⟨⟨i + 1, by omega, by go_num, HE⟩, ?_⟩
          simp [intOf]
          omega
    · obtain rfl : i = os.length := by omega
      have HE : Hid (∃ n, NM B n (dpF nf os) wr ∧ Below B w wr) := by
        have hJ := HJ.out
        rw [List.take_length] at hJ
        obtain ⟨n, h1, _⟩ := hJ.nm
        exact ⟨n, h1, hJ.bel⟩
      clear HJ H0
      go_wp2
      go_ret
      obtain ⟨n, h1, h2⟩ := HE.out
      exact ⟨B, n, rfl, h1, by rw [HB.out]; exact Nat.le_refl _, by rw [← HB.out]; exact h2⟩
end Go.Proofs.YtankaiopdbcndaaGreatDoor

/- Names in their order, plain: again and again the least one that is ready. -/
namespace Go.Proofs.YtankaiopdbcndaaGreatDoor
section
variable {α : Type} [DecidableEq α]
/-- How many of those that k needs are still to come. -/
def lft (nd : α → List α) (out : List α) (k : α) : Nat := ((nd k).filter fun y => decide (y ∉ out)).length
theorem lft_zero {nd : α → List α} {out : List α} {k : α} : lft nd out k = 0 ↔ ∀ y ∈ nd k, y ∈ out := by
  unfold lft
  rw [List.length_eq_zero_iff, List.filter_eq_nil_iff]
  constructor
  · intro h y hy
    have := h y hy
    simpa using this
  · intro h y hy
    simpa using h y hy
theorem filt_out (l out : List α) (x : α) (hx : x ∉ out) : (l.filter fun y => decide (y ∉ out)).length = (l.filter fun y => decide (y ∉ out ++ [x])).length + l.count x := by
  induction l with
  | nil => rfl
  | cons a l ih =>
    by_cases ha : a = x
    · subst ha
      rw [List.filter_cons_of_pos (by simpa using hx), List.filter_cons_of_neg (by simp), List.count_cons_self, List.length_cons, ih]
      omega
    · rw [List.count_cons_of_ne ha]
      by_cases ho : a ∈ out
      · rw [List.filter_cons_of_neg (by simpa using ho), List.filter_cons_of_neg (by simp [ho]), ih]
      · rw [List.filter_cons_of_pos (by simpa using ho), List.filter_cons_of_pos (by simp [ho, ha]), List.length_cons, List.length_cons, ih]
        omega
theorem lft_out {nd : α → List α} {out : List α} {x : α} (hx : x ∉ out) (k : α) : lft nd out k = lft nd (out ++ [x]) k + (nd k).count x := filt_out _ _ _ hx
def updA (f : α → Int) (k : α) (v : Int) : α → Int := fun j => if j = k then v else f j

/-- While names come out: out are out, L are ready, aw counts what is awaited, r are still to be told of the last one. -/
structure KI (ks : List α) (nd : α → List α) (out L : List α) (aw : α → Int) (r : List α) : Prop where
  sub : ∀ k ∈ out ++ L, k ∈ ks
  nod : (out ++ L).Nodup
  awt : ∀ k ∈ ks, aw k = (lft nd out k : Int) + (r.count k : Int)
  rdy : ∀ k ∈ ks, k ∈ out ++ L ↔ aw k = 0
theorem KI.pop {ks : List α} {nd : α → List α} {out L L2 us : List α} {aw : α → Int} {x : α} (h : KI ks nd out L aw []) (hp : (x :: L2).Perm L) (hu : ∀ k ∈ ks, us.count k = (nd k).count x) : KI ks nd (out ++ [x]) L2 aw us := by
  have hpp : (out ++ [x] ++ L2).Perm (out ++ L) := by
    rw [List.append_assoc]
    exact List.Perm.append_left out hp
  have hx : x ∉ out := fun hx => by
    have := h.nod
    rw [List.nodup_append] at this
    exact this.2.2 x hx x (hp.mem_iff.1 List.mem_cons_self) rfl
  refine ⟨fun k hk => h.sub k (hpp.mem_iff.1 hk), hpp.nodup_iff.2 h.nod, fun k hk => ?_, fun k hk => hpp.mem_iff.trans (h.rdy k hk)⟩
  have e := h.awt k hk
  rw [lft_out hx k] at e
  rw [hu k hk]
  simp at e
  omega
theorem KI.tell {ks : List α} {nd : α → List α} {out L r : List α} {aw : α → Int} {u : α} (h : KI ks nd out L aw (u :: r)) (hu : u ∈ ks) : aw u ≥ 1 ∧
    (aw u - 1 ≠ 0 → KI ks nd out L (updA aw u (aw u - 1)) r) ∧ (aw u - 1 = 0 → ∀ L2, L2.Perm (u :: L) → KI ks nd out L2 (updA aw u (aw u - 1)) r) := by
  have e := h.awt u hu
  rw [List.count_cons_self] at e
  have h1 : aw u ≥ 1 := by omega
  have hno : u ∉ out ++ L := fun hm => by have := (h.rdy u hu).1 hm; omega
  have ha : ∀ k ∈ ks, updA aw u (aw u - 1) k = (lft nd out k : Int) + (r.count k : Int) := fun k hk => by
    unfold updA
    split
    · rename_i hku
      subst hku
      omega
    · rename_i hku
      have := h.awt k hk
      rw [List.count_cons_of_ne (fun e => hku e.symm)] at this
      exact this
  refine ⟨h1, fun h0 => ⟨h.sub, h.nod, ha, fun k hk => ?_⟩, fun h0 L2 hp => ?_⟩
  · unfold updA
    split
    · rename_i hku
      subst hku
      exact ⟨fun hm => absurd hm hno, fun hm => absurd hm h0⟩
    · exact h.rdy k hk
  · have hpp : (out ++ L2).Perm (u :: (out ++ L)) := (List.Perm.append_left out hp).trans List.perm_middle
    refine ⟨fun k hk => ?_, hpp.nodup_iff.2 (List.nodup_cons.2 ⟨hno, h.nod⟩), ha, fun k hk => hpp.mem_iff.trans ?_⟩
    · rcases List.mem_cons.1 (hpp.mem_iff.1 hk) with rfl | hk
      · exact hu
      · exact h.sub k hk
    · unfold updA
      split
      · rename_i hku
        subst hku
        exact ⟨fun _ => h0, fun _ => List.mem_cons_self⟩
      · rename_i hku
        rw [List.mem_cons]
        exact ⟨fun hm => (h.rdy k hk).1 (hm.resolve_left hku), fun hm => .inr ((h.rdy k hk).2 hm)⟩
/-- The next one: the least that is ready. -/
structure Stp (ks : List α) (nd : α → List α) (lt : α → α → Bool) (out : List α) (x : α) : Prop where
  mem : x ∈ ks
  new : x ∉ out
  rdy : ∀ y ∈ nd x, y ∈ out
  least : ∀ k ∈ ks, k ∉ out → (∀ y ∈ nd k, y ∈ out) → lt k x = false
def Kn (ks : List α) (nd : α → List α) (lt : α → α → Bool) (out : List α) : Prop := ∀ i (hi : i < out.length), Stp ks nd lt (out.take i) out[i]
theorem KI.stp {ks : List α} {nd : α → List α} {lt : α → α → Bool} {out L L2 : List α} {aw : α → Int} {x : α} (h : KI ks nd out L aw []) (hp : (x :: L2).Perm L) (hl : ∀ k ∈ L, lt k x = false) : Stp ks nd lt out x := by
  have hxL : x ∈ L := hp.mem_iff.1 List.mem_cons_self
  have hxk := h.sub x (List.mem_append_right _ hxL)
  refine ⟨hxk, fun hx => ?_, ?_, fun k hk hko hkr => ?_⟩
  · have := h.nod
    rw [List.nodup_append] at this
    exact this.2.2 x hx x hxL rfl
  · have e := h.awt x hxk
    rw [(h.rdy x hxk).1 (List.mem_append_right _ hxL)] at e
    exact lft_zero.1 (by simp at e; omega)
  · have e := h.awt k hk
    rw [lft_zero.2 hkr] at e
    have := (h.rdy k hk).2 (by simpa using e)
    exact hl k ((List.mem_append.1 this).resolve_left hko)
theorem KI.stop {ks : List α} {nd : α → List α} {out : List α} {aw : α → Int} (h : KI ks nd out [] aw []) : ∀ k ∈ ks, k ∉ out → ¬ ∀ y ∈ nd k, y ∈ out := fun k hk hko hkr => by
  have e := h.awt k hk
  rw [lft_zero.2 hkr] at e
  have := (h.rdy k hk).2 (by simpa using e)
  rw [List.append_nil] at this
  exact hko this
theorem KI.len {ks : List α} {nd : α → List α} {out L r : List α} {aw : α → Int} (h : KI ks nd out L aw r) : out.length + L.length ≤ ks.length := by
  have := h.nod.length_le_of_subset (l₂ := ks) (fun k hk => h.sub k hk)
  simpa using this
/-- While names are counted: those of ks0 are. -/
structure PI (nd : α → List α) (ks0 L : List α) (aw : α → Int) : Prop where
  mem : ∀ k, k ∈ L ↔ k ∈ ks0 ∧ nd k = []
  nod : L.Nodup
  awt : ∀ k ∈ ks0, aw k = ((nd k).length : Int)
theorem PI.next {nd : α → List α} {ks0 L : List α} {aw : α → Int} {x : α} (h : PI nd ks0 L aw) (hx : x ∉ ks0) :
    (nd x ≠ [] → PI nd (x :: ks0) L (updA aw x ((nd x).length : Int))) ∧ (nd x = [] → ∀ L2, L2.Perm (x :: L) → PI nd (x :: ks0) L2 (updA aw x ((nd x).length : Int))) := by
  have ha : ∀ k ∈ x :: ks0, updA aw x ((nd x).length : Int) k = ((nd k).length : Int) := fun k hk => by
    unfold updA
    split
    · rename_i e; rw [e]
    · rename_i e; exact h.awt k ((List.mem_cons.1 hk).resolve_left e)
  refine ⟨fun h0 => ⟨fun k => ?_, h.nod, ha⟩, fun h0 L2 hp => ⟨fun k => hp.mem_iff.trans ?_, hp.nodup_iff.2 (List.nodup_cons.2 ⟨fun hm => hx ((h.mem x).1 hm).1, h.nod⟩), ha⟩⟩
  · rw [h.mem, List.mem_cons]
    exact ⟨fun ⟨a, b⟩ => ⟨.inr a, b⟩, fun ⟨a, b⟩ => ⟨a.resolve_left (fun e => h0 (e ▸ b)), b⟩⟩
  · rw [List.mem_cons, List.mem_cons, h.mem]
    exact ⟨fun a => a.elim (fun e => ⟨.inl e, e ▸ h0⟩) (fun ⟨a, b⟩ => ⟨.inr a, b⟩), fun ⟨a, b⟩ => a.elim .inl (fun a => .inr ⟨a, b⟩)⟩
theorem PI.all {nd : α → List α} {ks L : List α} {aw : α → Int} (h : PI nd ks L aw) : KI ks nd [] L aw [] := by
  have e : ∀ k, lft nd [] k = (nd k).length := fun k => by unfold lft; rw [List.filter_eq_self.2 (by simp)]
  refine ⟨fun k hk => ((h.mem k).1 hk).1, h.nod, fun k hk => ?_, fun k hk => ?_⟩
  · rw [h.awt k hk, e]; simp
  · rw [h.awt k hk]
    show k ∈ L ↔ _
    rw [h.mem]
    exact ⟨fun hm => by rw [hm.2]; rfl, fun hm => ⟨hk, List.length_eq_zero_iff.1 (by omega)⟩⟩
end
theorem Kn.nil {α : Type} {ks : List α} {nd : α → List α} {lt : α → α → Bool} : Kn ks nd lt [] := fun i hi => by simp at hi
theorem Kn.snoc {α : Type} {ks : List α} {nd : α → List α} {lt : α → α → Bool} (out : List α) (x : α) (h : Kn ks nd lt out) (hs : Stp ks nd lt out x) : Kn ks nd lt (out ++ [x]) := fun i hi => by
  by_cases hl : i < out.length
  · have := h i hl
    rw [List.getElem_append_left hl, List.take_append_of_le_length (by omega)]
    exact this
  · have e : i = out.length := by simp at hi; omega
    subst e
    simpa using hs
end Go.Proofs.YtankaiopdbcndaaGreatDoor

/- Users, counted; what order keeps while it runs. -/
namespace Go.Proofs.YtankaiopdbcndaaGreatDoor
open Go.RowKit Go.Shelf Go.Maps Go.WideMaps
def tl (b : ByteArray) : List UInt8 := b.data.toList
theorem tl_bN (k : List UInt8) : tl (bN k) = k := by simp [tl, bN]
theorem bN_tl (b : ByteArray) : bN (tl b) = b := by cases b; simp [tl, bN]
def ndT (nf : List UInt8 → List ByteArray) (k : List UInt8) : List (List UInt8) := (nf k).map tl
theorem usF_mem (nf : List UInt8 → List ByteArray) (o : List UInt8) : ∀ (ks : List (List UInt8)) (u : ByteArray), u ∈ usF nf ks o → tl u ∈ ks
  | [], u, h => by simp [usF] at h
  | k :: ks, u, h => by
    simp only [usF, uadd, List.mem_append, List.mem_map] at h
    rcases h with h | ⟨y, _, rfl⟩
    · exact List.mem_cons_of_mem _ (usF_mem nf o ks u h)
    · rw [tl_bN]; exact List.mem_cons_self
theorem cnt_fil (l : List ByteArray) (o k j : List UInt8) : (((l.filter fun y => decide (y.data.toList = o)).map fun _ => bN k).map tl).count j = if j = k then (l.map tl).count o else 0 := by
  induction l with
  | nil => simp
  | cons a l ih =>
    by_cases ha : a.data.toList = o
    · rw [List.filter_cons_of_pos (by simpa using ha), List.map_cons, List.map_cons, tl_bN, List.count_cons, ih, List.map_cons, show tl a = o from ha, List.count_cons_self]
      by_cases hj : j = k
      · subst hj; simp
      · rw [if_neg hj, if_neg hj]; simp [Ne.symm hj]
    · rw [List.filter_cons_of_neg (by simpa using ha), ih, List.map_cons, List.count_cons_of_ne (show tl a ≠ o from ha)]
theorem usF_count (nf : List UInt8 → List ByteArray) (o : List UInt8) : ∀ (ks : List (List UInt8)), ks.Nodup → ∀ k ∈ ks, ((usF nf ks o).map tl).count k = (ndT nf k).count o
  | [], _, k, h => by simp at h
  | x :: ks, hn, k, h => by
    obtain ⟨h1, h2⟩ := List.nodup_cons.1 hn
    have e : usF nf (x :: ks) o = usF nf ks o ++ ((nf x).filter fun y => decide (y.data.toList = o)).map fun _ => bN x := rfl
    rw [e, List.map_append, List.count_append, cnt_fil]
    by_cases hk : k = x
    · subst hk
      rw [if_pos rfl]
      have : ((usF nf ks o).map tl).count k = 0 := List.count_eq_zero.2 fun hm => by
        obtain ⟨u, hu, e⟩ := List.mem_map.1 hm
        exact h1 (e ▸ usF_mem nf o ks u hu)
      rw [this, Nat.zero_add]
      rfl
    · rw [if_neg hk, usF_count nf o ks h2 k ((List.mem_cons.1 h).resolve_left hk), Nat.add_zero]
theorem updI_A (f : List UInt8 → Int) (k : List UInt8) (v : Int) : updI f k v = updA f k v := by
  funext j
  unfold updI updA
  congr

/-- What order holds: a map of numbers in A, a heap in b; all else that was there below B is as it was, but for R. -/
structure OS (B A b R : Nat) (w0 wr : World) (n : Nat) (aw : List UInt8 → Int) (v : Value) (L : List ByteArray) : Prop where
  nm : NM A n aw wr
  hp : HpAt B b v L wr
  os : wr.os = w0.os
  tape : wr.tape = w0.tape
  output : wr.output = w0.output
  size : B ≤ wr.heap.size
  kept : ∀ g, g < B → g ≠ A → g ≠ b → g ≠ R → wr.heap[g]? = w0.heap[g]?
  ab : A ≠ b
  aB : A < B
  bB : b < B
theorem Rdy.keep {B b : Nat} {v : Value} {L : List ByteArray} {w w' : World} (h : Rdy B b v L w) (hb : w'.heap[b]? = w.heap[b]?) (hv : ∀ g, v.ownBlock = some g → w'.heap[g]? = w.heap[g]?) : Rdy B b v L w' := by
  refine ⟨hb.trans h.box, h.row.1, ?_⟩
  rcases h.row.2 with h2 | ⟨g, cap, cur, e, hb2, hg, r⟩
  · exact .inl h2
  · exact .inr ⟨g, cap, cur, e, hb2, (hv g (by rw [e]; rfl)).trans hg, r⟩
/-- A number is put. -/
theorem OS.put {B A b R n n2 : Nat} {w0 wr w2 : World} {aw aw2 : List UInt8 → Int} {v : Value} {L : List ByteArray} (h : OS B A b R w0 wr n aw v L) (hn : NM A n2 aw2 w2) (hg : wr.grownBy w2 (some A)) : OS B A b R w0 w2 n2 aw2 v L := by
  have aB := h.aB
  have bB := h.bB
  have sz := h.size
  refine ⟨hn, ⟨h.hp.rd.keep (hg.block b (by omega) (fun e => h.ab (by injection e with e; exact e.symm))) (fun g hgv => ?_), h.hp.hp⟩, hg.os.trans h.os, hg.tape.trans h.tape, hg.output.trans h.output, Nat.le_trans h.size hg.size, fun g h1 h2 h3 h4 => (hg.block g (by omega) (fun e => h2 (by injection e))).trans (h.kept g h1 h2 h3 h4), h.ab, h.aB, h.bB⟩
  have hl := h.hp.rd.row.lt g hgv
  exact hg.block g hl.2 (fun e => by injection e with e; omega)
/-- The heap takes one, or gives one. -/
theorem OS.heap {B A b R n : Nat} {w0 wr w2 : World} {aw : List UInt8 → Int} {v v2 : Value} {L L2 : List ByteArray} (h : OS B A b R w0 wr n aw v L) (hp : HpAt B b v2 L2 w2) (ho : Oth (RdS b v) wr w2) : OS B A b R w0 w2 n aw v2 L2 := by
  have aB := h.aB
  have bB := h.bB
  have sz := h.size
  have hv : ∀ g, g < B → v.ownBlock ≠ some g := fun g hg e => by have := (h.hp.rd.row.lt g e).1; omega
  refine ⟨h.nm.keep (ho.block A (by omega) (fun e => e.elim h.ab (hv A h.aB))), hp, ho.os.trans h.os, ho.tape.trans h.tape, ho.output.trans h.output, Nat.le_trans h.size ho.size, fun g h1 h2 h3 h4 => (ho.block g (by omega) (fun e => e.elim h3 (hv g h1))).trans (h.kept g h1 h2 h3 h4), h.ab, h.aB, h.bB⟩
end Go.Proofs.YtankaiopdbcndaaGreatDoor

/- What order keeps while it counts what is awaited. -/
namespace Go.Proofs.YtankaiopdbcndaaGreatDoor
open Go.RowKit Go.Shelf Go.Maps Go.WideMaps Go.Sort
theorem OS.rng {B A b R n : Nat} {w0 wr w2 : World} {aw : List UInt8 → Int} {v : Value} {L : List ByteArray} (h : OS B A b R w0 wr n aw v L) (hg : wr.grownBy w2 (some R)) (hR : R < B ∧ R ≠ A ∧ R ≠ b) : OS B A b R w0 w2 n aw v L := by
  have aB := h.aB
  have bB := h.bB
  have sz := h.size
  refine ⟨h.nm.keep (hg.block A (by omega) (fun e => hR.2.1 (by injection e with e; exact e.symm))), ⟨h.hp.rd.keep (hg.block b (by omega) (fun e => hR.2.2 (by injection e with e; exact e.symm))) (fun g hgv => ?_), h.hp.hp⟩, hg.os.trans h.os, hg.tape.trans h.tape, hg.output.trans h.output, Nat.le_trans h.size hg.size, fun g h1 h2 h3 h4 => (hg.block g (by omega) (fun e => h4 (by injection e))).trans (h.kept g h1 h2 h3 h4), h.ab, h.aB, h.bB⟩
  have hl := h.hp.rd.row.lt g hgv
  exact hg.block g hl.2 (fun e => by injection e with e; omega)
structure O1 (B A b R M N : Nat) (D : DataW Unit) (nf : List UInt8 → List ByteArray) (w0 wr : World) (ks : List (List UInt8)) (n : Nat) (aw : List UInt8 → Int) (v : Value) (L : List ByteArray) (left : Lit → Bool) (cnt : Nat) : Prop where
  os : OS B A b R w0 wr n aw v L
  rg : wr.ranges Tryz.prog 9 slE M R N D left cnt
  nd : ks.Nodup
  mem : ∀ k, Maps.has D (.string k) = true → (k ∈ ks ↔ left (.string k) = false)
  sub : ∀ k ∈ ks, Maps.has D (.string k) = true
  szk : ks.length + cnt ≤ 60
  pi : PI (ndT nf) ks (L.map tl) aw
  nn : n ≤ ks.length
  neM : M < B ∧ M ≠ A ∧ M ≠ b
  neR : R < B ∧ R ≠ A ∧ R ≠ b
section
variable {B A b R M N n cnt cnt2 : Nat} {D : DataW Unit} {nf : List UInt8 → List ByteArray} {w0 wr w2 w3 w4 : World} {ks : List (List UInt8)} {aw : List UInt8 → Int} {v v2 : Value} {L L2 : List ByteArray} {left : Lit → Bool} {x : List UInt8}
theorem O1.len (h : O1 B A b R M N D nf w0 wr ks n aw v L left cnt) : L.length ≤ 60 := by
  have h1 := h.pi.nod.length_le_of_subset (l₂ := ks) (fun k hk => ((h.pi.mem k).1 hk).1)
  have := h.szk
  rw [List.length_map] at h1
  omega
theorem O1.frm (h : O1 B A b R M N D nf w0 wr ks n aw v L left cnt) (hhas : Maps.has D (.string x) = true) (hl : left (.string x) = true) (hlt : cnt2 < cnt) (hos : OS B A b R w0 w4 (n + 1) (updI aw x ((nf x).length : Int)) v2 L2)
    (hrg : w4.ranges Tryz.prog 9 slE M R N D (fun z => left z && !z.sameKey (.string x)) cnt2) (hp : nf x ≠ [] → L2 = L) (hq : nf x = [] → L2.Perm (bN x :: L)) :
    O1 B A b R M N D nf w0 w4 (x :: ks) (n + 1) (updI aw x ((nf x).length : Int)) v2 L2 (fun z => left z && !z.sameKey (.string x)) cnt2 := by
  have hx : x ∉ ks := fun hm => by rw [(h.mem x hhas).1 hm] at hl; cases hl
  refine ⟨hos, hrg, List.nodup_cons.2 ⟨hx, h.nd⟩, fun k hk => ?_, fun k hk => ?_, by have := h.szk; simp; omega, ?_, by have := h.nn; simp; omega, h.neM, h.neR⟩
  · show _ ↔ (left (.string k) && !(Lit.string k).sameKey (.string x)) = false
    rw [same_str, List.mem_cons]
    by_cases e : k = x
    · subst e; simp
    · simp [e, h.mem k hk]
  · rcases List.mem_cons.1 hk with rfl | hk
    · exact hhas
    · exact h.sub k hk
  · obtain ⟨p1, p2⟩ := h.pi.next hx
    have el : ((ndT nf x).length : Int) = ((nf x).length : Int) := by simp [ndT]
    rw [el] at p1 p2
    rw [updI_A]
    by_cases e : nf x = []
    · refine p2 (by simp [ndT, e]) _ ?_
      have := (hq e).map tl
      rwa [List.map_cons, tl_bN] at this
    · rw [hp e]
      exact p1 (by simpa [ndT] using e)
/-- A name that needs others is counted. -/
theorem O1.more (h : O1 B A b R M N D nf w0 wr ks n aw v L left cnt) (hhas : Maps.has D (.string x) = true) (hl : left (.string x) = true) (hlt : cnt2 < cnt)
    (hrg : w2.ranges Tryz.prog 9 slE M R N D (fun z => left z && !z.sameKey (.string x)) cnt2) (hg2 : wr.grownBy w2 (some R)) (hn : NM A (n + 1) (updI aw x ((nf x).length : Int)) w3) (hg3 : w2.grownBy w3 (some A)) (hne : nf x ≠ []) :
    O1 B A b R M N D nf w0 w3 (x :: ks) (n + 1) (updI aw x ((nf x).length : Int)) v L (fun z => left z && !z.sameKey (.string x)) cnt2 :=
  h.frm hhas hl hlt ((h.os.rng hg2 h.neR).put hn hg3) (ranges_heap hrg (hg3.block M hrg.owns.lt (fun e => h.neM.2.1 (by injection e))) (hg3.block R hrg.lt (fun e => h.neR.2.1 (by injection e)))) (fun _ => rfl) (fun e => absurd e hne)
/-- A name that needs none is counted, and is ready. -/
theorem O1.push (h : O1 B A b R M N D nf w0 wr ks n aw v L left cnt) (hhas : Maps.has D (.string x) = true) (hl : left (.string x) = true) (hlt : cnt2 < cnt)
    (hrg : w2.ranges Tryz.prog 9 slE M R N D (fun z => left z && !z.sameKey (.string x)) cnt2) (hg2 : wr.grownBy w2 (some R)) (hn : NM A (n + 1) (updI aw x ((nf x).length : Int)) w3) (hg3 : w2.grownBy w3 (some A)) (he : nf x = [])
    (hh : HpAt B b v2 L2 w4) (hL : L2.Perm (bN x :: L)) (ho : Oth (RdS b v) w3 w4) :
    O1 B A b R M N D nf w0 w4 (x :: ks) (n + 1) (updI aw x ((nf x).length : Int)) v2 L2 (fun z => left z && !z.sameKey (.string x)) cnt2 := by
  have hos := (h.os.rng hg2 h.neR).put hn hg3
  have hv : ∀ g, g < B → v.ownBlock ≠ some g := fun g hg e => by have := (h.os.hp.rd.row.lt g e).1; omega
  have r3 := ranges_heap hrg (hg3.block M hrg.owns.lt (fun e => h.neM.2.1 (by injection e))) (hg3.block R hrg.lt (fun e => h.neR.2.1 (by injection e)))
  exact h.frm hhas hl hlt (hos.heap hh ho) (ranges_heap r3 (ho.block M r3.owns.lt (fun e => e.elim h.neM.2.2 (hv M h.neM.1))) (ho.block R r3.lt (fun e => e.elim h.neR.2.2 (hv R h.neR.1)))) (fun e => absurd he e) (fun _ => hL)
end
end Go.Proofs.YtankaiopdbcndaaGreatDoor

/- What order keeps while names come out. -/
namespace Go.Proofs.YtankaiopdbcndaaGreatDoor
open Go.RowKit Go.Shelf Go.Maps Go.WideMaps Go.Sort
def ltK (a c : List UInt8) : Bool := decide (a < c)
theorem OS.row {B A b R n : Nat} {w0 wr w2 : World} {aw : List UInt8 → Int} {v : Value} {L : List ByteArray} {ob : Option Nat} (h : OS B A b R w0 wr n aw v L) (hg : wr.grownBy w2 ob) (ho : ∀ g, ob = some g → B ≤ g ∧ v.ownBlock ≠ some g) : OS B A b R w0 w2 n aw v L := by
  have aB := h.aB
  have bB := h.bB
  have sz := h.size
  have hlow : ∀ g, g < B → w2.heap[g]? = wr.heap[g]? := fun g hgB => hg.block g (by omega) (fun e => by have := (ho g e.symm).1; omega)
  exact ⟨h.nm.keep (hlow A aB), ⟨h.hp.rd.keep (hlow b bB) (fun g hgv => hg.block g (h.hp.rd.row.lt g hgv).2 (fun e => (ho g e.symm).2 hgv)), h.hp.hp⟩, hg.os.trans h.os, hg.tape.trans h.tape, hg.output.trans h.output, Nat.le_trans h.size hg.size, fun g h1 h2 h3 h4 => (hlow g h1).trans (h.kept g h1 h2 h3 h4), h.ab, h.aB, h.bB⟩
theorem cnt_inst (k : List UInt8) (r : List (List UInt8)) : @List.count (List UInt8) instBEqOfDecidableEq k r = @List.count (List UInt8) List.instBEq k r := by
  unfold List.count
  refine List.countP_congr fun a _ => ?_
  exact ⟨fun h => by have e : a = k := of_decide_eq_true h; rw [e]; exact beq_self_eq_true _, fun h => by have e : a = k := eq_of_beq h; exact decide_eq_true e⟩
structure O2 (B A b R : Nat) (nf : List UInt8 → List ByteArray) (w0 wr : World) (ks : List (List UInt8)) (n : Nat) (aw : List UInt8 → Int) (v : Value) (L : List ByteArray) (vo : Value) (out : List ByteArray) (r : List (List UInt8)) : Prop where
  os : OS B A b R w0 wr n aw v L
  ki : KI ks (ndT nf) (out.map tl) (L.map tl) aw r
  kn : Kn ks (ndT nf) ltK (out.map tl)
  row : wr.ownsRow B 9 1 vo out.length (out.map Value.string)
  apart : ∀ g, vo.ownBlock = some g → v.ownBlock ≠ some g
section
variable {B A b R M N n n2 : Nat} {nf : List UInt8 → List ByteArray} {w0 wr w2 w3 : World} {ks : List (List UInt8)} {aw : List UInt8 → Int} {v v2 vo vo2 : Value} {L L2 out : List ByteArray} {r : List (List UInt8)} {u : List UInt8}
theorem row_keep {w w' : World} {n : Nat} {v : Value} {xs : List Value} (h : w.ownsRow B 9 1 v n xs) (hv : ∀ g, v.ownBlock = some g → w'.heap[g]? = w.heap[g]?) : w'.ownsRow B 9 1 v n xs := by
  refine ⟨h.1, ?_⟩
  rcases h.2 with h2 | ⟨g, cap, cur, e, hb2, hg, r⟩
  · exact .inl h2
  · exact .inr ⟨g, cap, cur, e, hb2, (hv g (by rw [e]; rfl)).trans hg, r⟩
/-- The least one is taken from the heap. -/
theorem O2.take (h : O2 B A b R nf w0 wr ks n aw v L vo out []) (hh : HpAt B b v2 L2 w2) (hn : NewB v v2 wr) (ho : Oth (RdS b v) wr w2) :
    OS B A b R w0 w2 n aw v2 L2 ∧ w2.ownsRow B 9 1 vo out.length (out.map Value.string) ∧ ∀ g, vo.ownBlock = some g → v2.ownBlock ≠ some g := by
  refine ⟨h.os.heap hh ho, row_keep h.row fun g hg => ?_, fun g hg e => ?_⟩
  · have hl := h.row.lt g hg
    exact ho.block g hl.2 (fun e => e.elim (fun e => by have := h.os.bB; omega) (h.apart g hg))
  · rcases hn g e with e | e
    · exact h.apart g hg e
    · have := (h.row.lt g hg).2; omega
/-- .. and goes behind those that are out. -/
theorem O2.pop (h : O2 B A b R nf w0 wr ks n aw v L vo out []) (h0 : 0 < L.length) (hos : OS B A b R w0 w2 n aw v2 (popH nlt L)) (hap : ∀ g, vo.ownBlock = some g → v2.ownBlock ≠ some g) (hrow : w2.ownsRow B 9 1 vo out.length (out.map Value.string))
    (hg : w2.grownBy w3 vo.ownBlock) (hr3 : w3.ownsRow B 9 1 vo2 (out ++ [L.getD 0 default]).length ((out ++ [L.getD 0 default]).map Value.string)) (hat : ∀ g, vo2.ownBlock = some g → vo.ownBlock = some g ∨ w2.heap.size ≤ g) (hu : ∀ k ∈ ks, r.count k = (ndT nf k).count (tl (L.getD 0 default))) :
    O2 B A b R nf w0 w3 ks n aw v2 (popH nlt L) vo2 (out ++ [L.getD 0 default]) r := by
  have hp := (pop_perm nlt L h0).map tl
  rw [List.map_cons] at hp
  have hst : Stp ks (ndT nf) ltK (out.map tl) (tl (L.getD 0 default)) := h.ki.stp hp fun k hk => by
    obtain ⟨y, hy, rfl⟩ := List.mem_map.1 hk
    obtain ⟨i, hi, rfl⟩ := List.getElem_of_mem hy
    have := hp_least nlt_wk h.os.hp.hp i hi
    rw [List.getD_eq_getElem?_getD, List.getElem?_eq_getElem hi] at this
    exact this
  refine ⟨hos.row hg (fun g e => ⟨(hrow.lt g e).1, hap g e⟩), ?_, ?_, hr3, fun g hg2 e => ?_⟩
  · rw [List.map_append]
    exact h.ki.pop hp (fun k hk => by rw [cnt_inst, cnt_inst]; exact hu k hk)
  · rw [List.map_append]
    exact .snoc _ _ h.kn hst
  · rcases hat g hg2 with e2 | e2
    · exact hap g e2 e
    · have := (hos.hp.rd.row.lt g e).2; omega
/-- One user is told, and still awaits others. -/
theorem O2.tell (h : O2 B A b R nf w0 wr ks n aw v L vo out (u :: r)) (hu : u ∈ ks) (h0 : aw u - 1 ≠ 0) (hn : NM A n2 (updI aw u (aw u - 1)) w2) (hg : wr.grownBy w2 (some A)) : O2 B A b R nf w0 w2 ks n2 (updI aw u (aw u - 1)) v L vo out r := by
  refine ⟨h.os.put hn hg, by rw [updI_A]; exact (h.ki.tell hu).2.1 h0, h.kn, row_keep h.row fun g hg2 => hg.block g (h.row.lt g hg2).2 (fun e => ?_), h.apart⟩
  have := (h.row.lt g hg2).1
  have := h.os.aB
  injection e with e
  omega
/-- One user is told, and is ready. -/
theorem O2.push (h : O2 B A b R nf w0 wr ks n aw v L vo out (u :: r)) (hu : u ∈ ks) (h0 : aw u - 1 = 0) (hn : NM A n2 (updI aw u (aw u - 1)) w2) (hg : wr.grownBy w2 (some A)) (hh : HpAt B b v2 L2 w3) (hL : L2.Perm (bN u :: L)) (hnb : NewB v v2 w2) (ho : Oth (RdS b v) w2 w3) : O2 B A b R nf w0 w3 ks n2 (updI aw u (aw u - 1)) v2 L2 vo out r := by
  have hp := hL.map tl
  rw [List.map_cons, tl_bN] at hp
  have hr2 : w2.ownsRow B 9 1 vo out.length (out.map Value.string) := row_keep h.row fun g hg2 => hg.block g (h.row.lt g hg2).2 (fun e => by
    have := (h.row.lt g hg2).1
    have := h.os.aB
    injection e with e
    omega)
  refine ⟨(h.os.put hn hg).heap hh ho, by rw [updI_A]; exact (h.ki.tell hu).2.2 h0 _ hp, h.kn, row_keep hr2 fun g hg2 => ho.block g (hr2.lt g hg2).2 (fun e => e.elim (fun e => ?_) (h.apart g hg2)), fun g hg2 e => ?_⟩
  · have := (hr2.lt g hg2).1
    have := h.os.bB
    omega
  · rcases hnb g e with e | e
    · exact h.apart g hg2 e
    · have := (hr2.lt g hg2).2; omega
end
end Go.Proofs.YtankaiopdbcndaaGreatDoor
