/- What the digest's own mixing of a block does. -/
import Derived.Test.YtagelkaenbdlaaaDoorWords
import Derived.Test.YtagelkaenbdlaaaDoorIx
namespace Go.Proofs.YtagelkaenbdlaaaDoor
open Go.RowKit

structure S8 where
  (a b c d e f g h : Int)
def S8.l (s : S8) : List Int := [s.a, s.b, s.c, s.d, s.e, s.f, s.g, s.h]
def big0 (x : Int) : Int := bits .xor .u32 (bits .xor .u32 (rotR x 2) (rotR x 13)) (rotR x 22)
def big1 (x : Int) : Int := bits .xor .u32 (bits .xor .u32 (rotR x 6) (rotR x 11)) (rotR x 25)
def ch (e f g : Int) : Int := bits .xor .u32 (bits .and .u32 e f) (bits .and .u32 (bits .xor .u32 IntKind.u32.max e) g)
def maj (a b c : Int) : Int := bits .xor .u32 (bits .xor .u32 (bits .and .u32 a b) (bits .and .u32 a c)) (bits .and .u32 b c)
/-- One round, with its K and its word. -/
def S8.u (s : S8) (k v : Int) : Int := (s.h + big1 s.e + ch s.e s.f s.g + k + v) % 4294967296
def S8.step (s : S8) (k v : Int) : S8 := ⟨(s.u k v + (big0 s.a + maj s.a s.b s.c) % 4294967296) % 4294967296, s.a, s.b, s.c, (s.d + s.u k v) % 4294967296, s.e, s.f, s.g⟩
def rounds8 (wl ks : List Int) : Nat → S8 → S8
  | 0, s => s
  | n + 1, s => (rounds8 wl ks n s).step (ks.getD n 0) (wl.getD n 0)
/-- The state behind a block. -/
def mixS (q : S8) (s : ByteArray) (ks : List Int) : S8 :=
  ⟨(q.a + (rounds8 (ws s 64) ks 64 q).a) % 4294967296, (q.b + (rounds8 (ws s 64) ks 64 q).b) % 4294967296, (q.c + (rounds8 (ws s 64) ks 64 q).c) % 4294967296, (q.d + (rounds8 (ws s 64) ks 64 q).d) % 4294967296, (q.e + (rounds8 (ws s 64) ks 64 q).e) % 4294967296, (q.f + (rounds8 (ws s 64) ks 64 q).f) % 4294967296, (q.g + (rounds8 (ws s 64) ks 64 q).g) % 4294967296, (q.h + (rounds8 (ws s 64) ks 64 q).h) % 4294967296⟩
abbrev S8.v (q : S8) : Value := .agg #[.int .u32 q.a, .int .u32 q.b, .int .u32 q.c, .int .u32 q.d, .int .u32 q.e, .int .u32 q.f, .int .u32 q.g, .int .u32 q.h]
/-- What lies where the rounds begin: the words in block p, K. -/
def Reads (w : World) (p : Nat) (wl ks : List Int) : Prop := (∀ j (hj : j < wl.length), w.cell? ⟨p, j, none⟩ = some (.int .u32 wl[j])) ∧ LaidAt 1 w ks

/-- What lies there when the rounds begin. -/
def Mix (w : World) (p : Nat) (wl ks l : List Int) (W : World) : Prop := Reads W p wl ks ∧ ArrAt W w.heap.size 50 l ∧ ArrAt W (w.heap.size + 1) 50 [0, 0, 0, 0, 0, 0, 0, 0] ∧ Below w.heap.size w W ∧ p < W.heap.size

/-- Of these numbers the first j are added. -/
def Added (x y : List Int) (j : Nat) (l : List Int) : Prop := l.length = 8 ∧ ∀ t, l.getD t 0 = if t < j then (x.getD t 0 + y.getD t 0) % 4294967296 else x.getD t 0
theorem Added.zero (x y : List Int) (h : x.length = 8) : Added x y 0 x := ⟨h, fun t => by rw [if_neg (by omega)]⟩
theorem Added.step {x y l : List Int} {j : Nat} (h : Added x y j l) (hj : j < l.length) (_ : x.length = 8) : Added x y (j + 1) (l.set j ((l[j] + y.getD j 0) % 4294967296)) := by
  refine ⟨by simpa using h.1, fun t => ?_⟩
  have ht := h.2 t
  have hjj := h.2 j
  rw [if_neg (by omega), List.getD_eq_getElem?_getD, List.getElem?_eq_getElem hj, Option.getD_some] at hjj
  by_cases e : t = j
  · subst e
    rw [if_pos (by omega), List.getD_eq_getElem?_getD, List.getElem?_set_self hj, Option.getD_some, hjj]
  · rw [List.getD_eq_getElem?_getD, List.getElem?_set_ne (by omega), ← List.getD_eq_getElem?_getD, ht]
    by_cases e2 : t < j
    · rw [if_pos e2, if_pos (by omega)]
    · rw [if_neg e2, if_neg (by omega)]
theorem Added.done {x y l : List Int} (h : Added x y 8 l) (hx : x.length = 8) (hy : y.length = 8) : List.zipWith (fun a b => (a + b) % 4294967296) x y = l := by
  refine List.ext_getElem (by rw [List.length_zipWith, h.1]; omega) fun t h1 h2 => ?_
  have := h.2 t
  have h8 := h.1
  rw [if_pos (by omega), List.getD_eq_getElem?_getD, List.getD_eq_getElem?_getD, List.getD_eq_getElem?_getD, List.getElem?_eq_getElem h2, List.getElem?_eq_getElem (by omega), List.getElem?_eq_getElem (by omega)] at this
  simp at this
  rw [List.getElem_zipWith, this]
theorem nums_at (l : List Int) (j : Nat) (hj : j < l.length) : (nums l)[j]? = some (.int .u32 (l.getD j 0)) := by
  simp [nums, hj]

set_option maxHeartbeats 40000000 in
set_option maxRecDepth 100000 in
theorem mixed_any (w : World) (s : ByteArray) (q : S8) (ks : List Int) (hs : s.size = 64) (hk : ks.length = 64) (hg : LaidAt 1 w ks) :
    Calls Tryd.prog 30 #[.agg #[.int .u32 q.a, .int .u32 q.b, .int .u32 q.c, .int .u32 q.d, .int .u32 q.e, .int .u32 q.f, .int .u32 q.g, .int .u32 q.h], .string s] w fun e w' => e = .returned (mixS q s ks).v ∧ Below w.heap.size w w' := by
  obtain ⟨a, b, c, d, e, f, g, h⟩ := q
  have hz : 1 < w.heap.size := World.block_lt_of_cell? w ⟨1, 0, none⟩ (hg 0 (by omega))
  have HG : Hid (LaidAt 1 w ks) := hg
  have a0 : ArrAt ((w.alloc (.cells (nums [a, b, c, d, e, f, g, h]).toArray 50)).alloc (.cells (nums [0, 0, 0, 0, 0, 0, 0, 0]).toArray 50)) w.heap.size 50 [a, b, c, d, e, f, g, h] := (ArrAt.new w _ _).up ((Below.refl (w.heap.size + 1) _).alloc (by simp) _) (Nat.lt_succ_self _)
  have r0 : ArrAt ((w.alloc (.cells (nums [a, b, c, d, e, f, g, h]).toArray 50)).alloc (.cells (nums [0, 0, 0, 0, 0, 0, 0, 0]).toArray 50)) (w.heap.size + 1) 50 [0, 0, 0, 0, 0, 0, 0, 0] := by
    have := ArrAt.new (w.alloc (.cells (nums [a, b, c, d, e, f, g, h]).toArray 50)) 50 [0, 0, 0, 0, 0, 0, 0, 0]
    rw [World.size_alloc] at this
    exact this
  have A0 : Hid _ := a0
  have R0 : Hid _ := r0
  have B0 : Hid (Below w.heap.size w ((w.alloc (.cells (nums [a, b, c, d, e, f, g, h]).toArray 50)).alloc (.cells (nums [0, 0, 0, 0, 0, 0, 0, 0]).toArray 50))) := ((Below.refl _ _).alloc (Nat.le_refl _) _).alloc (by simp) _
  clear hg a0 r0
  go_enter Tryd.func30, Tryd.ntmps30
  go_wp2_with fail
  refine (words_any _ s hs).mono ?_
  rintro e1 w1 ⟨rfl, hb1⟩
  have hwl := ws_len s 64
  have hmx : ∀ r : S8, r = rounds8 (ws s 64) ks 64 ⟨a, b, c, d, e, f, g, h⟩ → (mixS ⟨a, b, c, d, e, f, g, h⟩ s ks).v = .agg #[.int .u32 ((a + r.a) % 4294967296), .int .u32 ((b + r.b) % 4294967296), .int .u32 ((c + r.c) % 4294967296), .int .u32 ((d + r.d) % 4294967296), .int .u32 ((e + r.e) % 4294967296), .int .u32 ((f + r.f) % 4294967296), .int .u32 ((g + r.g) % 4294967296), .int .u32 ((h + r.h) % 4294967296)] := by
    rintro r rfl
    rfl
  generalize ws s 64 = wl at hwl hmx
  have HMX : Hid _ := hmx
  clear hmx
  have z1 : w.heap.size + 2 ≤ w1.heap.size := by have := hb1.size; simp at this; omega
  have A1 : Hid (ArrAt w1 w.heap.size 50 [a, b, c, d, e, f, g, h]) := ArrAt.up A0.out hb1 (by simp; omega)
  have R1 : Hid (ArrAt w1 (w.heap.size + 1) 50 [0, 0, 0, 0, 0, 0, 0, 0]) := ArrAt.up R0.out hb1 (by simp)
  have B1 : Hid (Below w.heap.size w w1) := B0.out.trans (hb1.mono (by simp; omega))
  clear hb1
  have HI : Hid ((nums wl).toArray.size = 64 ∧ (Tryd.prog.info? 69).map (·.size) = some (nums wl).toArray.size) := ⟨by rw [List.size_toArray, nums_len, hwl], by rw [info64, List.size_toArray, nums_len, hwl]⟩
  have HTH : Hid ((w1.alloc (.cells (nums zeros).toArray 69)).there w1.heap.size 0 64) := (ArrAt.new w1 69 zeros).there 64 rfl
  have HON : Hid ((nums wl).toArray.all (·.oneCell') = true) := nums_one wl
  have hb2 : Below w1.heap.size w1 ((w1.alloc (.cells (nums zeros).toArray 69)).setCells w1.heap.size 0 (nums wl)) := below_setCells (Nat.le_refl _) _ _ ((Below.refl _ _).alloc (Nat.le_refl _) _)
  have hrg : ((w1.alloc (.cells (nums zeros).toArray 69)).setCells w1.heap.size 0 (nums wl)).rangeAt w1.heap.size 0 (nums wl) := World.rangeAt_setCells_same _ _ _ _ (by rw [nums_len, hwl]; exact HTH.out)
  have hsz2 : w1.heap.size < ((w1.alloc (.cells (nums zeros).toArray 69)).setCells w1.heap.size 0 (nums wl)).heap.size := World.block_lt_of_cell? _ ⟨w1.heap.size, 0 + 0, none⟩ (hrg 0 _ (List.getElem?_eq_getElem (by rw [nums_len, hwl]; decide)))
  have HRD : Hid (Reads ((w1.alloc (.cells (nums zeros).toArray 69)).setCells w1.heap.size 0 (nums wl)) w1.heap.size wl ks) := by
    refine ⟨fun j hj => ?_, LaidAt.up (LaidAt.up HG.out B1.out hz) hb2 (by omega)⟩
    have := hrg j (.int .u32 wl[j]) (by simp [nums, hj])
    rwa [Nat.zero_add] at this
  have A2 : Hid (ArrAt ((w1.alloc (.cells (nums zeros).toArray 69)).setCells w1.heap.size 0 (nums wl)) w.heap.size 50 [a, b, c, d, e, f, g, h]) := A1.out.up hb2 (by omega)
  have R2 : Hid (ArrAt ((w1.alloc (.cells (nums zeros).toArray 69)).setCells w1.heap.size 0 (nums wl)) (w.heap.size + 1) 50 [0, 0, 0, 0, 0, 0, 0, 0]) := R1.out.up hb2 (by omega)
  have B2 : Hid (Below w.heap.size w ((w1.alloc (.cells (nums zeros).toArray 69)).setCells w1.heap.size 0 (nums wl))) := B1.out.trans (hb2.mono B1.out.size)
  have HF : Hid (Mix w w1.heap.size wl ks [a, b, c, d, e, f, g, h] ((w1.alloc (.cells (nums zeros).toArray 69)).setCells w1.heap.size 0 (nums wl))) := ⟨HRD.out, A2.out, R2.out, B2.out, hsz2⟩
  clear hb2 hrg hsz2 HRD A2 R2 B2
  simp only [arr]
  go_wp2_with (refine wpList_store_any rfl 69 (Operand.tmp 5) (Operand.tmp 22) rfl w1.heap.size 0 (nums wl).toArray rfl rfl (by rw [HI.out.1]; exact HTH.out) HI.out.2 HON.out (Mix w w1.heap.size wl ks [a, b, c, d, e, f, g, h]) HF.out ?_; intro w2 hF; simp only [Act.put])
  obtain ⟨hrd, ha2, hr2, hb2, hsz2⟩ := hF
  have HRD : Hid (Reads w2 w1.heap.size wl ks) := hrd
  have A2 : Hid (ArrAt w2 w.heap.size 50 [a, b, c, d, e, f, g, h]) := ha2
  have R2 : Hid (ArrAt w2 (w.heap.size + 1) 50 [0, 0, 0, 0, 0, 0, 0, 0]) := hr2
  have B2 : Hid (Below w.heap.size w w2) := hb2
  clear hrd ha2 hr2 hb2 HTH HON HI A1 R1 B1 HF
  have c0 := A2.out.cell 0 (by simp)
  have c1 := A2.out.cell 1 (by simp)
  have c2 := A2.out.cell 2 (by simp)
  have c3 := A2.out.cell 3 (by simp)
  have c4 := A2.out.cell 4 (by simp)
  have c5 := A2.out.cell 5 (by simp)
  have c6 := A2.out.cell 6 (by simp)
  have c7 := A2.out.cell 7 (by simp)
  simp only [List.getElem_cons_zero, List.getElem_cons_succ] at c0 c1 c2 c3 c4 c5 c6 c7
  go_region
  go_wp2
  go_region
  go_wp2
  go_loopw [6, 7, 8, 9, 10, 11, 12, 13, 39] (fun va vb vc vd ve vf vg vh vi wr => ∃ (k : Nat) (r : S8), k ≤ 64 ∧ r = rounds8 wl ks k ⟨a, b, c, d, e, f, g, h⟩ ∧ va = .int .u32 r.a ∧ vb = .int .u32 r.b ∧ vc = .int .u32 r.c ∧ vd = .int .u32 r.d ∧ ve = .int .u32 r.e ∧ vf = .int .u32 r.f ∧ vg = .int .u32 r.g ∧ vh = .int .u32 r.h ∧ vi = .int .i64 k ∧ Below w2.heap.size w2 wr) (fun _ _ _ _ _ _ _ _ vi _ => 64 - (intOf vi).toNat)
  case atStart => exact ⟨0, ⟨a, b, c, d, e, f, g, h⟩, by omega, rfl, rfl, rfl, rfl, rfl, rfl, rfl, rfl, rfl, rfl, (Below.refl _ _).drew.drew⟩
  case round =>
    obtain ⟨k, r, hk, hr, rfl, rfl, rfl, rfl, rfl, rfl, rfl, rfl, rfl, hb⟩ := hrel
    have HR : Hid _ := hr
    have HB : Hid (Below w2.heap.size w2 wr) := hb
    clear hr hb
    obtain ⟨a', b', c', d', e', f', g', h'⟩ := r
    simp only
    clear c0 c1 c2 c3 c4 c5 c6 c7
    by_cases hlt : k < 64
    · as_aux_lemma =>
        have i2 : (k : Int) < 64 := by omega
        have q0 := (HB.out.cell (p := ⟨w1.heap.size, k, none⟩) hsz2).trans (HRD.out.1 k (by omega))
        have q1 := (HB.out.cell (p := ⟨1, k, none⟩) (by show 1 < _; omega)).trans (HRD.out.2 k (by omega))
        generalize hx0 : wl[k] = x0 at q0
        generalize hx1 : ks[k] = x1 at q1
        have HX : Hid (ks.getD k 0 = x1 ∧ wl.getD k 0 = x0) := ⟨by rw [List.getD, List.getElem?_eq_getElem (by omega), ← hx1]; rfl, by rw [List.getD, List.getElem?_eq_getElem (by omega), ← hx0]; rfl⟩
        clear hx0 hx1
        go_wp2_with fail
        refine (turned_any e' 6 _ (by decide) (by decide)).mono ?_
        rintro e1 w3 ⟨rfl, rfl⟩
        go_wp2_with fail
        refine (turned_any e' 11 _ (by decide) (by decide)).mono ?_
        rintro e1 w3 ⟨rfl, rfl⟩
        go_wp2_with fail
        refine (turned_any e' 25 _ (by decide) (by decide)).mono ?_
        rintro e1 w3 ⟨rfl, rfl⟩
        go_wp2
        go_region
        go_wp2_with fail
        refine (turned_any a' 2 _ (by decide) (by decide)).mono ?_
        rintro e1 w3 ⟨rfl, rfl⟩
        go_wp2_with fail
        refine (turned_any a' 13 _ (by decide) (by decide)).mono ?_
        rintro e1 w3 ⟨rfl, rfl⟩
        go_wp2_with fail
        refine (turned_any a' 22 _ (by decide) (by decide)).mono ?_
        rintro e1 w3 ⟨rfl, rfl⟩
        go_wp2
        refine ⟨⟨k + 1, S8.step ⟨a', b', c', d', e', f', g', h'⟩ x1 x0, by omega, ?_, rfl, rfl, rfl, rfl, rfl, rfl, rfl, rfl, by go_num, HB.out.drew⟩, by simp [intOf]; omega⟩
        show _ = (rounds8 wl ks k _).step _ _
        rw [HX.out.1, HX.out.2, ← HR.out]
    · have HK : Hid (k = 64) := by show _ = _; omega
      have i3 : (64 : Int) ≤ (k : Int) := by omega
      have a2 := A2.out.up HB.out (by omega)
      have r2 := R2.out.up HB.out (by omega)
      have BF : Hid (Below w.heap.size w wr) := B2.out.trans (HB.out.mono B2.out.size)
      have A3 : Hid (ArrAt wr w.heap.size 50 [a, b, c, d, e, f, g, h]) := a2
      have R3 : Hid (ArrAt wr (w.heap.size + 1) 50 [0, 0, 0, 0, 0, 0, 0, 0]) := r2
      clear a2 r2 A2 R2 HRD HB HG
      have hix : ∀ (j : Nat) (hj : j < 8) (W : World), (Instr.index 50 (.agg #[.int .u32 a', .int .u32 b', .int .u32 c', .int .u32 d', .int .u32 e', .int .u32 f', .int .u32 g', .int .u32 h']) (.int .i64 j)).run Tryd.prog W = .ok (.int .u32 ([a', b', c', d', e', f', g', h'].getD j 0)) W := fun j hj W => ix8 a' b' c' d' e' f' g' h' j hj _ (nums_at [a', b', c', d', e', f', g', h'] j hj) W
      go_wp2
      go_loopw [113] (fun i wx => ∃ (j : Nat) (l : List Int), j ≤ 8 ∧ i = .int .i64 j ∧ Added [a, b, c, d, e, f, g, h] [a', b', c', d', e', f', g', h'] j l ∧ ArrAt wx w.heap.size 50 l ∧ ArrAt wx (w.heap.size + 1) 50 [0, 0, 0, 0, 0, 0, 0, 0] ∧ Below w.heap.size w wx) (fun i _ => 8 - (intOf i).toNat)
      case atStart => exact ⟨0, _, by omega, rfl, Added.zero _ _ rfl, A3.out, R3.out, BF.out⟩
      case round =>
        obtain ⟨j, l, hj, rfl, had, hA, hZ, hb⟩ := hrel
        clear A3 R3 BF
        have HD : Hid (Added [a, b, c, d, e, f, g, h] [a', b', c', d', e', f', g', h'] j l) := had
        have hll : l.length = 8 := had.1
        have HA : Hid (ArrAt _ w.heap.size 50 l) := hA
        have HZ : Hid (ArrAt _ (w.heap.size + 1) 50 [0, 0, 0, 0, 0, 0, 0, 0]) := hZ
        have BX : Hid (Below w.heap.size w _) := hb
        clear had hA hZ hb
        by_cases hj8 : j < 8
        · have y := hix j hj8
          have c0 := HA.out.cell j (by omega)
          have f0 := HA.out.fro j
          have j2 : (j : Int) < 8 := by omega
          clear hix
          generalize hx0 : l[j] = x0 at c0
          generalize hx1 : [a', b', c', d', e', f', g', h'].getD j 0 = x1 at y
          have HX : Hid (l[j] = x0 ∧ [a', b', c', d', e', f', g', h'].getD j 0 = x1) := ⟨hx0, hx1⟩
          clear hx0 hx1
          go_wp2
          refine ⟨⟨j + 1, l.set j ((x0 + x1) % 4294967296), by omega, by go_num, ?_, HA.out.set j _, HZ.out.other j _ (by omega), BX.out.setCell (p := ⟨w.heap.size, j, none⟩) (Nat.le_refl _) _⟩, by simp [intOf]; omega⟩
          have := HD.out.step (by omega) (by rfl)
          rwa [HX.out.1, HX.out.2] at this
        obtain rfl : j = 8 := by omega
        clear hix
        obtain rfl := HD.out.done rfl rfl
        clear HD
        have c0 := HA.out.cell 0 (by simp)
        have z0 := HZ.out.cell 0 (by simp)
        have g0 := HZ.out.fro 0
        have c1 := HA.out.cell 1 (by simp)
        have z1 := HZ.out.cell 1 (by simp)
        have g1 := HZ.out.fro 1
        have c2 := HA.out.cell 2 (by simp)
        have z2 := HZ.out.cell 2 (by simp)
        have g2 := HZ.out.fro 2
        have c3 := HA.out.cell 3 (by simp)
        have z3 := HZ.out.cell 3 (by simp)
        have g3 := HZ.out.fro 3
        have c4 := HA.out.cell 4 (by simp)
        have z4 := HZ.out.cell 4 (by simp)
        have g4 := HZ.out.fro 4
        have c5 := HA.out.cell 5 (by simp)
        have z5 := HZ.out.cell 5 (by simp)
        have g5 := HZ.out.fro 5
        have c6 := HA.out.cell 6 (by simp)
        have z6 := HZ.out.cell 6 (by simp)
        have g6 := HZ.out.fro 6
        have c7 := HA.out.cell 7 (by simp)
        have z7 := HZ.out.cell 7 (by simp)
        have g7 := HZ.out.fro 7
        simp only [List.getElem_cons_zero, List.getElem_cons_succ, List.zipWith] at c0 c1 c2 c3 c4 c5 c6 c7 z0 z1 z2 z3 z4 z5 z6 z7
        go_wp2
        refine bodyPost_ret (v := .agg #[.int .u32 ((a + a') % 4294967296), .int .u32 ((b + b') % 4294967296), .int .u32 ((c + c') % 4294967296), .int .u32 ((d + d') % 4294967296), .int .u32 ((e + e') % 4294967296), .int .u32 ((f + f') % 4294967296), .int .u32 ((g + g') % 4294967296), .int .u32 ((h + h') % 4294967296)]) (by simp [results, Tryd.results30, go_sem, z0, z1, z2, z3, z4, z5, z6, z7]) rfl ⟨?_, below8 BX.out (Nat.le_succ _) _ _ _ _ _ _ _ _⟩
        rw [HMX.out ⟨a', b', c', d', e', f', g', h'⟩ (by rw [HR.out, HK.out])]
end Go.Proofs.YtagelkaenbdlaaaDoor
