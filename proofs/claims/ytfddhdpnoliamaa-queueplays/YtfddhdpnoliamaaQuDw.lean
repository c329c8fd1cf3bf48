/- QueueDrops, walked. -/
import Derived.Test.YtfddhdpnoliamaaQuDp
import Derived.Test.YtfddhdpnoliamaaQuAd
namespace Go.Proofs.Ytfddhdpnoliamaa
open Go.RowKit Go.Shelf

/-- Jobs that came in. -/
structure JobsIn (w : World) (ao : Option Addr) (l : List (Int × ByteArray × Int)) : Prop where
  at_ : l ≠ [] → ∃ g o, ao = some ⟨g, o, none⟩ ∧ g < w.heap.size ∧ ∀ (k : Nat) (hk : k < l.length), w.cell? ⟨g, o + k * 3, none⟩ = some (.int .i64 (l[k]).1) ∧ w.cell? ⟨g, o + k * 3 + 1, none⟩ = some (.string (l[k]).2.1) ∧ w.cell? ⟨g, o + k * 3 + 2, none⟩ = some (.int .i64 (l[k]).2.2)
  sz : ∀ x ∈ l, x.2.1.size ≤ maxLen
  len : l.length ≤ 4611686018427387904
/-- Texts that came in. -/
structure TextsIn (w : World) (ao : Option Addr) (l : List ByteArray) : Prop where
  at_ : l ≠ [] → ∃ g o, ao = some ⟨g, o, none⟩ ∧ g < w.heap.size ∧ ∀ (k : Nat) (hk : k < l.length), w.cell? ⟨g, o + k, none⟩ = some (.string l[k])
  len : l.length ≤ 4611686018427387904

/-- The law's two lists beside the queue. -/
structure Two (P : Nat) (w0 W : World) (rv : Value) (cs : List Ce) (iv ov : Value) (inn out : List ByteArray) : Prop where
  b : Below w0.heap.size w0 W
  ti : TxR W w0.heap.size iv inn
  to : TxR W w0.heap.size ov out
  oi : ∀ g, iv.ownBlock = some g → g ∉ ids P rv cs
  oo : ∀ g, ov.ownBlock = some g → g ∉ ids P rv cs
/-- All of it. -/
structure Dr2 (P : Nat) (w0 W : World) (rv : Value) (cs : List Ce) (q : Qu) (iv ov : Value) (inn out : List ByteArray) : Prop where
  qs : QS w0.heap.size P rv cs W q
  qi : QI q
  tw : Two P w0 W rv cs iv ov inn out
  pm : (allN q.ring ++ out).Perm inn
  nd : inn.Nodup
  ln : inn.length ≤ 1000
section
variable {P : Nat} {w0 W W' : World} {rv rv' : Value} {cs cs' : List Ce} {q q' : Qu} {iv ov : Value} {inn out : List ByteArray}
theorem Two.up (h : Two P w0 W rv cs iv ov inn out) (hb : Below W.heap.size W W') : Two P w0 W' rv cs iv ov inn out :=
  ⟨h.b.trans (hb.mono h.b.size), h.ti.keep fun g hg => hb.block g (h.ti.1.lt g hg).2, h.to.keep fun g hg => hb.block g (h.to.1.lt g hg).2, h.oi, h.oo⟩
theorem Two.upd (h : Two P w0 W rv cs iv ov inn out) (hq : QS w0.heap.size P rv cs W q) (hu : Upd (ids P rv cs) (ids P rv' cs') W W') : Two P w0 W' rv' cs' iv ov inn out :=
  ⟨h.b.trans (hu.below (fun g hg => (hq.lt g hg).1) h.b.size), h.ti.keep fun g hg => hu.block g (h.ti.1.lt g hg).2 (h.oi g hg), h.to.keep fun g hg => hu.block g (h.to.1.lt g hg).2 (h.oo g hg),
   fun g hg hm => by
     rcases hu.new g hm with e | e
     · exact h.oi g hg e
     · have := (h.ti.1.lt g hg).2; omega,
   fun g hg hm => by
     rcases hu.new g hm with e | e
     · exact h.oo g hg e
     · have := (h.to.1.lt g hg).2; omega⟩
theorem Dr2.up (h : Dr2 P w0 W rv cs q iv ov inn out) (hb : Below W.heap.size W W') : Dr2 P w0 W' rv cs q iv ov inn out := ⟨h.qs.up hb, h.qi, h.tw.up hb, h.pm, h.nd, h.ln⟩
theorem Dr2.waits (h : Dr2 P w0 W rv cs q iv ov inn out) (s : ByteArray) : hasN q.ring s = true ↔ s ∈ inn ∧ s ∉ out := by
  rw [← mem_allN]
  have hnd : (allN q.ring ++ out).Nodup := h.pm.nodup_iff.2 h.nd
  rw [List.nodup_append] at hnd
  constructor
  · intro hm
    exact ⟨h.pm.mem_iff.1 (List.mem_append_left _ hm), fun ho => hnd.2.2 s hm s ho rfl⟩
  · rintro ⟨h1, h2⟩
    rcases List.mem_append.1 (h.pm.mem_iff.2 h1) with e | e
    · exact e
    · exact absurd e h2
theorem Dr2.count (h : Dr2 P w0 W rv cs q iv ov inn out) : sizeL q.ring + out.length = inn.length := by
  have := h.pm.length_eq
  rw [List.length_append, allN_len] at this
  exact this
theorem Dr2.outle (h : Dr2 P w0 W rv cs q iv ov inn out) : out.length ≤ 1000 := by have := h.count; have := h.ln; omega
end

/-- A name comes among those that went out. -/
theorem Dr2.addOut {P : Nat} {w0 W : World} {rv : Value} {cs : List Ce} {q q' : Qu} {iv ov : Value} {inn out : List ByteArray} (hq : QS w0.heap.size P rv cs W q') (hqi : QI q') (tw : Two P w0 W rv cs iv ov inn out) (s : ByteArray) (hp : (allN q.ring).Perm (s :: allN q'.ring)) (pm : (allN q.ring ++ out).Perm inn) (nd : inn.Nodup) (ln : inn.length ≤ 1000) :
    Calls Try.prog 20 #[ov, .string s] W fun e w' => ∃ v' out', e = .returned v' ∧ Dr2 P w0 w' rv cs q' iv v' inn out' := by
  have pm2 : (allN q'.ring ++ s :: out).Perm inn := (List.perm_middle.trans ((hp.append_right out).symm)).trans pm
  have hso : s ∉ out := by
    have := pm2.nodup_iff.2 nd
    rw [List.nodup_append] at this
    exact (List.nodup_cons.1 this.2.1).1
  have hol : out.length ≤ 1000000 := by have := pm.length_eq; simp at this; omega
  refine (AddText_any w0.heap.size ov out s W tw.to hol hso tw.b.size).mono ?_
  rintro e w' ⟨v', l', he, hl, ht, hb, hn⟩
  have tw' := tw.up hb
  exact ⟨v', l', he, hq.up hb, hqi, ⟨tw'.b, tw'.ti, ht, tw'.oi, fun g hg hm => by have := hn g hg; have := (hq.lt g hm).2; omega⟩, (hl.append_left _).trans pm2, nd, ln⟩

theorem Dr2.next {P : Nat} {w0 W : World} {rv : Value} {cs : List Ce} {q : Qu} {iv ov : Value} {inn out : List ByteArray} (h : Dr2 P w0 W rv cs q iv ov inn out) (hr : q.ring ≠ []) :
    Calls Try.prog 12 #[.pointer (some ⟨P, 0, none⟩)] W fun e w' => ∃ j : Jb, e = .returned (.tuple #[.agg #[.int .i64 j.ten, .string j.name, .int .i64 j.cost], .bool true]) ∧ ∃ rv' cs' q', QS w0.heap.size P rv' cs' w' q' ∧ QI q' ∧ Two P w0 w' rv' cs' iv ov inn out ∧ (allN q.ring).Perm (j.name :: allN q'.ring) ∧ sizeL q'.ring + 1 = sizeL q.ring := by
  refine (Next_some h.qs h.qi hr).mono ?_
  rintro e w' ⟨r, t, s, j, js, hs, hir, hr2, hj, hc, rfl, rv', cs', hq', hu'⟩
  have hp : (allN q.ring).Perm (j.name :: allN r.gone.ring) := hs.allN.symm.trans (by rw [allN_gone hr2 hj])
  refine ⟨j, rfl, rv', cs', r.gone, hq', hir.gone hr2 hj, h.tw.upd h.qs hu', hp, ?_⟩
  have := hp.length_eq
  rw [List.length_cons, allN_len, allN_len] at this
  omega

set_option maxHeartbeats 8000000 in
set_option maxRecDepth 100000 in
theorem drops_walk (m : Int) (ao bo : Option Addr) (cap cap2 : Nat) (l : List (Int × ByteArray × Int)) (ds : List ByteArray) (w : World) (hl : JobsIn w ao l) (hd : TextsIn w bo ds) :
    Calls Try.prog 6 #[.int .i64 m, .slice ao l.length cap, .slice bo ds.length cap2] w fun e w' => e = .returned (.bool true) ∧ Below w.heap.size w w' := by
  have HBg : Hid (Calls Try.prog 7 #[] w fun e w' => e = .returned (.bool true) ∧ Below w.heap.size w w') := begun_any w
  by_cases hm : m < 1 ∨ 1000 < m
  · have HN : Hid (∀ W, Calls Try.prog 8 #[.int .i64 m] W fun e w' => e = .returned (.tuple #[.pointer none, .int .i64 3]) ∧ w' = W) := fun W => New_no m W hm
    clear hm hl hd
    go_enter Try.func6, Try.ntmps6
    go_wp2_with fail
    refine HBg.out.mono ?_
    rintro e w1 ⟨rfl, hb1⟩
    go_wp2_with fail
    refine (HN.out w1).mono ?_
    rintro e w2 ⟨rfl, rfl⟩
    go_wp2
    go_ret
    exact ⟨rfl, hb1⟩
  obtain ⟨mn, rfl⟩ : ∃ mn : Nat, (mn : Int) = m := ⟨m.toNat, by omega⟩
  have hm1 : 1 ≤ mn := by omega
  have hm2 : mn ≤ 1000 := by omega
  have HN : Hid (∀ W : World, Calls Try.prog 8 #[.int .i64 mn] W fun e w' => e = .returned (.tuple #[.pointer (some ⟨W.heap.size, 0, none⟩), .int .i64 0]) ∧ QS W.heap.size W.heap.size (.slice none 0 0) [] w' ⟨mn, [], false⟩ ∧ Below W.heap.size W w' ∧ w'.heap.size = W.heap.size + 1) := fun W => New_yes mn W hm1 hm2
  have HL : Hid (JobsIn w ao l) := hl
  have HD : Hid (TextsIn w bo ds) := hd
  have HM : Hid (QI ⟨mn, [], false⟩) := QI.new mn hm1 hm2
  clear hm hl hd hm1 hm2
  go_enter Try.func6, Try.ntmps6
  go_wp2_with fail
  refine HBg.out.mono ?_
  rintro e w1 ⟨rfl, hb1⟩
  go_wp2_with fail
  refine (HN.out w1).mono ?_
  rintro e w2 ⟨rfl, hq2, hb2, hz2⟩
  have H2 : Hid (∃ rv cs q inn, Dr2 w1.heap.size w1 w2 rv cs q (.slice none 0 0) (.slice none 0 0) inn []) := ⟨_, _, _, [], hq2, HM.out, ⟨hb2, TxR.nil _ _, TxR.nil _ _, fun g hg => (by cases hg), fun g hg => (by cases hg)⟩, List.Perm.refl _, List.nodup_nil, by decide⟩
  have HB1 : Hid (Below w.heap.size w w1) := hb1
  clear hb1 hq2 hb2 hz2 HN HBg HM
  generalize hP : w1.heap.size = P at *
  go_wp2
  go_loopg [9, 11] l.length (fun gk v9 v wr => ∃ k : Nat, k ≤ l.length ∧ v = .int .i64 (k : Int) ∧ Hid (gk = l.length - k ∧ ∃ rv cs q inn, Dr2 P w1 wr rv cs q v9 (.slice none 0 0) inn []))
  case atStart => exact ⟨0, Nat.zero_le _, rfl, rfl, H2.out⟩
  case round =>
    obtain ⟨k, hk1, rfl, HI⟩ := hrel
    clear H2
    by_cases hkl : k < l.length
    · have i1 : (k : Int) < (l.length : Int) := by omega
      obtain ⟨g, o, rfl, hg, hcell⟩ := HL.out.at_ (by intro e; rw [e] at hkl; simp at hkl)
      obtain ⟨h1, h2, h3⟩ := hcell k hkl
      obtain ⟨rv, cs, q, inn, hD⟩ := HI.out.2
      have hold : ∀ (W : World) (x : Nat), Below w1.heap.size w1 W → W.cell? ⟨g, x, none⟩ = w.cell? ⟨g, x, none⟩ := fun W x hW => (hW.cell (p := ⟨g, x, none⟩) (by have := HB1.out.size; show g < w1.heap.size; omega)).trans (HB1.out.cell (p := ⟨g, x, none⟩) hg)
      have a0 := (hold wr _ hD.tw.b).trans h1
      have a1 := (hold wr _ hD.tw.b).trans h2
      have a2 := (hold wr _ hD.tw.b).trans h3
      have hsz : (l[k]).2.1.size ≤ maxLen := HL.out.sz _ (List.getElem_mem hkl)
      have HO : Hid (∀ (W : World), Below w1.heap.size w1 W → W.cell? ⟨g, o + k * 3 + 1, none⟩ = some (.string (l[k]).2.1)) := fun W hW => (hold W _ hW).trans h2
      have HG : Hid (gk = l.length - k) := HI.out.1
      clear h1 h2 h3 hold hcell HI
      generalize l[k] = jb at *
      obtain ⟨x, s, y⟩ := jb
      simp only at a0 a1 a2 hsz HO
      have HPu : Hid (Calls Try.prog 10 #[.pointer (some ⟨P, 0, none⟩), .agg #[.int .i64 x, .string s, .int .i64 y]] wr fun e w' => e = .returned (.int .i64 (putE q x s y)) ∧ ∃ rv' cs', QS w1.heap.size P rv' cs' w' (putQ q x s y) ∧ Upd (ids P rv cs) (ids P rv' cs') wr w') := Put_any hD.qs hD.qi.b x s y hsz
      have HDD : Hid (Dr2 P w1 wr rv cs q u9 (.slice none 0 0) inn []) := hD
      obtain ⟨k1, hk1e⟩ : ∃ k1, k1 = k + 1 := ⟨_, rfl⟩
      have z1 : (k : Int) + 1 = (k1 : Int) := by omega
      have z2 : IntKind.i64.wrap (k1 : Int) = (k1 : Int) := by have := HL.out.len; rw [IntKind.wrap_i64]; omega
      have HK1 : Hid (k1 = k + 1) := hk1e
      clear hD hk1e hsz
      go_wp2_with fail
      refine HPu.out.mono ?_
      rintro e W3 ⟨rfl, rv', cs', hq3, hu3⟩
      by_cases hpe : putE q x s y = 0
      · have hpq : putQ q x s y = { q with ring := addR ⟨x.toNat, s, y.toNat⟩ q.ring } := if_pos hpe
        rw [hpq] at hq3
        have hje : jobE x s y = 0 := by
          unfold putE at hpe
          split at hpe
          · rename_i h; exact absurd hpe h
          · rename_i h; simpa using h
        have hhn : hasN q.ring s = false := by
          unfold putE at hpe
          rw [if_neg (by rw [hje]; decide)] at hpe
          cases hh : hasN q.ring s with
          | false => rfl
          | true => rw [hh] at hpe; simp at hpe
        have hsz3 : ¬ 200 ≤ sizeL q.ring := fun h => by
          unfold putE at hpe
          rw [if_neg (by rw [hje]; decide), if_neg (by rw [hhn]; decide), if_pos h] at hpe
          cases hpe
        have hcost : 1 ≤ y.toNat ∧ y.toNat ≤ 1000 := by
          unfold jobE at hje
          split at hje
          · cases hje
          · omega
        have hD := HDD.out
        have tw3 := hD.tw.upd hD.qs hu3
        have hin : s ∉ inn := fun hm => by
          have := (hD.waits s).2 ⟨hm, by simp⟩
          rw [hhn] at this; cases this
        have HAd : Hid (Calls Try.prog 20 #[u9, .string s] W3 fun e w' => ∃ v', e = .returned v' ∧ ∃ rv cs q inn, Dr2 P w1 w' rv cs q v' (.slice none 0 0) inn []) := by
          have hcnt := hD.count
          simp at hcnt
          refine (AddText_any w1.heap.size u9 inn s W3 tw3.ti (by omega) hin tw3.b.size).mono ?_
          rintro e w' ⟨v', l', he, hl', ht, hb, hn⟩
          have tw4 := tw3.up hb
          refine ⟨v', he, rv', cs', _, l', hq3.up hb, hD.qi.add ⟨x.toNat, s, y.toNat⟩ hcost.1 hcost.2 (by omega), ⟨tw4.b, ht, tw4.to, fun g hg hm => by have := hn g hg; have := (hq3.lt g hm).2; omega, tw4.oo⟩, ?_, ?_, ?_⟩
          · rw [List.append_nil]
            refine (allN_addR _ _).trans ?_
            have := hD.pm
            rw [List.append_nil] at this
            exact (this.cons s).trans hl'.symm
          · exact hl'.nodup_iff.2 (List.nodup_cons.2 ⟨hin, hD.nd⟩)
          · have := hl'.length_eq; simp at this; omega
        have b1 := HO.out W3 tw3.b
        have hpe2 : putE q x s y = 0 := hpe
        generalize putE q x s y = pe at *
        subst hpe2
        clear hpe hpq hq3 hu3 hje hhn hsz3 hcost hD tw3 hin HPu HDD
        go_wp2_with fail
        refine HAd.out.mono ?_
        rintro e W4 ⟨v', rfl, hE⟩
        have HE : Hid (∃ rv cs q inn, Dr2 P w1 W4 rv cs q v' (.slice none 0 0) inn []) := hE
        clear hE HAd
        go_wp2
        go_roundg (l.length - k1)
        case measure => rw [HG.out, HK1.out]; omega
        case rel => exact ⟨k1, by rw [HK1.out]; omega, rfl, rfl, HE.out⟩
      · have hpq : putQ q x s y = q := if_neg hpe
        rw [hpq] at hq3
        have HE : Hid (∃ rv cs q inn, Dr2 P w1 W3 rv cs q u9 (.slice none 0 0) inn []) := ⟨rv', cs', q, inn, hq3, HDD.out.qi, HDD.out.tw.upd HDD.out.qs hu3, HDD.out.pm, HDD.out.nd, HDD.out.ln⟩
        have hp2 : (putE q x s y == 0) = false := by simpa using hpe
        generalize putE q x s y = pe at *
        clear hpq hq3 hu3 HDD HPu
        go_wp2
        go_roundg (l.length - k1)
        case measure => rw [HG.out, HK1.out]; omega
        case rel => exact ⟨k1, by rw [HK1.out]; omega, rfl, rfl, HE.out⟩
    · have i1 : ¬ (k : Int) < (l.length : Int) := by omega
      obtain ⟨rv0, cs0, q0, inn, hD0⟩ := HI.out.2
      obtain ⟨ia, icap, hiv⟩ := row_shape hD0.tw.ti.1
      subst hiv
      have H0 : Hid (∃ rv cs q out, Dr2 P w1 wr rv cs q (.slice ia inn.length icap) (.slice none 0 0) inn out) := ⟨rv0, cs0, q0, [], hD0⟩
      have hil : inn.length ≤ 1000 := hD0.ln
      clear hD0 HI
      go_wp2
      go_loopg [10, 12] ds.length (fun gk v10 v wx => ∃ i : Nat, i ≤ ds.length ∧ v = .int .i64 (i : Int) ∧ Hid (gk = ds.length - i ∧ ∃ rv cs q out, Dr2 P w1 wx rv cs q (.slice ia inn.length icap) v10 inn out))
      case atStart => exact ⟨0, Nat.zero_le _, rfl, rfl, H0.out⟩
      case round =>
        obtain ⟨i, hi1, rfl, HI2⟩ := hrel
        clear H0
        obtain ⟨rv, cs, q, out, hD⟩ := HI2.out.2
        have HG : Hid (gk = ds.length - i) := HI2.out.1
        clear HI2
        by_cases hil2 : i < ds.length
        · have j1 : (i : Int) < (ds.length : Int) := by omega
          obtain ⟨g, o, rfl, hg, hcell⟩ := HD.out.at_ (by intro e; rw [e] at hil2; simp at hil2)
          have hdc := hcell i hil2
          have HO : Hid (∀ (W : World), Below w1.heap.size w1 W → W.cell? ⟨g, o + i, none⟩ = some (.string ds[i])) := fun W hW => ((hW.cell (p := ⟨g, o + i, none⟩) (by have := HB1.out.size; show g < w1.heap.size; omega)).trans (HB1.out.cell (p := ⟨g, o + i, none⟩) hg)).trans hdc
          have a0 := HO.out _ hD.tw.b
          obtain ⟨i1', hi1e⟩ : ∃ i1', i1' = i + 1 := ⟨_, rfl⟩
          have z1 : (i : Int) + 1 = (i1' : Int) := by omega
          have z2 : IntKind.i64.wrap (i1' : Int) = (i1' : Int) := by have := HD.out.len; rw [IntKind.wrap_i64]; omega
          have HK1 : Hid (i1' = i + 1) := hi1e
          generalize ds[i] = s at *
          have HHi : Hid (Calls Try.prog 21 #[.slice ia inn.length icap, .string s] wr fun e w' => e = .returned (.bool (memN inn s)) ∧ w' = wr) := HasText_own w1.heap.size _ inn s wr hD.tw.ti (by omega)
          have HHo : Hid (Calls Try.prog 21 #[u10, .string s] wr fun e w' => e = .returned (.bool (memN out s)) ∧ w' = wr) := HasText_own w1.heap.size _ out s wr hD.tw.to (by have := hD.outle; omega)
          have HDD : Hid (Dr2 P w1 wr rv cs q (.slice ia inn.length icap) u10 inn out) := hD
          clear hcell hdc hi1e hD
          by_cases hgo : s ∈ inn ∧ s ∉ out
          · have hm1 := (memN_iff inn s).2 hgo.1
            have hm2 := (memN_no out s).2 hgo.2
            rw [hm1] at HHi
            rw [hm2] at HHo
            have HDr : Hid (Calls Try.prog 14 #[.pointer (some ⟨P, 0, none⟩), .string s] wr fun e w' => e = .returned (.bool true) ∧ w'.cell? ⟨g, o + i, none⟩ = some (.string s) ∧ Hid (Calls Try.prog 20 #[u10, .string s] w' fun e w'' => ∃ v', e = .returned v' ∧ ∃ rv cs q out, Dr2 P w1 w'' rv cs q (.slice ia inn.length icap) v' inn out)) := by
              refine (Drop_yes HDD.out.qs HDD.out.qi s ((HDD.out.waits s).2 hgo)).mono ?_
              rintro e w' ⟨he, rv', cs', q', h1, h2, h3, h4⟩
              have tw := HDD.out.tw.upd HDD.out.qs h4
              refine ⟨he, HO.out _ tw.b, ?_⟩
              refine (Dr2.addOut h1 h2 tw s h3 HDD.out.pm HDD.out.nd HDD.out.ln).mono ?_
              rintro e w'' ⟨v', out', he', hD'⟩
              exact ⟨v', he', rv', cs', q', out', hD'⟩
            clear hm1 hm2 hgo HDD
            go_wp2_with fail
            refine HHi.out.mono ?_
            rintro e w3 ⟨rfl, rfl⟩
            go_wp2_with fail
            refine HHo.out.mono ?_
            rintro e w3 ⟨rfl, rfl⟩
            go_wp2_with fail
            refine HDr.out.mono ?_
            rintro e w4 ⟨rfl, hc4, HAd⟩
            clear HHi HHo HDr
            go_wp2_with fail
            refine HAd.out.mono ?_
            rintro e w5 ⟨v', rfl, hE⟩
            have HE : Hid (∃ rv cs q out, Dr2 P w1 w5 rv cs q (.slice ia inn.length icap) v' inn out) := hE
            clear hE HAd
            go_wp2
            go_roundg (ds.length - i1')
            case measure => rw [HG.out, HK1.out]; omega
            case rel => exact ⟨i1', by rw [HK1.out]; omega, rfl, rfl, HE.out⟩
          · have hhn : hasN q.ring s = false := by
              cases hh : hasN q.ring s with
              | false => rfl
              | true => exact absurd ((HDD.out.waits s).1 hh) hgo
            have HDr : Hid (Calls Try.prog 14 #[.pointer (some ⟨P, 0, none⟩), .string s] wr fun e w' => e = .returned (.bool false) ∧ ∃ rv cs q out, Dr2 P w1 w' rv cs q (.slice ia inn.length icap) u10 inn out) := by
              refine (Drop_no HDD.out.qs HDD.out.qi s hhn).mono ?_
              rintro e w' ⟨he, _, hb⟩
              exact ⟨he, rv, cs, q, out, HDD.out.up hb⟩
            by_cases hin : s ∈ inn
            · have hm1 := (memN_iff inn s).2 hin
              have hm2 : memN out s = true := by
                cases hh : memN out s with
                | true => rfl
                | false => exact absurd ⟨hin, (memN_no out s).1 hh⟩ hgo
              rw [hm1] at HHi
              rw [hm2] at HHo
              clear hm1 hm2 hgo hhn hin HDD
              go_wp2_with fail
              refine HHi.out.mono ?_
              rintro e w3 ⟨rfl, rfl⟩
              go_wp2_with fail
              refine HHo.out.mono ?_
              rintro e w3 ⟨rfl, rfl⟩
              go_wp2_with fail
              refine HDr.out.mono ?_
              rintro e w4 ⟨rfl, hE⟩
              have HE : Hid (∃ rv cs q out, Dr2 P w1 w4 rv cs q (.slice ia inn.length icap) u10 inn out) := hE
              clear hE HHi HHo HDr
              go_wp2
              go_roundg (ds.length - i1')
              case measure => rw [HG.out, HK1.out]; omega
              case rel => exact ⟨i1', by rw [HK1.out]; omega, rfl, rfl, HE.out⟩
            · have hm1 := (memN_no inn s).2 hin
              rw [hm1] at HHi
              clear hm1 hgo hhn hin HDD HHo
              go_wp2_with fail
              refine HHi.out.mono ?_
              rintro e w3 ⟨rfl, rfl⟩
              go_wp2_with fail
              refine HDr.out.mono ?_
              rintro e w4 ⟨rfl, hE⟩
              have HE : Hid (∃ rv cs q out, Dr2 P w1 w4 rv cs q (.slice ia inn.length icap) u10 inn out) := hE
              clear hE HHi HDr
              go_wp2
              go_roundg (ds.length - i1')
              case measure => rw [HG.out, HK1.out]; omega
              case rel => exact ⟨i1', by rw [HK1.out]; omega, rfl, rfl, HE.out⟩
        · have j1 : ¬ (i : Int) < (ds.length : Int) := by omega
          have H0 : Hid (∃ rv cs q out, Dr2 P w1 wr rv cs q (.slice ia inn.length icap) u10 inn out ∧ sizeL q.ring ≤ inn.length) := ⟨rv, cs, q, out, hD, by have := hD.count; omega⟩
          have HFin : Hid (∀ (W : World) {rv cs q out ov}, (Dr2 P w1 W rv cs q (.slice ia inn.length icap) ov inn out ∧ q.ring = []) → Calls Try.prog 12 #[.pointer (some ⟨P, 0, none⟩)] W fun e w' => e = .returned (.tuple #[.agg #[.int .i64 0, .string ⟨#[]⟩, .int .i64 0], .bool false]) ∧ Below w.heap.size w w' ∧ w.heap.size ≤ w'.heap.size) := by
            intro W rv cs q out ov h
            refine (Next_none h.1.qs h.1.qi h.2).mono ?_
            rintro e w' ⟨he, _, hbw⟩
            have h1 : Below w.heap.size w W := HB1.out.trans (h.1.tw.b.mono HB1.out.size)
            have h2 : Below w.heap.size w w' := h1.trans (hbw.mono h1.size)
            exact ⟨he, h2, h2.size⟩
          clear hD
          go_wp2
          go_loopg [10, 14] inn.length (fun gk v10 v wx => ∃ i : Nat, i ≤ inn.length ∧ v = .int .i64 (i : Int) ∧ Hid (gk = inn.length - i ∧ ∃ rv cs q out, Dr2 P w1 wx rv cs q (.slice ia inn.length icap) v10 inn out ∧ sizeL q.ring ≤ inn.length - i))
          case atStart => exact ⟨0, Nat.zero_le _, rfl, rfl, H0.out⟩
          case round =>
            obtain ⟨n3, hn3, rfl, HI3⟩ := hrel
            clear H0
            obtain ⟨rv, cs, q, out, hD, hsz⟩ := HI3.out.2
            have HG3 : Hid (gk = inn.length - n3) := HI3.out.1
            by_cases hlt : n3 < inn.length
            · have j2 : (n3 : Int) < (inn.length : Int) := by omega
              by_cases hre : q.ring = []
              · have HNx : Hid (Calls Try.prog 12 #[.pointer (some ⟨P, 0, none⟩)] wr fun e w' => e = .returned (.tuple #[.agg #[.int .i64 0, .string ⟨#[]⟩, .int .i64 0], .bool false]) ∧ Below wr.heap.size wr w') := (Next_none hD.qs hD.qi hre).mono fun e w' ⟨he, _, hb⟩ => ⟨he, hb⟩
                have HDD : Hid (Dr2 P w1 wr rv cs q (.slice ia inn.length icap) u10 inn out ∧ q.ring = []) := ⟨hD, hre⟩
                clear hD hre hsz
                go_wp2_with fail
                refine HNx.out.mono ?_
                rintro e w3 ⟨rfl, hb3⟩
                have HDE : Hid (Dr2 P w1 (w3.alloc (.cells #[.int .i64 0, .string ⟨#[]⟩, .int .i64 0] 34)) rv cs q (.slice ia inn.length icap) u10 inn out ∧ q.ring = []) := ⟨(HDD.out.1.up hb3).up ((Below.refl _ w3).alloc (Nat.le_refl _) _), HDD.out.2⟩
                clear hb3 HNx HDD
                have HNz : Hid (Calls Try.prog 12 #[.pointer (some ⟨P, 0, none⟩)] (w3.alloc (.cells #[.int .i64 0, .string ⟨#[]⟩, .int .i64 0] 34)) fun e w' => e = .returned (.tuple #[.agg #[.int .i64 0, .string ⟨#[]⟩, .int .i64 0], .bool false]) ∧ Below w.heap.size w w' ∧ w.heap.size ≤ w'.heap.size) := HFin.out _ HDE.out
                have hlen : (out.length : Int) = (inn.length : Int) := by
                  have := (HDE.out).1.count
                  have h0 := (HDE.out).2
                  rw [h0] at this
                  simp [sizeL] at this
                  omega
                have hlen2 : ((out.length : Int) == (inn.length : Int)) = true := by simpa using hlen
                have hlenN : out.length = inn.length := by omega
                obtain ⟨oa, oc, hov⟩ := row_shape (HDE.out).1.tw.to.1
                subst hov
                clear HI3
                go_wp2_with fail
                refine HNz.out.mono ?_
                rintro e W9 ⟨rfl, hb9, hz9⟩
                have HB9 : Hid (Below w.heap.size w (W9.alloc (.cells #[.int .i64 0, .string ⟨#[]⟩, .int .i64 0] 34))) := hb9.alloc hz9 _
                clear hb9 hz9 HNz
                go_wp2
                go_ret
                exact ⟨rfl, HB9.out⟩
              · have HNx : Hid (Calls Try.prog 12 #[.pointer (some ⟨P, 0, none⟩)] wr fun e w' => ∃ j : Jb, e = .returned (.tuple #[.agg #[.int .i64 j.ten, .string j.name, .int .i64 j.cost], .bool true]) ∧ ∃ rv' cs' q', QS w1.heap.size P rv' cs' w' q' ∧ QI q' ∧ Two P w1 w' rv' cs' (.slice ia inn.length icap) u10 inn out ∧ (allN q.ring).Perm (j.name :: allN q'.ring) ∧ sizeL q'.ring + 1 = sizeL q.ring) := hD.next hre
                have HDD : Hid (Dr2 P w1 wr rv cs q (.slice ia inn.length icap) u10 inn out ∧ sizeL q.ring ≤ inn.length - n3) := ⟨hD, hsz⟩
                clear hD hre hsz HI3
                go_wp2_with fail
                refine HNx.out.mono ?_
                rintro e w3 ⟨j, rfl, rv', cs', q', hq3, hi3, htw3, hp3, hs3⟩
                have hbA : Below w3.heap.size w3 (w3.alloc (.cells #[.int .i64 j.ten, .string j.name, .int .i64 j.cost] 34)) := (Below.refl _ w3).alloc (Nat.le_refl _) _
                have lA := heap_alloc_new w3 (.cells #[.int .i64 j.ten, .string j.name, .int .i64 j.cost] 34)
                have cA : (w3.alloc (.cells #[.int .i64 j.ten, .string j.name, .int .i64 j.cost] 34)).cell? ⟨w3.heap.size, 1, none⟩ = some (.string j.name) := by rw [Lib.cell_of_heap lA]; rfl
                have hq4 := hq3.up hbA
                have htw4 := htw3.up hbA
                have hwt : j.name ∈ inn ∧ j.name ∉ out := (HDD.out.1.waits j.name).1 ((mem_allN _ _).1 (hp3.mem_iff.2 List.mem_cons_self))
                have HHi : Hid (Calls Try.prog 21 #[.slice ia inn.length icap, .string j.name] (w3.alloc (.cells #[.int .i64 j.ten, .string j.name, .int .i64 j.cost] 34)) fun e w' => e = .returned (.bool true) ∧ w' = (w3.alloc (.cells #[.int .i64 j.ten, .string j.name, .int .i64 j.cost] 34))) := by
                  have := HasText_own w1.heap.size _ inn j.name _ htw4.ti (by omega)
                  rw [(memN_iff inn j.name).2 hwt.1] at this
                  exact this
                have HHo : Hid (Calls Try.prog 21 #[u10, .string j.name] (w3.alloc (.cells #[.int .i64 j.ten, .string j.name, .int .i64 j.cost] 34)) fun e w' => e = .returned (.bool false) ∧ w' = (w3.alloc (.cells #[.int .i64 j.ten, .string j.name, .int .i64 j.cost] 34))) := by
                  have := HasText_own w1.heap.size _ out j.name _ htw4.to (by have := HDD.out.1.outle; omega)
                  rw [(memN_no out j.name).2 hwt.2] at this
                  exact this
                obtain ⟨n4, hn4⟩ : ∃ n4, n4 = n3 + 1 := ⟨_, rfl⟩
                have HAd : Hid (Calls Try.prog 20 #[u10, .string j.name] (w3.alloc (.cells #[.int .i64 j.ten, .string j.name, .int .i64 j.cost] 34)) fun e w' => ∃ v', e = .returned v' ∧ ∃ rv cs q out, Dr2 P w1 w' rv cs q (.slice ia inn.length icap) v' inn out ∧ sizeL q.ring ≤ inn.length - n4) := by
                  refine (Dr2.addOut hq4 hi3 htw4 j.name hp3 HDD.out.1.pm HDD.out.1.nd HDD.out.1.ln).mono ?_
                  rintro e w' ⟨v', out', he, hD'⟩
                  exact ⟨v', he, rv', cs', q', out', hD', by have := HDD.out.2; omega⟩
                have z3 : (n3 : Int) + 1 = (n4 : Int) := by omega
                have z4 : IntKind.i64.wrap (n4 : Int) = (n4 : Int) := by rw [IntKind.wrap_i64]; omega
                have HN4 : Hid (n4 = n3 + 1) := hn4
                clear hbA lA hq3 hi3 htw3 hp3 hs3 hq4 htw4 hwt hn4 HNx HDD
                go_wp2_with fail
                generalize w3.alloc (.cells #[.int .i64 j.ten, .string j.name, .int .i64 j.cost] 34) = w4 at *
                refine HHi.out.mono ?_
                rintro e w5 ⟨rfl, rfl⟩
                go_wp2_with fail
                refine HHo.out.mono ?_
                rintro e w6 ⟨rfl, rfl⟩
                go_wp2_with fail
                refine HAd.out.mono ?_
                rintro e w7 ⟨v', rfl, hE⟩
                have HE : Hid (∃ rv cs q out, Dr2 P w1 w7 rv cs q (.slice ia inn.length icap) v' inn out ∧ sizeL q.ring ≤ inn.length - n4) := hE
                clear hE HAd HHi HHo
                go_wp2
                go_roundg (inn.length - n4)
                case measure => rw [HG3.out, HN4.out]; omega
                case rel => exact ⟨n4, by rw [HN4.out]; omega, rfl, rfl, HE.out⟩
            · have j2 : ¬ (n3 : Int) < (inn.length : Int) := by omega
              have hre : q.ring = [] := by
                have h1 := len_size hD.qi.ne
                exact List.length_eq_zero_iff.1 (by omega)
              have HDE : Hid (Dr2 P w1 wr rv cs q (.slice ia inn.length icap) u10 inn out ∧ q.ring = []) := ⟨hD, hre⟩
              clear hD hre hsz
              have HNz : Hid (Calls Try.prog 12 #[.pointer (some ⟨P, 0, none⟩)] wr fun e w' => e = .returned (.tuple #[.agg #[.int .i64 0, .string ⟨#[]⟩, .int .i64 0], .bool false]) ∧ Below w.heap.size w w' ∧ w.heap.size ≤ w'.heap.size) := HFin.out _ HDE.out
              have hlen : (out.length : Int) = (inn.length : Int) := by
                have := (HDE.out).1.count
                have h0 := (HDE.out).2
                rw [h0] at this
                simp [sizeL] at this
                omega
              have hlen2 : ((out.length : Int) == (inn.length : Int)) = true := by simpa using hlen
              have hlenN : out.length = inn.length := by omega
              obtain ⟨oa, oc, hov⟩ := row_shape (HDE.out).1.tw.to.1
              subst hov
              clear HI3
              go_wp2_with fail
              refine HNz.out.mono ?_
              rintro e W9 ⟨rfl, hb9, hz9⟩
              have HB9 : Hid (Below w.heap.size w (W9.alloc (.cells #[.int .i64 0, .string ⟨#[]⟩, .int .i64 0] 34))) := hb9.alloc hz9 _
              clear hb9 hz9 HNz
              go_wp2
              go_ret
              exact ⟨rfl, HB9.out⟩
end Go.Proofs.Ytfddhdpnoliamaa
