/- SandboxBlind holds, its listed variables tied to the program's text: for all files, every command, all fuel and whatever file that can be read, files that a command does not read, nor lists, do not matter to it; all read behind the call as they read before; no condition of ours. -/
import Derived.Test.YtapiedeekbfpnaaGreatDoorSbWdM
import Derived.Test.YtapiedeekbfpnaaGreatDoorTa7
import Derived.Test.YtapiedeekbfpnaaGreatDoorSd4M
import Derived.Test.YtapiedeekbfpnaaGreatDoorSbAgM
import Derived.Deep.QuietTactic
import Derived.BigQuiet
import Derived.BigRegion
namespace Go.Proofs.YtapiedeekbfpnaaGreatDoor
open Go.ChangeShapes Go.WideShapes Go.ChangeAt Go.RowKit Go.Shelf Go.Sort
open Go.Joins

set_option maxRecDepth 100000 in
theorem arg_fl {H : Type} {enc : TypeId × Value → H} {W : World} {v : Value} {d : DataW H} {p : List MemPlace} {base : Nat}
    (hv : Value.okWide Tryz.prog W .any base 35 v) (h : DataW.Trod enc Tryz.prog W 0 (fun _ => true) true 35 v d p) : ∃ x : Fl, v = .agg #[.string x.pa, .string x.tx, .bool x.rn] ∧ x.pa.size ≤ maxLen := by
  obtain ⟨c0, c1, c2, y0, y1, y2, m, rfl, rfl, rfl, hy0, hy1, hy2⟩ := open_agg3 Tryz.underlying35 (by kernel_rfl) cellsFl hv h
  obtain ⟨s, e0, _, z0⟩ := DataW.trod_string Tryz.underlying9 hy0
  obtain ⟨t, e1, _, _⟩ := DataW.trod_string Tryz.underlying9 hy1
  obtain ⟨a, e2, _⟩ := DataW.trod_bool Tryz.underlying4 hy2
  simp at e0 e1 e2
  subst e0 e1 e2
  exact ⟨⟨s, t, a⟩, rfl, z0⟩

theorem dn_keep {w W : World} {ra : Option Addr} {X : List Fl} (h : Hid (Below w.heap.size w W ∧ IsFl W ra X)) (n : Nat) : Hid (Below w.heap.size w (W.drewN n) ∧ IsFl (W.drewN n) ra X) := ⟨below_low h.out.1 (below_dn W n) h.out.1.size, h.out.2.up (below_dn W n)⟩

set_option maxHeartbeats 8000000 in
set_option maxRecDepth 100000 in
theorem blind_walk (ao co : Option Addr) (cap ccap : Nat) (F : List Fl) (ss : List ByteArray) (fuel : Int) (o : Fl) (w : World) (hl : IsFl w ao F) (ht : TxAt w co ss) (he : Env w) (hlen : ss.length ≤ 4611686018427387904) (hlf : F.length ≤ 4611686018427387904) (hf1 : -9223372036854775808 ≤ fuel) (hf2 : fuel ≤ 9223372036854775807) (hcp : F.length ≤ cap) (hcn : ao = none → cap = 0) :
    Calls Tryz.prog 5 #[.slice ao F.length cap, .slice co ss.length ccap, .int .i64 fuel, .agg #[.string o.pa, .string o.tx, .bool o.rn]] w fun e w' => e = .returned (.bool true) ∧ Below w.heap.size w w' := by
  obtain ⟨V, hV⟩ : ∃ V, V = w.alloc (.cells #[.string o.pa, .string o.tx, .bool o.rn] 35) := ⟨_, rfl⟩
  have hbV : Below w.heap.size w V := by rw [hV]; exact (Below.refl _ w).alloc (Nat.le_refl _) _
  have hzV : V.heap.size = w.heap.size + 1 := by rw [hV]; exact World.size_alloc _ _
  have hVb : V.heap[w.heap.size]? = some (.cells #[.string o.pa, .string o.tx, .bool o.rn] 35 (0, 0)) := by rw [hV]; exact heap_alloc_new w _
  have hl := hl.below hbV (Nat.le_refl _)
  have ht := ht.below hbV
  have he := he.up hbV
  have bxs : ∀ W, Below V.heap.size V W → W.cell? ⟨w.heap.size, 0, none⟩ = some (.string o.pa) ∧ W.cell? ⟨w.heap.size, 1, none⟩ = some (.string o.tx) ∧ W.cell? ⟨w.heap.size, 2, none⟩ = some (.bool o.rn) := fun W hW => by
    have h := (hW.block w.heap.size (by omega)).trans hVb
    exact ⟨by rw [Lib.cell_of_heap h]; rfl, by rw [Lib.cell_of_heap h]; rfl, by rw [Lib.cell_of_heap h]; rfl⟩
  have bl_end : ∀ {W : World}, Below V.heap.size V W → ∀ n, Below w.heap.size w (W.drewN n) := fun {W} hW n => below_low hbV (below_low hW (below_dn W n) hW.size) hbV.size
  have bl_end0 : ∀ {W : World}, Below V.heap.size V W → Below w.heap.size w W := fun {W} hW => below_low hbV hW hbV.size
  have HBg : Hid (Calls Tryz.prog 11 #[] V fun e w' => e = .returned (.bool true) ∧ Hid (Below V.heap.size V w')) := sbegun_any V he.1
  have HR1 : Hid (∀ W, Hid (Below V.heap.size V W) → Calls Tryz.prog 9 #[.slice ao F.length cap, .slice co ss.length ccap, .int .i64 fuel] W fun e w' => ∃ ra rc, e = .returned (.tuple #[.slice ra (rnL F ss fuel).length rc, .int .i64 (rnC F ss fuel : Int), .int .i64 (rnS F ss fuel : Int), .int .i64 (rnE F ss fuel)]) ∧ (w'.cell? ⟨w.heap.size, 0, none⟩ = some (.string o.pa)) ∧ Hid (Below V.heap.size V w' ∧ IsFl w' ra (rnL F ss fuel))) := fun W hW => (RunC ao co cap ccap F ss fuel W (hl.below hW.out (Nat.le_refl _)) (ht.below hW.out) (he.up hW.out) hlen hf1 hf2).mono fun e w' ⟨ra, rc, q1, q2, q3⟩ => by
    have hb := below_low hW.out q3.out hW.out.size
    exact ⟨ra, rc, q1, (bxs w' hb).1, hb, q2.out⟩
  by_cases h0 : rnE F ss fuel = 0
  · have hck : (chkF ss).2 = 0 := by obtain ⟨_, _, _, _, hck⟩ := rn_zero h0; exact hck
    have hchF : chF F = 0 := by obtain ⟨_, _, _, h, _⟩ := rn_zero h0; exact h
    have hFt : TrOk F := TrOk.of hchF
    have htr := rn_tree F ss fuel
    have hln := htr.ln
    have HFa : Hid (∀ W, Hid (Below V.heap.size V W) → Calls Tryz.prog 16 #[.slice ao F.length cap, .string o.pa] W fun e w' => ∃ i, e = .returned (.int .i64 i) ∧ FaR F o.pa.data.toList i ∧ w' = W) := fun W hW => FileAt_any ao cap F o.pa W (hl.below hW.out (Nat.le_refl _)) hlf
    have HTx : Hid (∀ W, Below V.heap.size V W → TxAt W co ss) := fun W hW => ht.below hW
    have HWd : Hid (∀ (k : Nat) (hk : k < ss.length) (W : World) ra, Hid (Below V.heap.size V W ∧ IsFl W ra (rnL F ss fuel)) → Calls Tryz.prog 17 #[.string ss[k]] W fun e w' => ∃ g cap, e = .returned (.slice (some ⟨g, 0, none⟩) (wdL [] ss[k].data.toList).length cap) ∧ w'.cell? ⟨g, 0, none⟩ = some (.string (bA ((wdL [] ss[k].data.toList).getD 0 []))) ∧ Hid (3 ≤ (wdL [] ss[k].data.toList).length → w'.cell? ⟨g, 2, none⟩ = some (.string (bA ((wdL [] ss[k].data.toList).getD 2 [])))) ∧ (w'.cell? ⟨w.heap.size, 0, none⟩ = some (.string o.pa) ∧ w'.cell? ⟨w.heap.size, 1, none⟩ = some (.string o.tx) ∧ w'.cell? ⟨w.heap.size, 2, none⟩ = some (.bool o.rn)) ∧ Hid (Below V.heap.size V w' ∧ IsFl w' ra (rnL F ss fuel))) := fun k hk W ra hW => (WordsC ss[k] W (chk_all hck (List.getElem_mem hk)).1).mono fun e w' ⟨g, cap, q1, q2, q3⟩ => by
      have hb := below_low hW.out.1 q3.out hW.out.1.size
      have hne : (wdL [] ss[k].data.toList).length ≠ 0 := fun e => wdL_ne _ _ (List.length_eq_zero_iff.1 e)
      exact ⟨g, cap, q1, q2.out 0 (by omega), fun h => q2.out 2 (by omega), bxs w' hb, hb, hW.out.2.up q3.out⟩
    have HLn : Hid (∀ (k : Nat) (hk : k < ss.length), (wdL [] ss[k].data.toList).getD 0 [] = [114, 101, 97, 100] → (wdL [] ss[k].data.toList).length = 3) := fun k hk => bld_words hck (List.getElem_mem hk)
    have HSS : Hid (ss.length ≤ 60) := (lns_ok hck).1
    have hssi : (ss.length : Int) ≤ 60 := by have := HSS.out; omega
    have HAd : Hid (∀ W ra, Hid (Below V.heap.size V W ∧ IsFl W ra (rnL F ss fuel)) → Calls Tryz.prog 18 #[.slice ao F.length cap, .agg #[.string o.pa, .string o.tx, .bool o.rn]] W fun e w' => ∃ ga ca, e = .returned (.slice (some ⟨ga, 0, none⟩) (insF o F).length ca) ∧ Hid ((Below V.heap.size V w' ∧ IsFl w' ra (rnL F ss fuel)) ∧ IsFl w' (some ⟨ga, 0, none⟩) (insF o F))) := fun W ra hW => (AddFileC ao cap F o W (hl.below hW.out.1 (Nat.le_refl _)) (by have := hFt.ln; omega) hcp hcn).mono fun e w' ⟨ga, ca, q1, q2, q3, _⟩ => ⟨ga, ca, q1, ⟨below_low hW.out.1 q3 hW.out.1.size, hW.out.2.up q3⟩, own_files q2 rfl⟩
    have HR2 : Hid (∀ W ra ga ca, Hid ((Below V.heap.size V W ∧ IsFl W ra (rnL F ss fuel)) ∧ IsFl W (some ⟨ga, 0, none⟩) (insF o F)) → Calls Tryz.prog 9 #[.slice (some ⟨ga, 0, none⟩) (insF o F).length ca, .slice co ss.length ccap, .int .i64 fuel] W fun e w' => ∃ rb rd, e = .returned (.tuple #[.slice rb (rnL (insF o F) ss fuel).length rd, .int .i64 (rnC (insF o F) ss fuel : Int), .int .i64 (rnS (insF o F) ss fuel : Int), .int .i64 (rnE (insF o F) ss fuel)]) ∧ Hid ((Below V.heap.size V w' ∧ IsFl w' ra (rnL F ss fuel)) ∧ IsFl w' rb (rnL (insF o F) ss fuel))) := fun W ra ga ca hW => (RunC (some ⟨ga, 0, none⟩) co ca ccap (insF o F) ss fuel W hW.out.2 (ht.below hW.out.1.1) (he.up hW.out.1.1) hlen hf1 hf2).mono fun e w' ⟨rb, rd, q1, q2, q3⟩ => ⟨rb, rd, q1, ⟨below_low hW.out.1.1 q3.out hW.out.1.1.size, hW.out.1.2.up q3.out⟩, q2.out⟩
    have HBl : Hid ((∀ s ∈ ss, bld o s = false) → rnE (insF o F) ss fuel = 0 → rnL (insF o F) ss fuel = rnL F ss fuel ∧ rnC (insF o F) ss fuel = rnC F ss fuel ∧ rnS (insF o F) ss fuel = rnS F ss fuel) := fun h1 h2 => rn_blind h0 h1 h2
    have HSm : Hid (∀ (W : World) (ra rb : Option Addr) (rc rd : Nat), Hid ((Below V.heap.size V W ∧ IsFl W ra (rnL F ss fuel)) ∧ IsFl W rb (rnL F ss fuel)) → Calls Tryz.prog 15 #[.slice ra (rnL F ss fuel).length rc, .slice rb (rnL F ss fuel).length rd] W fun e w' => e = .returned (.bool true) ∧ Hid (Below V.heap.size V w')) := fun W ra rb rc rd h => (SameC ra rb rc rd _ W hln h.out.1.2 h.out.2).mono fun e w' q => ⟨q.1, below_low h.out.1.1 q.2.out h.out.1.1.size⟩
    rw [h0] at HR1
    obtain ⟨FI, hFI⟩ : ∃ FI, insF o F = FI := ⟨_, rfl⟩
    rw [hFI] at HAd HR2 HBl
    generalize rnL F ss fuel = X at *
    generalize rnC F ss fuel = C at *
    generalize rnS F ss fuel = S at *
    generalize rnL FI ss fuel = X2 at *
    generalize rnC FI ss fuel = C2 at *
    generalize rnS FI ss fuel = S2 at *
    generalize rnE FI ss fuel = E2 at *
    generalize FI.length = fin1 at *
    obtain ⟨op, ot, orn⟩ := o
    simp only at HR1 HFa HWd HAd bxs hV
    have HBE : Hid (∀ {W : World}, Below V.heap.size V W → ∀ n, Below w.heap.size w (W.drewN n)) := bl_end
    have HBE0 : Hid (∀ {W : World}, Below V.heap.size V W → Below w.heap.size w W) := bl_end0
    have HBX : Hid (∀ W, Below V.heap.size V W → W.cell? ⟨w.heap.size, 0, none⟩ = some (.string op) ∧ W.cell? ⟨w.heap.size, 1, none⟩ = some (.string ot) ∧ W.cell? ⟨w.heap.size, 2, none⟩ = some (.bool orn)) := bxs
    have HXX : Hid (X.length ≤ 60) := hln
    clear hl ht he hlen htr h0 hck hln hchF hFt hFI hlf bl_end bl_end0 bxs hbV hzV hVb hcp hcn
    by_cases hfd : ∃ f ∈ F, pth f = op.data.toList
    · have HF1 : Hid (∀ W, Hid (Below V.heap.size V W) → Calls Tryz.prog 16 #[.slice ao F.length cap, .string op] W fun e w' => ∃ j : Nat, e = .returned (.int .i64 (j : Int)) ∧ w' = W) := fun W hW => (HFa.out W hW).mono fun e w' ⟨i, q1, q2, q3⟩ => by
        rcases q2 with ⟨_, q2⟩ | ⟨j, _, q2, _⟩
        · obtain ⟨f, hf, hp⟩ := hfd
          exact absurd hp (q2 f hf)
        · exact ⟨j, by rw [q1, q2], q3⟩
      clear hfd HFa
      go_enter Tryz.func5, Tryz.ntmps5
      rw [hV] at HBg
      go_wp2_with (first
        | (go_at_call 11; refine HBg.out.mono ?_; rintro e w1 ⟨rfl, H1⟩; rw [← hV] at H1)
        | (go_at_call 9; refine (HR1.out _ H1).mono ?_; rintro e w2 ⟨ra, rc, rfl, p0, H2⟩)
        | (go_at_call 16; refine (HF1.out _ H2.out.1).mono ?_; rintro e w3 ⟨j, rfl, hw⟩; subst w3)
        | go_in)
      go_ret
      exact ⟨by first | rfl | simp, HBE0.out H2.out.1⟩
    · have HF1 : Hid (∀ W, Hid (Below V.heap.size V W) → Calls Tryz.prog 16 #[.slice ao F.length cap, .string op] W fun e w' => e = .returned (.int .i64 (-1)) ∧ w' = W) := fun W hW => (HFa.out W hW).mono fun e w' ⟨i, q1, q2, q3⟩ => by
        rcases q2 with ⟨q2, _⟩ | ⟨j, hj, _, q2, _⟩
        · exact ⟨by rw [q1, q2], q3⟩
        · exact absurd ⟨F[j], List.getElem_mem hj, q2⟩ hfd
      clear hfd HFa
      go_enter Tryz.func5, Tryz.ntmps5
      rw [hV] at HBg
      go_wp2_with (first
        | (go_at_call 11; refine HBg.out.mono ?_; rintro e w1 ⟨rfl, H1⟩; rw [← hV] at H1)
        | (go_at_call 9; refine (HR1.out _ H1).mono ?_; rintro e w2 ⟨ra, rc, rfl, p0, H2⟩)
        | (go_at_call 16; refine (HF1.out _ H2.out.1).mono ?_; rintro e w3 ⟨rfl, hw⟩; subst w3)
        | go_in)
      clear p0
      go_loopw [13] (fun i wr => ∃ k : Nat, k ≤ ss.length ∧ i = .int .i64 (k : Int) ∧ Hid (∀ s ∈ ss.take k, bld ⟨op, ot, orn⟩ s = false) ∧ Hid (Below V.heap.size V wr ∧ IsFl wr ra X)) (fun i _ => ss.length - (intOf i).toNat)
      case atStart =>
        refine ⟨0, Nat.zero_le _, rfl, ?_, H2⟩
        exact (fun s hs => by simp at hs : ∀ s ∈ ss.take 0, bld ⟨op, ot, orn⟩ s = false)
      case round =>
        obtain ⟨k, hk, rfl, HN, HJ⟩ := hrel
        by_cases hkl : k < ss.length
        · have hki : (k : Int) < (ss.length : Int) := by omega
          obtain ⟨tg, to, rfl, htg, htc⟩ := (HTx.out _ HJ.out.1).get hkl
          have hW0 := HWd.out k hkl wr ra HJ
          have hL0 := HLn.out k hkl
          have hnz : (wdL [] ss[k].data.toList).length ≠ 0 := fun e => wdL_ne _ _ (List.length_eq_zero_iff.1 e)
          have HSn : Hid (bld ⟨op, ot, orn⟩ ss[k] = false → ∀ s ∈ ss.take (k + 1), bld ⟨op, ot, orn⟩ s = false) := fun h s hs => by
            rw [List.take_succ_eq_append_getElem hkl] at hs
            rcases List.mem_append.1 hs with hs | hs
            · exact HN.out s hs
            · rw [List.mem_singleton.1 hs]; exact h
          have HMk : Hid (bld ⟨op, ot, orn⟩ ss[k] = (decide ((wdL [] ss[k].data.toList).getD 0 [] = [108, 105, 115, 116]) || (decide ((wdL [] ss[k].data.toList).getD 0 [] = [114, 101, 97, 100]) && decide ((wdL [] ss[k].data.toList).getD 2 [] = op.data.toList)))) := rfl
          generalize ss[k] = s at *
          generalize wdL [] s.data.toList = ws at *
          have HWk : Hid (Calls Tryz.prog 17 #[.string s] wr fun e w' => ∃ g cap, e = .returned (.slice (some ⟨g, 0, none⟩) ws.length cap) ∧ w'.cell? ⟨g, 0, none⟩ = some (.string (bA (ws.getD 0 []))) ∧ Hid (3 ≤ ws.length → w'.cell? ⟨g, 2, none⟩ = some (.string (bA (ws.getD 2 [])))) ∧ (w'.cell? ⟨w.heap.size, 0, none⟩ = some (.string op) ∧ w'.cell? ⟨w.heap.size, 1, none⟩ = some (.string ot) ∧ w'.cell? ⟨w.heap.size, 2, none⟩ = some (.bool orn)) ∧ Hid (Below V.heap.size V w' ∧ IsFl w' ra X)) := hW0
          have b1 := eqb (ws.getD 0 []) [108, 105, 115, 116]
          have b2 := eqb (ws.getD 0 []) [114, 101, 97, 100]
          have b3 : ((bA (ws.getD 2 [])).toList == op.toList) = decide (ws.getD 2 [] = op.data.toList) := by rw [Lib.toList_data op]; exact eqb _ _
          have HL0 : Hid (ws.getD 0 [] = [114, 101, 97, 100] → ws.length = 3) := hL0
          have hwl : (0 : Int) < (ws.length : Int) := by omega
          generalize bA (ws.getD 0 []) = c0 at *
          generalize bA (ws.getD 2 []) = c2 at *
          generalize ws.length = wn at *
          clear hW0 hL0 hnz
          by_cases hm : ws.getD 0 [] = [108, 105, 115, 116]
          · rw [decide_eq_true hm] at b1
            clear HMk HSn hm b2 b3
            go_wp2_with (first
              | (go_at_call 17; refine HWk.out.mono ?_; rintro e w4 ⟨wg, wc, rfl, q0, Q2, ⟨y0, y1, y2⟩, H4⟩)
              | go_in)
            go_quiet (fail)
            go_wp2
            go_ret
            exact ⟨by first | rfl | simp, HBE.out H4.out.1 _⟩
          · rw [decide_eq_false hm] at b1 HMk
            by_cases hr : ws.getD 0 [] = [114, 101, 97, 100]
            · have HN3 : Hid (wn = 3) := HL0.out hr
              have hw2 : (2 : Int) < (wn : Int) := by have := HN3.out; omega
              rw [decide_eq_true hr] at b2 HMk
              by_cases hp : ws.getD 2 [] = op.data.toList
              · rw [decide_eq_true hp] at b3
                clear HMk HSn hm hr hp
                go_wp2_with (first
                  | (go_at_call 17; refine HWk.out.mono ?_; rintro e w4 ⟨wg, wc, rfl, q0, Q2, ⟨y0, y1, y2⟩, H4⟩; have q2 := Q2.out (by have := HN3.out; omega))
                  | go_in)
                go_quiet (fail)
                go_wp2
                go_ret
                exact ⟨by first | rfl | simp, HBE.out H4.out.1 _⟩
              · rw [decide_eq_false hp] at b3 HMk
                have HN2 : Hid (∀ s ∈ ss.take (k + 1), bld ⟨op, ot, orn⟩ s = false) := HSn.out (by rw [HMk.out]; rfl)
                clear HMk HSn hm hr hp HN
                go_wp2_with (first
                  | (go_at_call 17; refine HWk.out.mono ?_; rintro e w4 ⟨wg, wc, rfl, q0, Q2, ⟨y0, y1, y2⟩, H4⟩; have q2 := Q2.out (by have := HN3.out; omega))
                  | go_in)
                go_quiet (fail)
                go_wp2
                refine ⟨⟨k + 1, hkl, by go_num, HN2, dn_keep H4 _⟩, ?_⟩
                simp [intOf]; omega
            · rw [decide_eq_false hr] at b2 HMk
              have HN2 : Hid (∀ s ∈ ss.take (k + 1), bld ⟨op, ot, orn⟩ s = false) := HSn.out (by rw [HMk.out]; rfl)
              clear HMk HSn hm hr HN b3
              go_wp2_with (first
                | (go_at_call 17; refine HWk.out.mono ?_; rintro e w4 ⟨wg, wc, rfl, q0, Q2, ⟨y0, y1, y2⟩, H4⟩)
                | go_in)
              go_quiet (fail)
              go_wp2
              refine ⟨⟨k + 1, hkl, by go_num, HN2, dn_keep H4 _⟩, ?_⟩
              simp [intOf]; omega
        · obtain rfl : k = ss.length := by omega
          have HAll : Hid (∀ s ∈ ss, bld ⟨op, ot, orn⟩ s = false) := fun s hs => HN.out s (by rw [List.take_length]; exact hs)
          obtain ⟨y0, y1, y2⟩ := HBX.out wr HJ.out.1
          by_cases h2 : E2 = 0
          · subst h2
            obtain ⟨rfl, rfl, rfl⟩ := HBl.out HAll.out rfl
            go_wp2_with (first
              | (go_at_call 18; refine (HAd.out _ ra HJ).mono ?_; rintro e w5 ⟨ga, ca, rfl, H5⟩)
              | (go_at_call 9; refine (HR2.out _ ra ga ca H5).mono ?_; rintro e w6 ⟨rb, rd, rfl, H6⟩)
              | (go_at_call 15; refine (HSm.out _ ra rb _ _ H6).mono ?_; rintro e w7 ⟨rfl, H7⟩)
              | go_in)
            go_ret
            exact ⟨by first | rfl | simp, HBE0.out H7.out⟩
          · have hE2 : (E2 == 0) = false := by simpa using h2
            generalize X2.length = x2n at *
            go_wp2_with (first
              | (go_at_call 18; refine (HAd.out _ ra HJ).mono ?_; rintro e w5 ⟨ga, ca, rfl, H5⟩)
              | (go_at_call 9; refine (HR2.out _ ra ga ca H5).mono ?_; rintro e w6 ⟨rb, rd, rfl, H6⟩)
              | go_in)
            go_ret
            exact ⟨by first | rfl | simp, HBE0.out H6.out.1.1⟩
  · have hX : rnL F ss fuel = [] := by unfold rnL; rw [if_neg h0]
    generalize rnE F ss fuel = E at *
    generalize (rnL F ss fuel).length = n1 at *
    generalize rnC F ss fuel = C at *
    generalize rnS F ss fuel = S at *
    have hE : (E == 0) = false := by simpa using h0
    have HBE0 : Hid (∀ {W : World}, Below V.heap.size V W → Below w.heap.size w W) := bl_end0
    clear hl ht he hlen hlf bl_end bl_end0 bxs hbV hzV hVb hX
    go_enter Tryz.func5, Tryz.ntmps5
    rw [hV] at HBg
    go_wp2_with (first
      | (go_at_call 11; refine HBg.out.mono ?_; rintro e w1 ⟨rfl, H1⟩; rw [← hV] at H1)
      | (go_at_call 9; refine (HR1.out _ H1).mono ?_; rintro e w2 ⟨ra, rc, rfl, p0, H2⟩)
      | go_in)
    go_ret
    exact ⟨by first | rfl | simp, HBE0.out H2.out.1⟩

set_option maxRecDepth 100000 in
theorem blind_walk_lifted (os : Os) (started : os.Started) (H : Type) (enc : TypeId × Value → H) :
    ReturnsInHanded {} Tryz.checked os 5 .any (fun w args => (Rows.sandboxBlindSpec.pre enc Tryz.prog Tryz.f5 Rows.sandboxBlindRow.domain false w args ∧ laidMetH Tryz.prog Rows.sandboxBlindRow.laid w) ∧ sizedMet enc Tryz.prog Tryz.f5 (OpenSpec.ofChange Rows.sandboxBlindSpec) false w args)
      (Rows.sandboxBlindSpec.post enc Tryz.prog Tryz.f5 false true false false) := by
  refine returns_laid own started (by kernel_rfl) Tryz.func5
    (ChangeSpec.witness_shaped (enc := enc) (C := Tryz.checked) (os := os) (X := fun w _ => laidMetH Tryz.prog Rows.sandboxBlindRow.laid w) false (World.laidAll Tryz.prog os Rows.sandboxBlindRow.laid) #[.slice none 0 0, .slice none 0 0, .int .i64 0, .agg #[.string ⟨#[]⟩, .string ⟨#[]⟩, .bool false]] 8 (World.laidAll_os _ _ _)
      (World.shaped_of_ZipB (by kernel_rfl) (by kernel_rfl)) (by kernel_rfl) (by kernel_rfl) (by kernel_rfl)
      (by rw [MakeChecks.laidMetH_plain _ _ _ (by kernel_rfl)]; exact laidMet_laidAll _ (by kernel_rfl) (by kernel_rfl))) ?_
  intro W base args ds gs before hval0 hW hsz0 lies shape
  have hval : ∀ (j : Nat) t v, Tryz.f5.params[j]? = some t → args[j]? = some v → Value.okWide Tryz.prog W .any base t v := hval0
  have hW' := hW
  obtain ⟨p, q, hA0, hV, rfl, hfz, hnd⟩ := hW
  have hA : DataW.TrodAll enc Tryz.prog W 0 (fun _ => true) true Tryz.f5.params.toList args.toList ds p := hA0
  have hsz : (DataW.weightsEach Tryz.prog (Tryz.f5.params.toList ++ Rows.sandboxBlindSpec.plain.varTypes Tryz.prog) (ds ++ gs)).all (· ≤ reachBytes) = true := hsz0
  rw [Tryz.params5] at hA hval hsz
  obtain ⟨v0, v1, v2, v3, d0, d1, d2, d3, p0, p1, p2, p3, rfl, rfl, rfl, h0, h1, h2, h3⟩ := trodAll_four hA
  obtain ⟨rfl, rfl⟩ := trodVars_none hV
  obtain ⟨L0, ao0, cap0, rfl, hf0, hn0⟩ := arg_files (hval 0 22 v0 rfl rfl) h0 (arg_lenF hsz 0 d0 rfl rfl)
  have lt0 : ∀ x ∈ p0, x.block < W.heap.size := by obtain ⟨m, hm⟩ := h0; exact DataW.trod_lt m _ _ _ hm
  obtain ⟨ss1, i1⟩ := arg_texts (hval 1 23 v1 rfl rfl) h1 (arg_len hsz 1 d1 rfl rfl)
  obtain ⟨hn1, co1, cc1, rfl, ht1⟩ := tx_of i1
  have lt1 : ∀ x ∈ p1, x.block < W.heap.size := by obtain ⟨m, hm⟩ := h1; exact DataW.trod_lt m _ _ _ hm
  obtain ⟨a2, rfl, rfl, rfl, w2⟩ := open_int Tryz.underlying3 (hval 2 3 v2 rfl rfl) h2
  have r2 : -9223372036854775808 ≤ a2 ∧ a2 ≤ 9223372036854775807 := by simpa [Lit.wf, IntKind.min, IntKind.max, IntKind.signed, IntKind.bits] using w2
  obtain ⟨x3, rfl, z3⟩ := arg_fl (hval 3 35 v3 rfl rfl) h3
  have lt3 : ∀ x ∈ p3, x.block < W.heap.size := by obtain ⟨m, hm⟩ := h3; exact DataW.trod_lt m _ _ _ hm
  clear hA0 hval0
  refine (blind_walk ao0 co1 cap0 cc1 L0 ss1 a2 x3 W hf0 ht1 (env_of lies shape) hn1 hn0 r2.1 r2.2 (arg_capF h0).1 (arg_capF h0).2).mono fun e W' ⟨he, bel⟩ => ?_
  subst he
  exact ⟨_, rfl, _, _, _, [], _, [], hW', trodAll_mk1 (shut_bool Tryz.underlying4 _), trodAll_mk4 (Below.trod laidOut (by kernel_rfl) (of_decide_eq_true (by kernel_rfl)) h0 bel lt0) (Below.trod laidOut (by kernel_rfl) (of_decide_eq_true (by kernel_rfl)) h1 bel lt1) (shut_int Tryz.underlying3 w2) (Below.trod laidOut (by kernel_rfl) (of_decide_eq_true (by kernel_rfl)) h3 bel lt3), rfl, bel.frame _, fun h => by cases h⟩

theorem sandboxBlind_row : Rows.SandboxBlindSaid :=
  OpenClaim.holds_of_wide 5 Tryz.f5 rfl rfl rfl rfl rfl rfl rfl ⟨rfl, rfl, rfl, rfl, rfl⟩ rfl rfl rfl rfl rfl (by kernel_rfl) Tryz.func5 (by kernel_rfl)
    (of_decide_eq_true (by kernel_rfl)) (by unfold Func.isWrapper; first | (rw [if_pos (by decide +kernel)]; kernel_rfl) | (rw [if_neg (by decide +kernel)]; exact ⟨rfl, rfl⟩))
    (fun os started H enc _ => blind_walk_lifted os started H enc)

theorem sandboxBlind_holds : Rows.SandboxBlindCardSaid :=
  Claim7.holds_tied_plain_at .later [] Rows.sandboxBlindCard.laidKinds true Rows.sandboxBlindCard.stood.harness false
    sandboxBlind_row (fun _ h => by cases h) (by kernel_rfl) (fun _ h => by cases h) sandboxBlind_row_tie rfl ⟨rfl, rfl⟩ (by kernel_rfl) rfl
    (fun f fn hf hfn => by
      obtain rfl : f = 5 := Option.some.inj ((show Tryz.prog.funcNamed Rows.sandboxBlindRow.func = some 5 by kernel_rfl).symm.trans hf) |>.symm
      obtain rfl : fn = Tryz.f5 := (Option.some.inj (Tryz.func5.symm.trans hfn)).symm
      exact ⟨by kernel_rfl, fun j t ht => by
        rw [Tryz.params5] at ht
        have hm : t ∈ [22, 23, 3, 35] := by simpa using Array.mem_of_getElem? ht
        have hall : ([22, 23, 3, 35].all fun u => !Tryz.prog.wantsStandIn u) = true := by kernel_rfl
        exact (show Tryz.prog.wantsStandIn t = false by simpa using List.all_eq_true.1 hall t hm)⟩)
    (by kernel_rfl)
#print axioms sandboxBlind_holds
end Go.Proofs.YtapiedeekbfpnaaGreatDoor
