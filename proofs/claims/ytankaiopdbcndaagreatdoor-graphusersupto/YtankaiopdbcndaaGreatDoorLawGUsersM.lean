/- GraphUsers holds in its second form, its listed variables tied to the program's text: for all targets and every name that can be read, of no more bulk than the form says, Users tells what the document's own words tell, errors too; all read behind the call as they read before. -/
import Derived.Test.YtankaiopdbcndaaGreatDoorGc9M
import Derived.Test.YtankaiopdbcndaaGreatDoorTxAdM
import Derived.Test.YtankaiopdbcndaaGreatDoorTc7
namespace Go.Proofs.YtankaiopdbcndaaGreatDoor
open Go.ChangeMaps (open_string shut_string)
open Go.ChangeShapes Go.WideShapes Go.ChangeAt Go.RowKit Go.Shelf Go.Sort
/-- While users are gathered. -/
structure UI (B : Nat) (L : List Tg) (a k : Nat) (w wr : World) (u : Value) (O : List (List UInt8)) : Prop where
  row : wr.ownsRow B 9 1 u O.length (O.map encStr)
  up : O.Pairwise (· < ·)
  mem : ∀ x, x ∈ O ↔ ∃ i, ∃ (hi : i < L.length), i < k ∧ Pk (edg L) L.length i a ∧ tnm L[i] = x
  nil : O = [] → u = .slice none 0 0
  bel : Below B w wr
theorem UI.len {B : Nat} {L : List Tg} {a k : Nat} {w wr : World} {u : Value} {O : List (List UInt8)} (h : UI B L a k w wr u O) : O.length ≤ L.length := by
  have := (lt_nodup h.up).length_le_of_subset (l₂ := L.map tnm) fun x hx => by
    obtain ⟨i, hi, _, _, e⟩ := (h.mem x).1 hx
    rw [← e]
    exact List.mem_map.2 ⟨_, List.getElem_mem hi, rfl⟩
  simpa using this
theorem us_doc {L : List Tg} {x : ByteArray} {a : Nat} {out : List ByteArray} {code : Int} {O : List (List UInt8)} (hN : NmOk L) (ha : a < L.length) (hax : tnm L[a] = tl x) (hu : UsA 0 (UsT L x) out code) (hup : O.Pairwise (· < ·)) (hO : ∀ y, y ∈ O ↔ ∃ i, ∃ (hi : i < L.length), i < L.length ∧ Pk (edg L) L.length i a ∧ tnm L[i] = y) : out = O.map bN ∧ code = 0 := by
  refine hu.uniq (T2 := UsT L x) (.inr ⟨rfl, rfl, ?_, fun k => ?_⟩) (fun _ _ => Iff.rfl)
  · rw [List.map_map, show (tl ∘ bN) = id from funext tl_bN, List.map_id]
    exact hup
  · rw [List.map_map, show (tl ∘ bN) = id from funext tl_bN, List.map_id, hO]
    unfold UsT
    constructor
    · rintro ⟨i, hi, _, p, e⟩
      subst e
      refine ⟨List.mem_map.2 ⟨_, List.getElem_mem hi, rfl⟩, ?_⟩
      rw [← hax]
      exact pk_rp hN _ (Nat.le_refl _) i a hi ha p
    · rintro ⟨h1, h2⟩
      obtain ⟨t, ht, e⟩ := List.mem_map.1 h1
      obtain ⟨i, hi, rfl⟩ := List.mem_iff_getElem.1 ht
      refine ⟨i, hi, hi, ?_, e⟩
      rw [← hax, ← e] at h2
      exact rp_pk hN hi ha h2

set_option maxHeartbeats 8000000 in
set_option maxRecDepth 100000 in
theorem users_walk (ao : Option Addr) (cap : Nat) (L : List Tg) (x : ByteArray) (w : World) (h : Fine w ao L) (hm : MaxIs w) (hx : x.size ≤ maxLen) :
    Calls Tryz.prog 6 #[.slice ao L.length cap, .string x] w fun e w' => e = .returned (.bool true) ∧ Below w.heap.size w w' := by
  have HF : Hid (Fine w ao L) := h
  have HBg : Hid (∀ W, Below w.heap.size w W → Calls Tryz.prog 14 #[] W fun e w' => e = .returned (.bool true) ∧ Hid (Below W.heap.size W w')) := fun W hb => (begun_any W (hm.up hb)).mono fun e w' q => ⟨q.1, q.2⟩
  have HCk : Hid (∀ W, Below w.heap.size w W → Calls Tryz.prog 20 #[.slice ao L.length cap, .string x] W fun e w' => e = .returned (.tuple #[.int .i64 (tgI L (tl x)), .int .i64 (ckW L x)]) ∧ w' = W) := fun W hb => asked_any ao cap L x W (h.below hb)
  have HOr := h.users L.length cap rfl x hx w (Below.refl _ _)
  have HTA : Hid (∀ (er : Int) (v u : Value) (X : List ByteArray) (W : World), TxIn W v X → TxIn W u X → (er ≠ 0 → X = []) → Calls Tryz.prog 15 #[v, .int .i64 er, .int .i64 er, u] W fun e w' => e = .returned (.bool true) ∧ Below W.heap.size W w') := fun er v u X W h1 h2 h3 => textsAre_yes er v u X X W h1 h2 h3 (fun _ => rfl)
  clear h hm hx
  by_cases h0 : ckW L x = 0
  · obtain ⟨hN, hxm⟩ := ckW_ok.1 h0
    obtain ⟨a, ha, hta, hax, hrest⟩ : ∃ j, ∃ (hj : j < L.length), tgI L (tl x) = (j : Int) ∧ tnm L[j] = tl x ∧ ∀ i (hi : i < j), tnm L[i] ≠ tl x := (tgI_cases L (tl x)).resolve_left (fun e => e.2 hxm)
    have HN : Hid (NmOk L) := hN
    have hn60 := hN.len
    have HRc : Hid (∀ W, Below w.heap.size w W → Calls Tryz.prog 23 #[.slice ao L.length cap] W fun e w' => ∃ v gs f, e = .returned v ∧ Mx W.heap.size L.length v gs f w' ∧ gs.length = L.length ∧ (∀ a b, a < L.length → b < L.length → (f a b = true ↔ Pk (edg L) L.length a b)) ∧ Below W.heap.size W w') := fun W hb => Reach_any ao cap L W (HF.out.below hb) hN
    have HAd : Hid (∀ (B : Nat) (v : Value) (l : List (List UInt8)) (s : ByteArray) (W : World), W.ownsRow B 9 1 v l.length (l.map encStr) → (l = [] → v = .slice none 0 0) → B ≤ W.heap.size → l.length ≤ 60 → Calls Tryz.prog 24 #[v, .string s] W (AdP B v l s W)) := fun B v l s W h1 h2 h3 h4 => AddText_any B v l s W h1 h2 h3 (by omega)
    have HDc : Hid (∀ (out : List ByteArray) (code : Int) (O : List (List UInt8)), UsA 0 (UsT L x) out code → O.Pairwise (· < ·) → (∀ y, y ∈ O ↔ ∃ i, ∃ (hi : i < L.length), i < L.length ∧ Pk (edg L) L.length i a ∧ tnm L[i] = y) → out = O.map bN ∧ code = 0) := fun out code O h1 h2 h3 => us_doc hN ha hax h1 h2 h3
    have hni : (L.length : Int) ≤ 60 := by omega
    have hai : (a : Int) < (L.length : Int) := by omega
    have HAl : Hid (a < L.length) := ha
    have HL60 : Hid (L.length ≤ 60) := hn60
    rw [h0] at HCk HOr
    rw [hta] at HCk
    clear hrest
    clear hN h0 hta hax hxm ha
    go_enter Tryz.func6, Tryz.ntmps6
    go_wp2_with fail
    refine HOr.mono ?_
    rintro e w1 ⟨v, code, rfl, G1⟩
    obtain ⟨out, q1, q2, q3⟩ := G1.out
    have HLs : Hid (UsA 0 (UsT L x) out code ∧ TxIn w1 v out) := ⟨q1, q2⟩
    have HB1 : Hid (Below w.heap.size w w1) := q3
    clear G1 q1 q2 q3 HOr
    go_wp2_with fail
    refine (HCk.out w1 HB1.out).mono ?_
    rintro e w2 ⟨rfl, rfl⟩
    clear HCk
    go_wp2_with fail
    refine (HRc.out w2 HB1.out).mono ?_
    rintro e w3 ⟨m, gs, f, rfl, m1, m2, m3, m4⟩
    have HM : Hid (Mx w2.heap.size L.length m gs f w3) := m1
    have HG : Hid (gs.length = L.length) := m2
    have HP : Hid (∀ a b, a < L.length → b < L.length → (f a b = true ↔ Pk (edg L) L.length a b)) := m3
    have HB3 : Hid (Below w.heap.size w w3) := HB1.out.trans (m4.mono HB1.out.size)
    have HT3 : Hid (TxIn w3 v out) := HLs.out.2.below m4 (Nat.le_refl _)
    clear m1 m2 m3 m4 HRc HB1
    obtain ⟨B, hB⟩ : ∃ B, B = w3.heap.size := ⟨_, rfl⟩
    have HBs : Hid (B = w3.heap.size) := hB
    clear hB
    go_wp2
    go_loopw [9, 11] (fun u i wr => ∃ (k : Nat) (O : List (List UInt8)), k ≤ L.length ∧ i = .int .i64 (k : Int) ∧ Hid (UI B L a k w3 wr u O)) (fun _ i _ => L.length - (intOf i).toNat)
    case atStart => exact ⟨0, [], Nat.zero_le _, rfl, World.ownsRow_nil _ _ _ _, List.Pairwise.nil, (fun y => ⟨(fun hy => by cases hy), (fun ⟨i, _, hi, _⟩ => absurd hi (Nat.not_lt_zero _))⟩), fun _ => rfl, Below.refl _ _⟩
    case round =>
      obtain ⟨k, O, hk, rfl, HU⟩ := hrel
      by_cases hlt : k < L.length
      · have hki : (k : Int) < (L.length : Int) := by omega
        have hbB : Below w3.heap.size w3 wr := by rw [← HBs.out]; exact HU.out.bel
        have hgl := HG.out
        have hMr := HM.out.below hbB
        obtain ⟨R, c, hv, hrow⟩ := hMr.form (by omega)
        rw [hgl] at hv
        subst hv
        have r1 := hrow k (by omega)
        have s1 := (hMr.bl k (by omega) a HAl.out).1
        obtain ⟨g, o, rfl, hg, hat⟩ := HF.out.is.at_.resolve_left (fun e => by rw [e] at hlt; exact absurd hlt (by simp))
        have hbw : Below w.heap.size w wr := HB3.out.trans (hbB.mono HB3.out.size)
        have c0 : wr.cell? ⟨g, o + k * 5, none⟩ = some (.string L[k].nm) := ((hat.below hbw hg) k hlt).1
        generalize gs[k] = gk at *
        cases hf : f k a with
        | false =>
          have HE : Hid (UI B L a (k + 1) w3 wr u9 O) := by
            refine ⟨HU.out.row, HU.out.up, fun y => ?_, HU.out.nil, HU.out.bel⟩
            rw [HU.out.mem]
            constructor
            · rintro ⟨i, hi, h1, h2⟩; exact ⟨i, hi, by omega, h2⟩
            · rintro ⟨i, hi, h1, h2, h3⟩
              refine ⟨i, hi, ?_, h2, h3⟩
              rcases (show i < k ∨ i = k by omega) with e | e
              · exact e
              · subst e
                exact absurd ((HP.out i a hi HAl.out).2 h2) (by rw [hf]; simp)
          rw [hf] at s1
          clear HU hbB hMr hrow hat hbw hf c0
          go_wp2
          exact ⟨⟨k + 1, O, by omega, by go_num, HE⟩, by simp [intOf]; omega⟩
        | true =>
          have hol := HU.out.len
          have h60 := HL60.out
          have HA := HAd.out B u9 O L[k].nm wr HU.out.row HU.out.nil (by rw [HBs.out]; exact hbB.size) (by omega)
          have HE : Hid (∀ v' w', w'.ownsRow B 9 1 v' (insN L[k].nm.data.toList O).length ((insN L[k].nm.data.toList O).map encStr) → Below wr.heap.size wr w' → UI B L a (k + 1) w3 w' v' (insN L[k].nm.data.toList O)) := fun v' w' q1 q2 => by
            refine ⟨q1, insN_up _ _ HU.out.up, fun y => ?_, fun e => ?_, HU.out.bel.trans (q2.mono (by rw [HBs.out]; exact hbB.size))⟩
            · rw [insN_mem, HU.out.mem]
              constructor
              · rintro (e | ⟨i, hi, h1, h2⟩)
                · exact ⟨k, hlt, by omega, (HP.out k a hlt HAl.out).1 hf, e.symm⟩
                · exact ⟨i, hi, by omega, h2⟩
              · rintro ⟨i, hi, h1, h2, h3⟩
                rcases (show i < k ∨ i = k by omega) with e | e
                · exact .inr ⟨i, hi, e, h2, h3⟩
                · subst e; exact .inl h3.symm
            · have : L[k].nm.data.toList ∈ insN L[k].nm.data.toList O := (insN_mem _ _ _).2 (.inl rfl)
              rw [e] at this
              cases this
          rw [hf] at s1
          generalize L[k].nm = y at *
          clear HU hbB hMr hrow hat hbw hf hol
          go_wp2_with (first | (go_at_call 24; refine HA.mono ?_; rintro e w5 ⟨v5, rfl, p1, p2, _⟩; have HE2 : Hid (UI B L a (k + 1) w3 w5 v5 (insN y.data.toList O)) := HE.out v5 w5 p1 p2; clear p1 p2 HE HA) | go_in)
          exact ⟨⟨k + 1, _, by omega, by go_num, HE2⟩, by simp [intOf]; omega⟩
      · obtain rfl : k = L.length := by omega
        obtain ⟨rfl, rfl⟩ := HDc.out out code O HLs.out.1 HU.out.up (fun y => by
          rw [HU.out.mem])
        have hbB : Below w3.heap.size w3 wr := by rw [← HBs.out]; exact HU.out.bel
        have HBw : Hid (Below w.heap.size w wr) := HB3.out.trans (hbB.mono HB3.out.size)
        have hol := HU.out.len
        have h60 := HL60.out
        have HTw : Hid (TxIn wr v (O.map bN) ∧ TxIn wr u9 (O.map bN)) := ⟨HT3.out.below hbB (Nat.le_refl _), row_tx (B := B) (by
          have := HU.out.row
          rw [List.length_map, List.map_map]
          exact this) (by rw [List.length_map]; omega)⟩
        generalize O.map bN = ol at *
        clear HU hbB HT3 HB3 HLs HDc HAd HM HP hol h60
        go_wp2_with fail
        refine (HBg.out wr HBw.out).mono ?_
        rintro e w7 ⟨rfl, G7⟩
        have hT := HTA.out 0 v u9 ol w7 (HTw.out.1.below G7.out (Nat.le_refl _)) (HTw.out.2.below G7.out (Nat.le_refl _)) (fun h => absurd rfl h)
        have HB7 : Hid (Below w.heap.size w w7) := HBw.out.trans (G7.out.mono HBw.out.size)
        clear HTA HBg G7 HTw HBw
        go_wp2_with fail
        refine hT.mono ?_
        rintro e w8 ⟨rfl, hb8⟩
        have HB8 : Hid (Below w.heap.size w w8) := HB7.out.trans (hb8.mono HB7.out.size)
        clear hT hb8
        go_wp2
        go_ret
        exact ⟨rfl, HB8.out⟩
  · have HC : Hid (ckW L x ≠ 0) := h0
    generalize ckW L x = c at *
    generalize tgI L (tl x) = zt at *
    have hc1 : ¬(c : Int) = 0 := h0
    have hc2 : ((c : Int) == 0) = false := by simpa using h0
    generalize L.length = ln at *
    clear h0
    go_enter Tryz.func6, Tryz.ntmps6
    go_wp2_with fail
    refine HOr.mono ?_
    rintro e w1 ⟨v, code, rfl, G1⟩
    obtain ⟨out, q1, q2, q3⟩ := G1.out
    obtain ⟨rfl, rfl⟩ : out = [] ∧ code = c := by
      rcases q1 with ⟨_, e1, e2⟩ | ⟨e1, _⟩
      · exact ⟨e1, e2⟩
      · exact absurd e1 HC.out
    have HT1 : Hid (TxIn w1 v []) := q2
    have HB1 : Hid (Below w.heap.size w w1) := q3
    clear G1 q1 q2 q3 HOr
    go_wp2_with fail
    refine (HCk.out w1 HB1.out).mono ?_
    rintro e w2 ⟨rfl, rfl⟩
    clear HCk
    go_wp2_with fail
    refine (HBg.out w2 HB1.out).mono ?_
    rintro e w5 ⟨rfl, G5⟩
    have hT := HTA.out code v (.slice none 0 0) [] w5 (HT1.out.below G5.out (Nat.le_refl _)) (tx_nil _) (fun _ => rfl)
    have HB5 : Hid (Below w.heap.size w w5) := HB1.out.trans (G5.out.mono HB1.out.size)
    clear HTA HBg G5 HT1 HB1
    go_wp2_with fail
    refine hT.mono ?_
    rintro e w6 ⟨rfl, hb6⟩
    have HB6 : Hid (Below w.heap.size w w6) := HB5.out.trans (hb6.mono HB5.out.size)
    clear hT hb6
    go_wp2
    go_ret
    exact ⟨rfl, HB6.out⟩

set_option maxRecDepth 100000 in
theorem users_walk_lifted (os : Os) (started : os.Started) (H : Type) (enc : TypeId × Value → H) (F : Stop.Interp) :
    ReturnsInHanded {} Tryz.checked os 6 .any ((Rows.OpenSpec.upto Rows.graphUsersSpec).preRow enc Tryz.prog Tryz.f6 Rows.graphUsersUptoRow.domain false Rows.graphUsersUptoRow.laid) (((Rows.OpenSpec.upto Rows.graphUsersSpec).at F).post enc Tryz.prog Tryz.f6 false true false false) := by
  refine returnsInHanded_of_row (C := Tryz.checked) (s := Rows.OpenSpec.upto Rows.graphUsersSpec) own started (by kernel_rfl) Tryz.func6
    (witness_up (enc := enc) (C := Tryz.checked) (os := os) (World.laidAll Tryz.prog os Rows.graphUsersUptoRow.laid) #[.slice none 0 0, .string ⟨#[]⟩] (World.laidAll_os _ _ _)
      (World.shaped_of_ZipB (by kernel_rfl) (by kernel_rfl)) (by kernel_rfl)
      (OpenSpec.preRow_of_cond 8 (x := ([.nil, .lit (.string [])], [], [])) (by kernel_rfl) (by kernel_rfl) (fun k hk => by cases hk; kernel_rfl) (by kernel_rfl)
        (by rw [MakeChecks.laidMetH_plain _ _ _ (by kernel_rfl)]; exact laidMet_laidAll _ (by kernel_rfl) (by kernel_rfl)))) ?_
  intro W base args ds gs before hval0 hW _ hcond hsz0 lies shape _
  have hval : ∀ (j : Nat) t v, Tryz.f6.params[j]? = some t → args[j]? = some v → Value.okWide Tryz.prog W .any base t v := hval0
  have hk := hcond _ rfl
  have hW' := hW
  obtain ⟨p, q, hA0, hV, rfl, hfz, hnd⟩ := hW
  have hA : DataW.TrodAll enc Tryz.prog W 0 (fun _ => true) true Tryz.f6.params.toList args.toList ds p := hA0
  have hsz : (DataW.weightsEach Tryz.prog (Tryz.f6.params.toList ++ Rows.graphUsersSpec.plain.varTypes Tryz.prog) (ds ++ gs)).all (· ≤ reachBytes) = true := hsz0
  rw [Tryz.params6] at hA hval hsz
  obtain ⟨v0, v1, d0, d1, p0, p1, rfl, rfl, rfl, h0, h1⟩ := trodAll_two hA
  obtain ⟨rfl, rfl⟩ := trodVars_none hV
  have h9 := of_decide_eq_true hk
  simp only [List.append_nil, Rows.uptoBulkAll] at h9
  obtain ⟨L0, ao0, cap0, rfl, hf0, hcap0, hnil0⟩ := arg_targets (hval 0 22 v0 rfl rfl) h0 (by omega)
  have lt0 : ∀ x ∈ p0, x.block < W.heap.size := by obtain ⟨m, hm⟩ := h0; exact DataW.trod_lt m _ _ _ hm
  obtain ⟨a1, rfl, rfl, rfl, w1⟩ := open_string Tryz.underlying9 (hval 1 9 v1 rfl rfl) h1
  clear hA0 hval0
  refine (users_walk ao0 cap0 L0 a1 W hf0 (max_of_shaped shape) w1).mono fun e W' ⟨he, bel⟩ => ?_
  subst he
  exact ⟨_, rfl, _, _, _, [], _, [], hW', trodAll_mk1 (shut_bool Tryz.underlying4 _), trodAll_mk2 (Below.trod laidOut (by kernel_rfl) (of_decide_eq_true (by kernel_rfl)) h0 bel lt0) (shut_string Tryz.underlying9 w1), rfl, bel.frame _, fun h => by cases h⟩

theorem graphUsersUpto_row : Rows.GraphUsersUptoSaid :=
  OpenClaim.holds_of_cond 6 Tryz.f6 rfl rfl rfl rfl rfl rfl rfl ⟨rfl, rfl, rfl, rfl, rfl⟩ rfl rfl rfl rfl rfl (by kernel_rfl) Tryz.func6 (by kernel_rfl)
    (of_decide_eq_true (by kernel_rfl)) (by unfold Func.isWrapper; first | (rw [if_pos (by decide +kernel)]; kernel_rfl) | (rw [if_neg (by decide +kernel)]; exact ⟨rfl, rfl⟩))
    (fun os started H enc _ F => by rw [OpenClaim.pre_eq_preRow]; exact users_walk_lifted os started H enc F)

theorem graphUsersUpto_holds : Rows.GraphUsersUptoCardSaid :=
  Claim7.holds_tied_plain_at .later [] Rows.graphUsersUptoCard.laidKinds true Rows.graphUsersUptoCard.stood.harness true
    graphUsersUpto_row (fun _ h => by cases h) (by kernel_rfl) (fun _ h => by cases h) graphUsersUpto_row_tie rfl ⟨rfl, rfl⟩ (by kernel_rfl) rfl
    (fun f fn hf hfn => by
      obtain rfl : f = 6 := Option.some.inj ((show Tryz.prog.funcNamed Rows.graphUsersUptoRow.func = some 6 by kernel_rfl).symm.trans hf) |>.symm
      obtain rfl : fn = Tryz.f6 := (Option.some.inj (Tryz.func6.symm.trans hfn)).symm
      exact ⟨by kernel_rfl, fun j t ht => by
        rw [Tryz.params6] at ht
        have hm : t ∈ [22, 9] := by simpa using Array.mem_of_getElem? ht
        have hall : ([22, 9].all fun u => !Tryz.prog.wantsStandIn u) = true := by kernel_rfl
        exact (show Tryz.prog.wantsStandIn t = false by simpa using List.all_eq_true.1 hall t hm)⟩)
    (by kernel_rfl)
#print axioms graphUsersUpto_holds
end Go.Proofs.YtankaiopdbcndaaGreatDoor
