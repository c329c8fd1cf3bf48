/- A cone and its users: the law's walk. -/
import Derived.Test.YtbmfchflnfdjaaaGreatDoorGn31M
namespace Go.Proofs.YtbmfchflnfdjaaaGreatDoor
open Go.RowKit Go.Shelf Go.Maps
theorem Fine.drewN {w : World} {ao : Option Addr} {L : List Tg} (h : Fine w ao L) (n : Nat) : Fine (w.drewN n) ao L := h.below ⟨rfl, rfl, rfl, Nat.le_refl _, fun _ _ => rfl⟩
theorem row_cap {w : World} {B n : Nat} {v : Value} {xs : List Value} (h : w.ownsRow B 9 1 v n xs) {va : Option Addr} {vn vc : Nat} (e : v = .slice va vn vc) : n ≤ vc := by
  rcases h.2 with ⟨_, h1⟩ | ⟨g, c, cur, h1, _, _, h2, _⟩
  · omega
  · rw [h1] at e
    injection e with _ _ e3
    omega
theorem Fine.coneC {w : World} {ao : Option Addr} {L : List Tg} (h : Fine w ao L) (n cap : Nat) (hn : n = L.length) (x : ByteArray) (hx : x.size ≤ maxLen) (W : World) (hb : Below w.heap.size w W) : Calls Tryz.prog 8 #[.slice ao n cap, .string x] W fun e w' => ∃ v code, e = .returned (.tuple #[v, .int .i64 code]) ∧ Hid (∃ out, LsA (ckW L x) (nfL L) (CnS L x) out code ∧ TxIn w' v out ∧ Below W.heap.size W w' ∧ ∀ va vn vc, v = .slice va vn vc → out.length ≤ vc) := by
  subst hn
  refine (Cone_tw ao cap L x W (h.below hb).is h.len h.sz h.nm hx).mono fun e w' ⟨out, code, v, q1, q2, q3, q4⟩ => ⟨v, code, q2, out, q1, row_tx q3 (out_len q1 (fun h0 => cn_in h0) h.len), q4, fun va vn vc e => row_cap q3 e⟩

set_option maxHeartbeats 8000000 in
set_option maxRecDepth 100000 in
theorem closes_walk (ao : Option Addr) (cap : Nat) (L : List Tg) (a b : ByteArray) (w : World) (h : Fine w ao L) (hm : MaxIs w) (ha : a.size ≤ maxLen) (hb : b.size ≤ maxLen) :
    Calls Tryz.prog 4 #[.slice ao L.length cap, .string a, .string b] w fun e w' => e = .returned (.bool true) ∧ Below w.heap.size w w' := by
  have HBg : Hid (Calls Tryz.prog 5 #[] w fun e w' => e = .returned (.bool true) ∧ Below w.heap.size w w') := begun_any w hm
  have HF : Hid (Fine w ao L) := h
  have HA : Hid (a.size ≤ maxLen) := ha
  have HBb : Hid (b.size ≤ maxLen) := hb
  have hln := h.len
  have hli : (L.length : Int) ≤ 1048576 := by omega
  clear h hm ha hb
  obtain ⟨ln, hLn⟩ : ∃ ln, ln = L.length := ⟨_, rfl⟩
  have HL : Hid (ln = L.length) := hLn
  rw [← hLn] at hli ⊢
  clear hLn hln
  go_enter Tryz.func4, Tryz.ntmps4
  go_wp2_with fail
  refine HBg.out.mono ?_
  rintro e w1 ⟨rfl, hb1⟩
  have HB1 : Hid (Below w.heap.size w w1) := hb1
  clear hb1 HBg
  go_wp2_with fail
  refine (HF.out.coneC ln cap HL.out a HA.out w1 HB1.out).mono ?_
  rintro e w2 ⟨v, code, rfl, G⟩
  by_cases hc : code = 0
  · subst hc
    obtain ⟨o, q1, q2, q3, q4⟩ := G.out
    have HP : Hid (CoP L a o) := co_of q1
    have HB2 : Hid (Below w.heap.size w w2) := HB1.out.trans (q3.mono HB1.out.size)
    have HT : Hid (TxIn w2 v o) := q2
    obtain ⟨_, hol, va, vc, rfl, _⟩ := q2
    have hoi : (o.length : Int) ≤ 1048576 := by omega
    have hvc : o.length ≤ vc := q4 _ _ _ rfl
    clear G q1 q3 q4 HB1 hol
    go_wp2_with fail
    go_loopw [9] (fun i wr => ∃ k m : Nat, k ≤ o.length ∧ i = .int .i64 (k : Int) ∧ wr = w2.drewN m) (fun i _ => o.length - (intOf i).toNat)
    case atStart => exact ⟨0, 0, Nat.zero_le _, rfl, rfl⟩
    case round =>
      obtain ⟨i, m, hi, rfl, rfl⟩ := hrel
      by_cases hlt : i < o.length
      · have hii : (i : Int) < (o.length : Int) := by omega
        have hT : TxIn (w2.drewN m) (.slice va o.length vc) o := HT.out.drewN m
        obtain ⟨_, _, va2, vc2, e, hmem⟩ := hT
        injection e with e1 _ e3
        subst e1 e3
        rcases hmem with hz | ⟨g, of, rfl, hg, hcc⟩
        · exfalso; rw [hz] at hlt; exact absurd hlt (by simp)
        have c0 := hcc i hlt
        obtain ⟨j, hj, hj1, hj2⟩ := HP.out.need i hlt
        have HTA := TargetAt_any ao cap L o[i] (w2.drewN m) ((HF.out.below HB2.out).drewN m).is HF.out.len
        rw [hj1, ← HL.out] at HTA
        obtain ⟨tg, to, rfl, htg, hat⟩ := HF.out.is.at_.resolve_left (fun e => by rw [e] at hj; exact absurd hj (by simp))
        have hc2 : w2.cell? ⟨tg, to + j * 5 + 2, none⟩ = some L[j].vn := (hat.below HB2.out htg j hj).2.2.1
        have hN := ((HF.out.below HB2.out).is.tx L[j] (List.getElem_mem hj)).2.1
        have hjl : (j : Int) < (ln : Int) := by have := HL.out; omega
        have hj0 : ¬ (j : Int) < 0 := by omega
        generalize L[j].vn = nv at hc2 hN
        obtain ⟨_, hnl, na, nc, rfl, hmem⟩ := hN
        have HNm : Hid (L[j].ns = [] ∨ ∃ g o, na = some ⟨g, o, none⟩ ∧ g < w2.heap.size ∧ ∀ q (hq : q < L[j].ns.length), w2.cell? ⟨g, o + q, none⟩ = some (.string L[j].ns[q])) := hmem
        have HNd : Hid (∀ y ∈ L[j].ns, y ∈ o.take i) := hj2
        have hnli : (L[j].ns.length : Int) ≤ 1048576 := by omega
        have HCut : Hid (TxIn w2 (.slice (some ⟨g, of, none⟩) i vc) (o.take i)) := HT.out.cut i (by omega)
        have hivc : i ≤ vc := by omega
        have hivi : (i : Int) ≤ (vc : Int) := by omega
        generalize L[j].ns = nl at *
        generalize o[i] = oi at *
        clear hcc hmem hnl hj2 hat hj hj1
        go_wp2_with (first | (go_at_call 12; refine HTA.mono ?_; rintro e wx ⟨rfl, rfl⟩) | go_in)
        clear HTA
        go_loopw [11] (fun u wr => ∃ k m : Nat, k ≤ nl.length ∧ u = .int .i64 (k : Int) ∧ wr = w2.drewN m) (fun u _ => nl.length - (intOf u).toNat)
        case atStart => exact ⟨0, m, Nat.zero_le _, rfl, rfl⟩
        case round =>
          obtain ⟨k, m2, hk, rfl, rfl⟩ := hrel
          by_cases hkl : k < nl.length
          · have hki : (k : Int) < (nl.length : Int) := by omega
            rcases HNm.out with hz | ⟨ng, no, rfl, _, hcn⟩
            · exfalso; rw [hz] at hkl; exact absurd hkl (by simp)
            have cn := hcn k hkl
            have HHt := fun M => HasText_any (.slice (some ⟨g, of, none⟩) i vc) (o.take i) nl[k] ((w2.drewN m2).drewN M) ((HCut.out.drewN m2).drewN M) true ⟨fun _ => HNd.out _ (List.getElem_mem hkl), fun _ => rfl⟩
            generalize nl[k] = y at *
            clear hcn
            have cn2 : (w2.drewN m2).cell? ⟨ng, no + k, none⟩ = some (.string y) := cn
            have hc3 : (w2.drewN m2).cell? ⟨tg, to + j * 5 + 2, none⟩ = some (.slice (some ⟨ng, no, none⟩) nl.length nc) := hc2
            obtain ⟨W, hW⟩ : ∃ W, W = w2.drewN m2 := ⟨_, rfl⟩
            have HW : Hid (W = w2.drewN m2) := hW
            rw [← hW] at cn2 hc3 HHt ⊢
            clear hW cn
            go_wp2
            go_quiet (first | (go_at_call 13; exact Calls.quiet_of_same (HHt _)))
            clear HHt
            go_wp2
            exact ⟨⟨k + 1, _, by omega, by go_num, by rw [HW.out, World.drewN_drewN]⟩, by simp [intOf]; omega⟩
          · obtain rfl : k = nl.length := by omega
            go_wp2
            exact ⟨⟨i + 1, m2, by omega, by go_num, rfl⟩, by simp [intOf]; omega⟩
      · obtain rfl : i = o.length := by omega
        have hpos := HP.out.pos
        have hlast := HP.out.last
        have hp0 : ¬ (o.length : Int) = 0 := by omega
        have hT : TxIn (w2.drewN m) (.slice va o.length vc) o := HT.out.drewN m
        obtain ⟨_, _, va2, vc2, e, hmem⟩ := hT
        injection e with e1 _ e3
        subst e1 e3
        rcases hmem with hz | ⟨g, of, rfl, hg, hcc⟩
        · exfalso; rw [hz] at hpos; exact absurd hpos (by simp)
        have c0 : (w2.drewN m).cell? ⟨g, of + (o.length - 1), none⟩ = some (.string a) := (hcc (o.length - 1) (by omega)).trans (by rw [hlast])
        obtain ⟨l1, hl1⟩ : ∃ l1, l1 = o.length - 1 := ⟨_, rfl⟩
        have hl2 : (o.length : Int) - 1 = (l1 : Int) := by omega
        have hl3 : (l1 : Int) < (o.length : Int) := by omega
        have hq : (a.toList == a.toList) = true := by simp
        rw [← hl1] at c0
        have HT3' : TxIn (w2.drewN m) (.slice (some ⟨g, of, none⟩) o.length vc) o := HT.out.drewN m
        obtain ⟨on, hon⟩ : ∃ on, on = o.length := ⟨_, rfl⟩
        have HON : Hid (on = o.length) := hon
        rw [← hon] at hl2 hl3 hp0 hoi HT3' hvc ⊢
        have HT3 : Hid (TxIn (w2.drewN m) (.slice (some ⟨g, of, none⟩) on vc) o) := HT3'
        have hon0 : ¬ on = 0 := by omega
        clear hcc hlast hpos hl1 hon hi hlt HT3'
        go_wp2_with fail
        have HB3 : Hid (Below w.heap.size w (w2.drewN m)) := below_drw HB2.out m
        clear c0 HT
        generalize w2.drewN m = w3 at *
        refine (HF.out.users ln cap HL.out b HBb.out w3 HB3.out).mono ?_
        rintro e w4 ⟨u, c2, rfl, G2⟩
        obtain ⟨ul, p1, p2, p3⟩ := G2.out
        have HB4 : Hid (Below w.heap.size w w4) := HB3.out.trans (p3.mono HB3.out.size)
        have HT4 : Hid (TxIn w4 (.slice (some ⟨g, of, none⟩) on vc) o ∧ TxIn w4 u ul) := ⟨HT3.out.below p3 (Nat.le_refl _), p2⟩
        rcases HP.out.users p1 with ⟨rfl, _⟩ | ⟨rfl, hu⟩
        · clear G2 p1 p2 p3 HB3 HT3 HT4 HF
          go_wp2
          go_ret
          exact ⟨rfl, HB4.out⟩
        · have HU : Hid (∀ k, k ∈ ul.map tl ↔ UsT L b k) := hu
          clear G2 p1 p2 p3 HB3 HT3 hu
          by_cases hab : a = b
          · have hq2 : (a.toList == b.toList) = true := by rw [hab]; simp
            have HHt : Hid (Calls Tryz.prog 13 #[u, .string a] w4 fun e w' => e = .returned (.bool false) ∧ w' = w4) := HasText_any u ul a w4 HT4.out.2 false ⟨fun h => (by cases h), fun h => by
              have h2 := (HU.out (tl a)).1 (mem_tl.2 h)
              rw [← hab] at h2
              exact absurd h2.2 HP.out.noLoop⟩
            clear HF HT4 HU hab hq
            go_wp2_with (first | (go_at_call 13; refine HHt.out.mono ?_; rintro e w5 ⟨rfl, rfl⟩) | go_in)
            go_ret
            exact ⟨rfl, HB4.out⟩
          · have hq2 : (a.toList == b.toList) = false := by
              rw [beq_eq_false_iff_ne]
              exact fun h => hab (bq_ext h)
            have HD := HF.out.depth ln cap HL.out a HA.out w4 HB4.out
            have HBt : Hid (b ∈ o ↔ a ∈ ul) := HP.out.both hab HU.out
            clear hab HU HF hq
            go_wp2_with fail
            refine HD.mono ?_
            rintro e w5 ⟨d, c3, rfl, G3⟩
            obtain ⟨rfl, hd⟩ := HP.out.depth G3.out.1
            rw [← HON.out] at hd
            have hb5 := G3.out.2
            have HB5 : Hid (Below w.heap.size w w5) := HB4.out.trans (hb5.mono HB4.out.size)
            obtain ⟨bb, hbb⟩ : ∃ bb : Bool, bb = true ↔ b ∈ o := ⟨@decide (b ∈ o) (Classical.propDecidable _), by simp⟩
            have HH1 : Hid (Calls Tryz.prog 13 #[.slice (some ⟨g, of, none⟩) on vc, .string b] w5 fun e w' => e = .returned (.bool bb) ∧ w' = w5) := HasText_any _ o b w5 (HT4.out.1.below hb5 (Nat.le_refl _)) bb hbb
            have HH2 : Hid (Calls Tryz.prog 13 #[u, .string a] w5 fun e w' => e = .returned (.bool bb) ∧ w' = w5) := HasText_any u ul a w5 (HT4.out.2.below hb5 (Nat.le_refl _)) bb (hbb.trans HBt.out)
            clear G3 hb5 hbb HD HT4 HBt HB4
            go_wp2_with fail
            refine HH1.out.mono ?_
            rintro e w6 ⟨rfl, rfl⟩
            go_wp2_with fail
            refine HH2.out.mono ?_
            rintro e w7 ⟨rfl, rfl⟩
            clear HH1 HH2
            cases bb <;> go_wp2
            all_goals go_ret
            all_goals exact ⟨by first | rfl | simp, HB5.out⟩
  · have hc1 : ¬ (code : Int) = 0 := hc
    have HB2 : Hid (Below w.heap.size w w2) := by
      obtain ⟨_, _, _, q, _⟩ := G.out
      exact HB1.out.trans (q.mono HB1.out.size)
    clear G HF hc
    go_wp2
    go_ret
    exact ⟨rfl, HB2.out⟩
end Go.Proofs.YtbmfchflnfdjaaaGreatDoor
