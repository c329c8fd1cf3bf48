/- Run, whole: what it answers of whatever it is handed. -/
import Derived.Deep.QuietTactic
import Derived.BigQuiet
import Derived.BigRegion
import Derived.Test.YtapiedeekbfpnaaGreatDoorTie
import Derived.Test.YtapiedeekbfpnaaGreatDoorCards
import Derived.ProofKit
import Derived.OpenShut
import Derived.ShutString
import Derived.ChangeOld
import Derived.Below
import Derived.Lay
import Derived.HandedShaped
import Derived.SevenTiedAt
import Derived.Stop.Joined
import Derived.Shelf.Vars
import Derived.SliceStrings
import Derived.Lib.SmallJoins
import Derived.Lib.LaidTab
import Derived.Test.YtapiedeekbfpnaaGreatDoorTa6
namespace Go.Proofs.YtapiedeekbfpnaaGreatDoor
open Go.RowKit Go.Shelf Go.Maps Go.WideMaps Go.Sort

/-- The same machine with its files, and its map, elsewhere. -/
def setM (fv : Value) (mp : Nat) (m : Mc) : Mc := { m with fv := fv, mp := mp }
section
variable (fv : Value) (mp : Nat) (m : Mc)
theorem burn_set (b : Nat) : burnM (setM fv mp m) b = (setM fv mp (burnM m b).1, (burnM m b).2) := by
  unfold burnM
  show (if m.fuel < _ then _ else _) = _
  split <;> rfl
theorem end_set (c : Nat) : endM (setM fv mp m) c = setM fv mp (endM m c) := by
  unfold endM
  rw [burn_set]
  simp only
  split <;> rfl
theorem put_set (r : Nat) (t : ByteArray) : putM (setM fv mp m) r t = setM fv mp (putM m r t) := by
  unfold putM
  rw [burn_set]
  simp only
  split
  · exact end_set fv mp m 102
  · split <;> rfl
theorem go_set (b : Bool) (n : Nat) : goM (setM fv mp m) b n = setM fv mp (goM m b n) := by
  unfold goM
  rw [burn_set]
  simp only
  split <;> rfl
theorem mk_set (L : List Fl) (f : Fl) : mkM (setM fv mp m) L f = setM fv mp (mkM m L f) := by
  unfold mkM
  rw [burn_set]
  split
  · rfl
  · exact end_set fv mp m 103
theorem mkL_set (L : List Fl) (f : Fl) : mkL (setM fv mp m) L f = mkL m L f := by
  unfold mkL
  rw [burn_set]
theorem do_set (F L : List Fl) (l : Ln) : doM F L (setM fv mp m) l = setM fv mp (doM F L m l) := by
  have e : ∀ i, txF (setM fv mp m) i = txF m i := fun _ => rfl
  unfold doM
  simp only [e]
  split
  · exact put_set _ _ _ _ _
  · split
    · exact end_set _ _ _ _
    · exact put_set _ _ _ _ _
  · exact put_set _ _ _ _ _
  · exact put_set _ _ _ _ _
  · exact put_set _ _ _ _ _
  · exact put_set _ _ _ _ _
  · exact put_set _ _ _ _ _
  · exact mk_set _ _ _ _ _
  · exact mk_set _ _ _ _ _
  · exact go_set _ _ _ _ _
  · exact go_set _ _ _ _ _
  · exact go_set _ _ _ _ _
  · exact end_set _ _ _ _
theorem doL_set (L : List Fl) (l : Ln) : doL L (setM fv mp m) l = doL L m l := by
  have e : ∀ i, txF (setM fv mp m) i = txF m i := fun _ => rfl
  unfold doL
  simp only [e, mkL_set]
end
theorem run_set (fv : Value) (mp : Nat) (F : List Fl) (ls : List Ln) : ∀ (k : Nat) (m : Mc) (L : List Fl), runM F ls k (setM fv mp m) L = (setM fv mp (runM F ls k m L).1, (runM F ls k m L).2)
  | 0, m, L => rfl
  | k + 1, m, L => by
    unfold runM
    have e1 : stp ls (setM fv mp m) = stp ls m := rfl
    have e2 : lnAt ls (setM fv mp m) = lnAt ls m := rfl
    have e3 : nxM (setM fv mp m) = setM fv mp (nxM m) := rfl
    rw [e1, e2, e3, do_set, doL_set]
    split
    · rfl
    · exact run_set fv mp F ls k _ _
/-- A machine at its beginning. -/
def mz (fuel : Nat) : Mc := ⟨.slice none 0 0, 0, List.replicate 8 ⟨#[]⟩, fuel, 0, false, 0⟩
theorem mz_ok (fuel : Nat) : MOk (mz fuel) [] := ⟨rfl, fun t ht => by rw [List.eq_of_mem_replicate ht]; show (0 : Nat) ≤ _; omega, TrOk.nil⟩
/-- What lines come to. -/
def rnR (F : List Fl) (ls : List Ln) (fuel : Nat) : Mc × List Fl := runM F ls (fuel + 1) (mz fuel) []
/-- What Run answers: its error; the files; the code; what was burnt. -/
def rnE (F : List Fl) (ss : List ByteArray) (fuel : Int) : Int := if chF F ≠ 0 then chF F else if (chkF ss).2 ≠ 0 then ((chkF ss).2 : Int) else if fuel < 0 ∨ 100000 < fuel then 3 else 0
def rnL (F : List Fl) (ss : List ByteArray) (fuel : Int) : List Fl := if rnE F ss fuel = 0 then (rnR F (lnsF ss.length ss) fuel.toNat).2 else []
def rnC (F : List Fl) (ss : List ByteArray) (fuel : Int) : Nat := if rnE F ss fuel = 0 then (rnR F (lnsF ss.length ss) fuel.toNat).1.code else 0
def rnS (F : List Fl) (ss : List ByteArray) (fuel : Int) : Nat := if rnE F ss fuel = 0 then fuel.toNat - (rnR F (lnsF ss.length ss) fuel.toNat).1.fuel else 0
/-- How Run ends. -/
def RnP (F : List Fl) (ss : List ByteArray) (fuel : Int) (w : World) (e : Ending) (w' : World) : Prop :=
  ∃ ra rc, e = .returned (.tuple #[.slice ra (rnL F ss fuel).length rc, .int .i64 (rnC F ss fuel : Int), .int .i64 (rnS F ss fuel : Int), .int .i64 (rnE F ss fuel)]) ∧ Hid (w'.ownsRow w.heap.size 35 3 (.slice ra (rnL F ss fuel).length rc) (rnL F ss fuel).length (flCells (rnL F ss fuel))) ∧ Hid (Below w.heap.size w w')
theorem rnP_err {F : List Fl} {ss : List ByteArray} {fuel : Int} {w w' : World} {er : Int} (he : rnE F ss fuel = er) (h0 : er ≠ 0) (hb : Below w.heap.size w w') : RnP F ss fuel w (.returned (.tuple #[.slice none 0 0, .int .i64 0, .int .i64 0, .int .i64 er])) w' := by
  have e1 : rnL F ss fuel = [] := by unfold rnL; rw [if_neg (by rw [he]; exact h0)]
  have e2 : rnC F ss fuel = 0 := by unfold rnC; rw [if_neg (by rw [he]; exact h0)]
  have e3 : rnS F ss fuel = 0 := by unfold rnS; rw [if_neg (by rw [he]; exact h0)]
  unfold RnP
  rw [e1, e2, e3, he]
  exact ⟨none, 0, rfl, ⟨rfl, .inl ⟨rfl, rfl⟩⟩, hb⟩

set_option maxHeartbeats 2000000 in
set_option maxRecDepth 100000 in
theorem newMachine_any (ao : Option Addr) (n cap fuel : Nat) (w : World) :
    Calls Tryz.prog 20 #[.slice ao n cap, .int .i64 (fuel : Int)] w fun e w' => e = .returned (.pointer (some ⟨w.heap.size + 1, 0, none⟩)) ∧ McAt w' (w.heap.size + 1) (setM (.slice ao n cap) w.heap.size (mz fuel)) ∧ w'.ownsMap Tryz.prog 9 fileE w.heap.size 0 (byD []) ∧ Below w.heap.size w w' := by
  have hmm := @run_makeMap Tryz.prog
  have h1 : ∀ o : Obj, Below w.heap.size w ((w.alloc (.map #[] 0)).alloc o) := fun o => ((Below.refl _ w).alloc (Nat.le_refl _) _).alloc (by rw [World.size_alloc]; omega) _
  have h2 : ∀ o : Obj, ((w.alloc (.map #[] 0)).alloc o).ownsMap Tryz.prog 9 fileE w.heap.size 0 (byD []) := fun o => (World.ownsMap_made (H := Unit) w Tryz.prog 9 fileE).alloc o
  have h3 : ∀ cs : Array Value, cs = (mcL (setM (.slice ao n cap) w.heap.size (mz fuel))).toArray → McAt ((w.alloc (.map #[] 0)).alloc (.cells cs 52)) (w.heap.size + 1) (setM (.slice ao n cap) w.heap.size (mz fuel)) := fun cs e => by
    refine ⟨?_, rfl⟩
    have := heap_alloc_new (w.alloc (.map #[] 0)) (.cells cs 52)
    rw [World.size_alloc] at this
    rw [this, e]
  have H1 : Hid (∀ o : Obj, Below w.heap.size w ((w.alloc (.map #[] 0)).alloc o)) := h1
  have H2 : Hid (∀ o : Obj, ((w.alloc (.map #[] 0)).alloc o).ownsMap Tryz.prog 9 fileE w.heap.size 0 (byD [])) := h2
  have H3 : Hid (∀ cs : Array Value, cs = (mcL (setM (.slice ao n cap) w.heap.size (mz fuel))).toArray → McAt ((w.alloc (.map #[] 0)).alloc (.cells cs 52)) (w.heap.size + 1) (setM (.slice ao n cap) w.heap.size (mz fuel))) := h3
  clear h1 h2 h3
  go_enter Tryz.func20, Tryz.ntmps20
  go_wp2
  go_ret
  exact ⟨rfl, H3.out _ rfl, H2.out _, H1.out _⟩

theorem lns_ok {ss : List ByteArray} (h : (chkF ss).2 = 0) : ss.length ≤ 60 ∧ ∀ l ∈ lnsF ss.length ss, LnOk l ∧ PaOk l ∧ (∃ f, frmF l.wd.data.toList = some f) ∧ l.wd.size ≤ 100000 := by
  unfold chkF at h
  split at h
  · cases h
  · rename_i hn
    have hlen : ss.length ≤ 60 := Nat.le_of_not_lt fun h => hn (.inl h)
    refine ⟨hlen, fun l hl => ?_⟩
    obtain ⟨s, hs, e⟩ := List.mem_filterMap.1 hl
    have hsz : s.data.toList.length ≤ 100000 := by
      rw [Array.length_toList]
      exact Nat.le_of_not_lt fun h => hn (.inr ⟨s, hs, h⟩)
    obtain ⟨o1, f, o2, o3⟩ := linF_ok hsz e
    refine ⟨o1, lin_pa hsz e, ⟨f, ?_⟩, ?_⟩
    · rw [o3]
      simpa [bA] using o2
    · rw [o3]
      have h1 : (bA (Lib.cut s.data.toList [32]).1).size = (Lib.cut s.data.toList [32]).1.length := List.size_toArray
      obtain ⟨r, hr⟩ := wdL_cut s.data.toList
      have h2 := wdL_mem s.data.toList [] (Lib.cut s.data.toList [32]).1 (by rw [hr]; exact List.mem_cons_self)
      simp at h2
      rw [h1]
      have h3 : s.data.toList.length = s.data.size := Array.length_toList
      have h4 : s.data.size = s.size := rfl
      omega

set_option maxHeartbeats 8000000 in
set_option maxRecDepth 100000 in
theorem Run_any (ao co : Option Addr) (cap ccap : Nat) (F : List Fl) (ss : List ByteArray) (fuel : Int) (w : World) (hl : IsFl w ao F) (ht : TxAt w co ss) (he : Env w) (hlen : ss.length ≤ 4611686018427387904) (hf1 : -9223372036854775808 ≤ fuel) (hf2 : fuel ≤ 9223372036854775807) :
    Calls Tryz.prog 9 #[.slice ao F.length cap, .slice co ss.length ccap, .int .i64 fuel] w (RnP F ss fuel w) := by
  have HC : Hid (Calls Tryz.prog 13 #[.slice ao F.length cap] w fun e w' => e = .returned (.int .i64 (chF F)) ∧ Hid (Below w.heap.size w w')) := Check_any ao cap F w hl he.1
  have HL : Hid (∀ V, Hid (Below w.heap.size w V) → Calls Tryz.prog 19 #[.slice co ss.length ccap] V fun e w' => ∃ v, e = .returned (.tuple #[v, .int .i64 ((chkF ss).1 : Int), .int .i64 ((chkF ss).2 : Int)]) ∧ Hid (Below w.heap.size w w' ∧ ((chkF ss).2 = 0 → w'.ownsRow V.heap.size 67 7 v ss.length (lnCells (lnsF ss.length ss)) ∧ (lnsF ss.length ss).length = ss.length))) := fun V hV =>
    (linesOf_any co ccap ss V (ht.below hV.out) (he.up hV.out).1 hlen).mono fun e w' ⟨v, q1, q2, q3⟩ => ⟨v, q1, below_low hV.out q2 hV.out.size, q3⟩
  have HK : Hid (IsFl w ao F ∧ Env w) := ⟨hl, he⟩
  have HER : Hid (rnE F ss fuel = if chF F ≠ 0 then chF F else if (chkF ss).2 ≠ 0 then ((chkF ss).2 : Int) else if fuel < 0 ∨ 100000 < fuel then 3 else 0) := rfl
  clear hl ht he hlen
  obtain ⟨c, hc⟩ : ∃ c, chF F = c := ⟨_, rfl⟩
  have HCF : Hid (chF F = c) := hc
  rw [hc] at HC HER
  obtain ⟨d, hd⟩ : ∃ d, (chkF ss).2 = d := ⟨_, rfl⟩
  have HDF : Hid ((chkF ss).2 = d) := hd
  rw [hd] at HL HER
  generalize (chkF ss).1 = d1 at HL
  clear hc hd
  by_cases hc0 : c = 0
  · subst hc0
    rw [if_neg (by simp)] at HER
    by_cases hd0 : d = 0
    · subst hd0
      rw [if_neg (by simp)] at HER
      by_cases hr : fuel < 0 ∨ 100000 < fuel
      · rw [if_pos hr] at HER
        by_cases hneg : fuel < 0
        · clear hr
          go_enter Tryz.func9, Tryz.ntmps9
          go_wp2_with (first
            | (go_at_call 13; refine HC.out.mono ?_; rintro e w1 ⟨rfl, H1⟩)
            | (go_at_call 19; refine (HL.out _ H1).mono ?_; rintro e w2 ⟨v, rfl, H2⟩)
            | go_in)
          refine bodyPost_ret (v := .tuple #[.slice none 0 0, .int .i64 0, .int .i64 0, .int .i64 3]) (by simp [results, Tryz.results9]) rfl ?_
          exact rnP_err HER.out (by decide) H2.out.1
        · have hbig : 100000 < fuel := hr.resolve_left hneg
          have hneg2 : 0 ≤ fuel := by omega
          clear hr hneg
          go_enter Tryz.func9, Tryz.ntmps9
          go_wp2_with (first
            | (go_at_call 13; refine HC.out.mono ?_; rintro e w1 ⟨rfl, H1⟩)
            | (go_at_call 19; refine (HL.out _ H1).mono ?_; rintro e w2 ⟨v, rfl, H2⟩)
            | go_in)
          refine bodyPost_ret (v := .tuple #[.slice none 0 0, .int .i64 0, .int .i64 0, .int .i64 3]) (by simp [results, Tryz.results9]) rfl ?_
          exact rnP_err HER.out (by decide) H2.out.1
      · rw [if_neg hr] at HER
        obtain ⟨fu, rfl⟩ : ∃ fu : Nat, fuel = (fu : Int) := ⟨fuel.toNat, by omega⟩
        have hfu : fu ≤ 100000 := by omega
        have hfui : (fu : Int) ≤ 100000 := by omega
        have hfu0 : (0 : Int) ≤ (fu : Int) := by omega
        have hFok : TrOk F := TrOk.of HCF.out
        obtain ⟨hss, hlns⟩ := lns_ok HDF.out
        have HR : Hid (∀ (w1 w2 w3 : World) (v : Value), Below w.heap.size w w2 → (w2.ownsRow w1.heap.size 67 7 v ss.length (lnCells (lnsF ss.length ss)) ∧ (lnsF ss.length ss).length = ss.length) → McAt w3 (w2.heap.size + 1) (setM (.slice ao F.length cap) w2.heap.size (mz fu)) → w3.ownsMap Tryz.prog 9 fileE w2.heap.size 0 (byD []) → Below w2.heap.size w2 w3 →
            Calls Tryz.prog 21 #[.pointer (some ⟨w2.heap.size + 1, 0, none⟩), v] w3 fun e w' => e = .returned (.tuple #[]) ∧ Hid (∃ m L n, rnR F (lnsF ss.length ss) fu = (m, L) ∧ McAt w' (w2.heap.size + 1) (setM (.slice ao F.length cap) w2.heap.size m) ∧ MOk m L ∧ n ≤ 100001 ∧ w'.ownsMap Tryz.prog 9 fileE w2.heap.size n (byD L) ∧ Below w2.heap.size w2 w' ∧ m.fuel ≤ fu)) := by
          intro w1 w2 w3 v hb2 hrow hmc hown hb3
          obtain ⟨hrow, hle⟩ := hrow
          have hrow : w2.ownsRow w1.heap.size 67 7 v (lnsF ss.length ss).length (lnCells (lnsF ss.length ss)) := by rw [hle]; exact hrow
          obtain ⟨lo, lcap, rfl, hls, hge⟩ := ls_own hrow
          have hls3 : LsAt w3 lo (lnsF ss.length ss) := hls.keep hb3.size (fun g _ hg => hb3.block g hg)
          refine (run_any F (lnsF ss.length ss) ao lo cap lcap (w2.heap.size + 1) w2.heap.size (setM (.slice ao F.length cap) w2.heap.size (mz fu)) w2 w3 hb3 (by omega) (Nat.le_refl _) (by omega) (HK.out.2.up hb2) (HK.out.1.below hb2 (Nat.le_refl _)) hFok hmc rfl rfl ((mz_ok fu).tx_same rfl) rfl hfu hown hls3 (fun g e => by have := hge g e; omega) (by rw [hle]; omega) hlns).mono ?_
          rintro e w' ⟨rfl, m, L, n, H⟩
          obtain ⟨k1, k2, k3, k4, k5, k6, _⟩ := H.out
          have k1 : runM F (lnsF ss.length ss) (fu + 1) (setM (.slice ao F.length cap) w2.heap.size (mz fu)) [] = (m, L) := k1
          rw [run_set] at k1
          have k0 : rnR F (lnsF ss.length ss) fu = runM F (lnsF ss.length ss) (fu + 1) (mz fu) [] := rfl
          rw [← k0] at k1
          injection k1 with k1a k1b
          have hfl := run_fuel (F := F) (ls := lnsF ss.length ss) (fu + 1) (mz fu) []
          rw [← k0] at hfl
          have hok2 : MOk (rnR F (lnsF ss.length ss) fu).1 L := k3.tx_same (by rw [← k1a]; rfl)
          refine ⟨rfl, (rnR F (lnsF ss.length ss) fu).1, L, n, by rw [← k1b], by rw [k1a]; exact k2, hok2, k4, k5, ?_, hfl⟩
          exact below_low hb3 (k6.below (by omega) (by omega) hb3.size) (Nat.le_refl _)
        have HLN : Hid (∀ m L, rnR F (lnsF ss.length ss) fu = (m, L) → rnE F ss fu = 0 → rnL F ss fu = L ∧ rnC F ss fu = m.code ∧ rnS F ss fu = fu - m.fuel) := fun m L e1 e2 => by
          unfold rnL rnC rnS
          rw [if_pos e2, if_pos e2, if_pos e2, Int.toNat_natCast, e1]
          exact ⟨rfl, rfl, rfl⟩
        have HL2 : Hid (∀ V, Hid (Below w.heap.size w V) → Calls Tryz.prog 19 #[.slice co ss.length ccap] V fun e w' => ∃ v, e = .returned (.tuple #[v, .int .i64 (d1 : Int), .int .i64 0]) ∧ Hid (Below w.heap.size w w' ∧ w'.ownsRow V.heap.size 67 7 v ss.length (lnCells (lnsF ss.length ss)) ∧ (lnsF ss.length ss).length = ss.length)) := fun V hV => (HL.out V hV).mono fun e w' ⟨v, q1, q2⟩ => ⟨v, q1, q2.out.1, q2.out.2 rfl⟩
        clear hr hFok hlns
        go_enter Tryz.func9, Tryz.ntmps9
        go_wp2_with (first
          | (go_at_call 13; refine HC.out.mono ?_; rintro e w1 ⟨rfl, H1⟩)
          | (go_at_call 19; refine (HL2.out _ H1).mono ?_; rintro e w2 ⟨v, rfl, H2⟩)
          | (go_at_call 20; refine (newMachine_any ao F.length cap fu _).mono ?_; rintro e w3 ⟨rfl, q1, q2, q3⟩; have H3 : Hid (McAt w3 (w2.heap.size + 1) (setM (.slice ao F.length cap) w2.heap.size (mz fu)) ∧ w3.ownsMap Tryz.prog 9 fileE w2.heap.size 0 (byD []) ∧ Below w2.heap.size w2 w3) := ⟨q1, q2, q3⟩; clear q1 q2 q3)
          | (go_at_call 21; refine (HR.out w1 w2 w3 v H2.out.1 H2.out.2 H3.out.1 H3.out.2.1 H3.out.2.2).mono ?_; rintro e w4 ⟨rfl, H4⟩)
          | go_in)
        obtain ⟨P, hP⟩ : ∃ P, P = w2.heap.size + 1 := ⟨_, rfl⟩
        obtain ⟨m, L, n, g1, g2, g3, g4, g5, g6, g7⟩ := H4.out
        rw [← hP] at g2 ⊢
        obtain ⟨z1, z2, z3⟩ := HLN.out m L g1 HER.out
        have s1 : w4.cell? ⟨P, 13, none⟩ = some (.int .i64 (m.code : Int)) := g2.c13
        have s2 : w4.cell? ⟨P, 10, none⟩ = some (.int .i64 (m.fuel : Int)) := g2.c10
        have HM : Hid (Calls Tryz.prog 22 #[.pointer (some ⟨P, 0, none⟩)] w4.drew fun e w' => ∃ v, e = .returned v ∧ (w'.cell? ⟨P, 13, none⟩ = some (.int .i64 (m.code : Int)) ∧ w'.cell? ⟨P, 10, none⟩ = some (.int .i64 (m.fuel : Int))) ∧ Hid (w'.ownsRow w4.heap.size 35 3 v L.length (flCells L) ∧ Below w4.heap.size w4 w')) := by
          refine (madeFiles_any (setM (.slice ao F.length cap) w2.heap.size m) P n L w4.drew ⟨g2.at_, g2.len⟩ (ownsMap_heap g5 rfl) (by omega) g3.tr.up (by have := g3.tr.ln; omega)).mono ?_
          rintro e w' ⟨v, k1, k2, k3⟩
          have k3 : Below w4.heap.size w4 w' := ⟨k3.os, k3.tape, k3.output, k3.size, k3.block⟩
          have m5 := g2.below k3
          exact ⟨v, k1, ⟨m5.c13, m5.c10⟩, k2, k3⟩
        have HS : Hid (w4.drew.cell? ⟨P, 13, none⟩ = some (.int .i64 (m.code : Int)) ∧ w4.drew.cell? ⟨P, 10, none⟩ = some (.int .i64 (m.fuel : Int))) := ⟨s1, s2⟩
        obtain ⟨sp, hsp⟩ : ∃ sp : Nat, fu - m.fuel = sp := ⟨_, rfl⟩
        have e5 : (fu : Int) - (m.fuel : Int) = (sp : Int) := by omega
        have e6 : IntKind.i64.wrap (sp : Int) = (sp : Int) := by rw [IntKind.wrap_i64]; omega
        have HZ : Hid (rnL F ss fu = L ∧ rnC F ss fu = m.code ∧ rnS F ss fu = sp ∧ Below w.heap.size w w4) := ⟨z1, z2, z3.trans hsp, below_low H2.out.1 g6 H2.out.1.size⟩
        clear g1 g2 g3 g4 g5 g6 g7 z1 z2 z3 hsp hP H4 H3
        generalize (m.fuel : Int) = mf at *
        generalize m.code = mc at *
        go_region_held3 (fun V => V.cell? ⟨P, 13, none⟩ = some (.int .i64 (mc : Int)) ∧ V.cell? ⟨P, 10, none⟩ = some (.int .i64 mf)) (first | assumption | exact HS.out | go_keep) (first
          | (go_at_call 22; refine HM.out.mono ?_; rintro e w5 ⟨v5, rfl, hS5, H5⟩)
          | fail)
        go_wp2
        refine bodyPost_ret (v := .tuple #[v5, .int .i64 (mc : Int), .int .i64 (sp : Int), .int .i64 0]) (by simp [results, Tryz.results9]) rfl ?_
        unfold RnP
        obtain ⟨z1, z2, z3, z4⟩ := HZ.out
        rw [z1, z2, z3, HER.out]
        have hr5 := row_low H5.out.1 z4.size
        obtain ⟨ra, rc, rfl⟩ : ∃ ra rc, v5 = .slice ra L.length rc := by
          rcases hr5.2 with ⟨h1, h2⟩ | ⟨g, cap, cur, hv, _⟩
          · exact ⟨none, 0, by rw [h1, h2]⟩
          · exact ⟨_, _, hv⟩
        exact ⟨ra, rc, rfl, hr5, below_low z4 H5.out.2 z4.size⟩
    · rw [if_pos hd0] at HER
      have hdi : ((d : Int) == 0) = false := by simp; omega
      have hdn : ¬ (d : Int) = 0 := by omega
      go_enter Tryz.func9, Tryz.ntmps9
      go_wp2_with (first
        | (go_at_call 13; refine HC.out.mono ?_; rintro e w1 ⟨rfl, H1⟩)
        | (go_at_call 19; refine (HL.out _ H1).mono ?_; rintro e w2 ⟨v, rfl, H2⟩)
        | go_in)
      refine bodyPost_ret (v := .tuple #[.slice none 0 0, .int .i64 0, .int .i64 0, .int .i64 (d : Int)]) (by simp [results, Tryz.results9]) rfl ?_
      exact rnP_err HER.out hdn H2.out.1
  · rw [if_pos hc0] at HER
    have hci : (c == 0) = false := by simpa using hc0
    go_enter Tryz.func9, Tryz.ntmps9
    go_wp2_with (first
      | (go_at_call 13; refine HC.out.mono ?_; rintro e w1 ⟨rfl, H1⟩)
      | go_in)
    refine bodyPost_ret (v := .tuple #[.slice none 0 0, .int .i64 0, .int .i64 0, .int .i64 c]) (by simp [results, Tryz.results9]) rfl ?_
    exact rnP_err HER.out hc0 H1.out
end Go.Proofs.YtapiedeekbfpnaaGreatDoor

/- What a line burns, and what it comes to if there is as much; more fuel, and less. -/
namespace Go.Proofs.YtapiedeekbfpnaaGreatDoor
open Go.RowKit Go.Shelf Go.Maps Go.WideMaps Go.Sort

/-- The text that a line puts, if it puts one and there is one. -/
def txR (F : List Fl) (m : Mc) (l : Ln) : Option ByteArray := match wkF l with
  | 0 => some l.tx
  | 1 => (fndF F l.pa).map Fl.tx
  | 2 => some (lstF F l.pa)
  | 3 => some (jnF (txF m l.r) (txF m l.s))
  | 4 => some (cutM (txF m l.r) l.n l.m)
  | 5 => some (szF (txF m l.s))
  | _ => some (smD (txF m l.r))
/-- What a line burns. -/
def cst (F L : List Fl) (m : Mc) (l : Ln) : Nat :=
  if wkF l ≤ 6 then (match txR F m l with
    | none => 1
    | some t => if 100000 < t.size then 1 else 1 + t.size / 16)
  else if wkF l ≤ 8 then (if mayF L l.pa = true then 1 + (txF m l.r).size / 16 else 1)
  else 1
/-- What a line comes to, its fuel aside. -/
def fin (F L : List Fl) (m : Mc) (l : Ln) : Mc :=
  if wkF l ≤ 6 then (match txR F m l with
    | none => { m with ended := true, code := 101 }
    | some t => if 100000 < t.size then { m with ended := true, code := 102 } else { m with tx := m.tx.set l.r t })
  else if wkF l ≤ 8 then (if mayF L l.pa = true then m else { m with ended := true, code := 103 })
  else if wkF l = 9 then (if (txF m l.r).data.toList = (txF m l.s).data.toList then { m with next := l.n } else m)
  else if wkF l = 10 then (if (txF m l.r).data.toList < (txF m l.s).data.toList then { m with next := l.n } else m)
  else if wkF l = 11 then { m with next := l.n }
  else { m with ended := true, code := l.n }
def finL (L : List Fl) (m : Mc) (l : Ln) : List Fl := if (wkF l = 7 ∨ wkF l = 8) ∧ mayF L l.pa = true then putF L ⟨l.pa, txF m l.r, decide (wkF l = 8)⟩ else L
def outM (m : Mc) : Mc := { m with fuel := 0, ended := true, code := 104 }
def wF (m : Mc) (x : Nat) : Mc := { m with fuel := x }

theorem burn_eq (m : Mc) (b : Nat) : burnM m b = if m.fuel < 1 + b / 16 then (outM m, false) else (wF m (m.fuel - (1 + b / 16)), true) := rfl
theorem end_eq (m : Mc) (c : Nat) : endM m c = if m.fuel < 1 then outM m else wF { m with ended := true, code := c } (m.fuel - 1) := by
  unfold endM
  rw [burn_eq]
  show (if (if m.fuel < 1 then (outM m, false) else (wF m (m.fuel - 1), true)).2 = true then _ else _) = _
  by_cases h : m.fuel < 1
  · simp [h]
  · simp [h]
    rfl
theorem put_eq (m : Mc) (r : Nat) (t : ByteArray) (h : ¬ 100000 < t.size) : putM m r t = if m.fuel < 1 + t.size / 16 then outM m else wF { m with tx := m.tx.set r t } (m.fuel - (1 + t.size / 16)) := by
  unfold putM
  rw [if_neg h, burn_eq]
  by_cases h : m.fuel < 1 + t.size / 16
  · simp [h]
  · simp [h]
    rfl
theorem put_eq2 (m : Mc) (r : Nat) (t : ByteArray) (h : 100000 < t.size) : putM m r t = endM m 102 := by
  unfold putM
  rw [if_pos h]
theorem go_eq (m : Mc) (b : Bool) (n : Nat) : goM m b n = if m.fuel < 1 then outM m else wF (if b = true then { m with next := n } else m) (m.fuel - 1) := by
  unfold goM
  rw [burn_eq]
  show (if ((if m.fuel < 1 then (outM m, false) else (wF m (m.fuel - 1), true)).2 && b) = true then _ else _) = _
  by_cases h : m.fuel < 1
  · simp [h]
  · cases b <;> simp [h] <;> rfl
theorem mk_eq (m : Mc) (L : List Fl) (f : Fl) : mkM m L f = if mayF L f.pa = true then (if m.fuel < 1 + f.tx.size / 16 then outM m else wF m (m.fuel - (1 + f.tx.size / 16))) else endM m 103 := by
  unfold mkM
  rw [burn_eq]
  split
  · split <;> rfl
  · rfl
theorem putD_eq (F L : List Fl) (m : Mc) (l : Ln) (hk : wkF l ≤ 6) (t : ByteArray) (ht : txR F m l = some t) : putM m l.r t = if m.fuel < cst F L m l then outM m else wF (fin F L m l) (m.fuel - cst F L m l) := by
  unfold cst fin
  rw [if_pos hk, if_pos hk, ht]
  simp only
  by_cases h : 100000 < t.size
  · rw [if_pos h, if_pos h, put_eq2 m _ t h, end_eq]
  · rw [if_neg h, if_neg h, put_eq m _ t h]
theorem do_eq (F L : List Fl) (m : Mc) (l : Ln) : doM F L m l = if m.fuel < cst F L m l then outM m else wF (fin F L m l) (m.fuel - cst F L m l) := by
  by_cases h6 : wkF l ≤ 6
  · match hk : wkF l, h6 with
    | 0, _ => rw [show doM F L m l = putM m l.r l.tx by unfold doM; simp only [hk]]; exact putD_eq F L m l (by omega) _ (by unfold txR; simp only [hk])
    | 1, _ =>
      cases hf : fndF F l.pa with
      | none =>
        rw [show doM F L m l = endM m 101 by unfold doM; simp only [hk, hf], end_eq]
        have e : txR F m l = none := by unfold txR; simp only [hk, hf]; rfl
        have ec : cst F L m l = 1 := by unfold cst; rw [if_pos (by omega), e]
        have ef : fin F L m l = { m with ended := true, code := 101 } := by unfold fin; rw [if_pos (by omega), e]
        rw [ec, ef]
      | some f =>
        rw [show doM F L m l = putM m l.r f.tx by unfold doM; simp only [hk, hf]]
        exact putD_eq F L m l (by omega) _ (by unfold txR; simp only [hk, hf]; rfl)
    | 2, _ => rw [show doM F L m l = putM m l.r (lstF F l.pa) by unfold doM; simp only [hk]]; exact putD_eq F L m l (by omega) _ (by unfold txR; simp only [hk])
    | 3, _ => rw [show doM F L m l = putM m l.r (jnF (txF m l.r) (txF m l.s)) by unfold doM; simp only [hk]]; exact putD_eq F L m l (by omega) _ (by unfold txR; simp only [hk])
    | 4, _ => rw [show doM F L m l = putM m l.r (cutM (txF m l.r) l.n l.m) by unfold doM; simp only [hk]]; exact putD_eq F L m l (by omega) _ (by unfold txR; simp only [hk])
    | 5, _ => rw [show doM F L m l = putM m l.r (szF (txF m l.s)) by unfold doM; simp only [hk]]; exact putD_eq F L m l (by omega) _ (by unfold txR; simp only [hk])
    | 6, _ => rw [show doM F L m l = putM m l.r (smD (txF m l.r)) by unfold doM; simp only [hk]]; exact putD_eq F L m l (by omega) _ (by unfold txR; simp only [hk])
  · unfold cst fin
    rw [if_neg h6, if_neg h6]
    by_cases h8 : wkF l ≤ 8
    · rw [if_pos h8, if_pos h8]
      have e : ∃ b, doM F L m l = mkM m L ⟨l.pa, txF m l.r, b⟩ := by
        rcases (show wkF l = 7 ∨ wkF l = 8 by omega) with hk | hk
        · exact ⟨false, by unfold doM; simp only [hk]⟩
        · exact ⟨true, by unfold doM; simp only [hk]⟩
      obtain ⟨b, e⟩ := e
      rw [e, mk_eq]
      simp only
      split
      · rfl
      · exact end_eq m 103
    · rw [if_neg h8, if_neg h8]
      by_cases h9 : wkF l = 9
      · rw [if_pos h9, show doM F L m l = goM m (decide ((txF m l.r).data.toList = (txF m l.s).data.toList)) l.n by unfold doM; simp only [h9], go_eq]
        simp only [decide_eq_true_eq]
      · rw [if_neg h9]
        by_cases h10 : wkF l = 10
        · rw [if_pos h10, show doM F L m l = goM m (decide ((txF m l.r).data.toList < (txF m l.s).data.toList)) l.n by unfold doM; simp only [h10], go_eq]
          simp only [decide_eq_true_eq]
        · rw [if_neg h10]
          by_cases h11 : wkF l = 11
          · rw [if_pos h11, show doM F L m l = goM m true l.n by unfold doM; simp only [h11], go_eq]
            rfl
          · rw [if_neg h11]
            have e : doM F L m l = endM m l.n := by
              unfold doM
              split <;> first | omega | rfl
            rw [e, end_eq]
theorem doL_eq (F L : List Fl) (m : Mc) (l : Ln) : doL L m l = if m.fuel < cst F L m l then L else finL L m l := by
  by_cases h : wkF l = 7 ∨ wkF l = 8
  · have e : doL L m l = mkL m L ⟨l.pa, txF m l.r, decide (wkF l = 8)⟩ := by
      rcases h with h | h
      · unfold doL; simp only [h]; rfl
      · unfold doL; simp only [h]; rfl
    rw [e]
    have ec : cst F L m l = if mayF L l.pa = true then 1 + (txF m l.r).size / 16 else 1 := by unfold cst; rw [if_neg (by omega), if_pos (by omega)]
    rw [ec]
    unfold mkL finL
    rw [burn_eq]
    by_cases hm : mayF L l.pa = true
    · simp only [hm, if_true, h, and_self, true_and]
      by_cases hb : m.fuel < 1 + (txF m l.r).size / 16
      · simp [hb]
      · simp [hb]
    · simp [hm]
  · have e : doL L m l = L := by
      unfold doL
      split
      · exact absurd (Or.inl (by assumption)) h
      · exact absurd (Or.inr (by assumption)) h
      · rfl
    have e2 : finL L m l = L := by unfold finL; rw [if_neg (fun hh => h hh.1)]
    rw [e, e2]
    split <;> rfl
theorem cst_pos (F L : List Fl) (m : Mc) (l : Ln) : 1 ≤ cst F L m l := by
  unfold cst
  repeat' split
  all_goals omega
theorem cst_w (F L : List Fl) (m : Mc) (l : Ln) (x : Nat) : cst F L (wF m x) l = cst F L m l := rfl
theorem fin_w (F L : List Fl) (m : Mc) (l : Ln) (x y : Nat) : wF (fin F L (wF m x) l) y = wF (fin F L m l) y := by
  have e : txR F (wF m x) l = txR F m l := rfl
  have e2 : ∀ i, txF (wF m x) i = txF m i := fun _ => rfl
  unfold fin
  rw [e]
  simp only [e2]
  repeat' split
  all_goals rfl
theorem finL_w (L : List Fl) (m : Mc) (l : Ln) (x : Nat) : finL L (wF m x) l = finL L m l := rfl
/-- One step: there was too little fuel, or there was enough. -/
theorem step_eq (F : List Fl) (ls : List Ln) (k : Nat) (m : Mc) (L : List Fl) (h : stp ls m = false) :
    runM F ls (k + 1) m L = if m.fuel < cst F L (nxM m) (lnAt ls m) then (outM (nxM m), L) else runM F ls k (wF (fin F L (nxM m) (lnAt ls m)) (m.fuel - cst F L (nxM m) (lnAt ls m))) (finL L (nxM m) (lnAt ls m)) := by
  rw [runM_go F ls m L h, do_eq, doL_eq F]
  have e : (nxM m).fuel = m.fuel := rfl
  rw [e]
  split
  · exact runM_stp F ls _ _ (by unfold stp outM; rfl) k
  · rfl
theorem wF_w (m : Mc) (x y : Nat) : wF (wF m x) y = wF m y := rfl
theorem wF_self (m : Mc) : wF m m.fuel = m := rfl
theorem stp_w (ls : List Ln) (m : Mc) (x : Nat) : stp ls (wF m x) = stp ls m := rfl
theorem lnAt_w (ls : List Ln) (m : Mc) (x : Nat) : lnAt ls (wF m x) = lnAt ls m := rfl
/-- It did not end for want of fuel. -/
def Fed (m : Mc) : Prop := m.ended = true → m.code ≠ 104
/-- With more fuel it comes to the same. -/
theorem run_more (F : List Fl) (ls : List Ln) (d : Nat) : ∀ (k : Nat) (m : Mc) (L : List Fl), Fed (runM F ls k m L).1 → runM F ls k (wF m (m.fuel + d)) L = (wF (runM F ls k m L).1 ((runM F ls k m L).1.fuel + d), (runM F ls k m L).2)
  | 0, m, L, _ => rfl
  | k + 1, m, L, h => by
    by_cases hs : stp ls m = true
    · rw [runM_stp F ls m L hs, runM_stp F ls _ L (by rw [stp_w]; exact hs)]
    · have hs : stp ls m = false := by simpa using hs
      rw [step_eq F ls k m L hs] at h ⊢
      rw [step_eq F ls k (wF m (m.fuel + d)) L (by rw [stp_w]; exact hs)]
      have e1 : nxM (wF m (m.fuel + d)) = wF (nxM m) (m.fuel + d) := rfl
      have e2 : (wF m (m.fuel + d)).fuel = m.fuel + d := rfl
      rw [lnAt_w, e1, cst_w, e2, fin_w, finL_w]
      by_cases hc : m.fuel < cst F L (nxM m) (lnAt ls m)
      · rw [if_pos hc] at h
        exact absurd rfl (h rfl)
      · rw [if_neg hc] at h ⊢
        rw [if_neg (by omega)]
        have ih := run_more F ls d k (wF (fin F L (nxM m) (lnAt ls m)) (m.fuel - cst F L (nxM m) (lnAt ls m))) (finL L (nxM m) (lnAt ls m)) h
        have e3 : (wF (fin F L (nxM m) (lnAt ls m)) (m.fuel - cst F L (nxM m) (lnAt ls m))).fuel = m.fuel - cst F L (nxM m) (lnAt ls m) := rfl
        rw [e3, wF_w] at ih
        rw [show m.fuel + d - cst F L (nxM m) (lnAt ls m) = m.fuel - cst F L (nxM m) (lnAt ls m) + d by omega]
        exact ih
/-- With so much less that enough is left, too. -/
theorem run_less (F : List Fl) (ls : List Ln) (d : Nat) : ∀ (k : Nat) (m : Mc) (L : List Fl), Fed (runM F ls k m L).1 → d ≤ (runM F ls k m L).1.fuel → runM F ls k (wF m (m.fuel - d)) L = (wF (runM F ls k m L).1 ((runM F ls k m L).1.fuel - d), (runM F ls k m L).2)
  | 0, m, L, _, _ => rfl
  | k + 1, m, L, h, hd => by
    by_cases hs : stp ls m = true
    · rw [runM_stp F ls m L hs, runM_stp F ls _ L (by rw [stp_w]; exact hs)]
    · have hs : stp ls m = false := by simpa using hs
      rw [step_eq F ls k m L hs] at h hd ⊢
      rw [step_eq F ls k (wF m (m.fuel - d)) L (by rw [stp_w]; exact hs)]
      have e1 : nxM (wF m (m.fuel - d)) = wF (nxM m) (m.fuel - d) := rfl
      have e2 : (wF m (m.fuel - d)).fuel = m.fuel - d := rfl
      rw [lnAt_w, e1, cst_w, e2, fin_w, finL_w]
      by_cases hc : m.fuel < cst F L (nxM m) (lnAt ls m)
      · rw [if_pos hc] at h
        exact absurd rfl (h rfl)
      · rw [if_neg hc] at h hd ⊢
        have hle := run_fuel (F := F) (ls := ls) k (wF (fin F L (nxM m) (lnAt ls m)) (m.fuel - cst F L (nxM m) (lnAt ls m))) (finL L (nxM m) (lnAt ls m))
        have e3 : (wF (fin F L (nxM m) (lnAt ls m)) (m.fuel - cst F L (nxM m) (lnAt ls m))).fuel = m.fuel - cst F L (nxM m) (lnAt ls m) := rfl
        rw [e3] at hle
        rw [if_neg (by omega)]
        have ih := run_less F ls d k (wF (fin F L (nxM m) (lnAt ls m)) (m.fuel - cst F L (nxM m) (lnAt ls m))) (finL L (nxM m) (lnAt ls m)) h hd
        rw [e3, wF_w] at ih
        rw [show m.fuel - d - cst F L (nxM m) (lnAt ls m) = m.fuel - cst F L (nxM m) (lnAt ls m) - d by omega]
        exact ih
/-- As many rounds as there is fuel, and one, are enough. -/
theorem run_stops (F : List Fl) (ls : List Ln) : ∀ (k : Nat) (m : Mc) (L : List Fl), (m.ended = true ∨ m.fuel < k) → stp ls (runM F ls k m L).1 = true
  | 0, m, L, h => by
    have h : m.ended = true := h.resolve_right (by omega)
    show stp ls m = true
    unfold stp
    rw [h]
    rfl
  | k + 1, m, L, h => by
    by_cases hs : stp ls m = true
    · rw [runM_stp F ls m L hs]; exact hs
    · have hs : stp ls m = false := by simpa using hs
      rw [runM_go F ls m L hs]
      have he : m.ended = false := by unfold stp at hs; rw [Bool.or_eq_false_iff] at hs; exact hs.1
      have hf : m.fuel < k + 1 := h.resolve_left (by rw [he]; simp)
      have g := (do_goes F L (nxM m) (lnAt ls m)).1
      have e : (nxM m).fuel = m.fuel := rfl
      rw [e] at g
      refine run_stops F ls k _ _ ?_
      rcases g with g | g
      · exact .inr (by omega)
      · exact .inl g
theorem run_rounds (F : List Fl) (ls : List Ln) (j : Nat) : ∀ (k : Nat) (m : Mc) (L : List Fl), stp ls (runM F ls k m L).1 = true → runM F ls (k + j) m L = runM F ls k m L
  | 0, m, L, h => by rw [Nat.zero_add, runM_stp F ls m L h]; rfl
  | k + 1, m, L, h => by
    by_cases hs : stp ls m = true
    · rw [runM_stp F ls m L hs, runM_stp F ls m L hs]
    · have hs : stp ls m = false := by simpa using hs
      rw [runM_go F ls m L hs] at h ⊢
      rw [show k + 1 + j = (k + j) + 1 by omega, runM_go F ls m L hs]
      exact run_rounds F ls j k _ _ h
theorem rnR_rounds (F : List Fl) (ls : List Ln) (f k : Nat) (h : f + 1 ≤ k) : runM F ls k (mz f) [] = rnR F ls f := by
  have := run_rounds F ls (k - (f + 1)) (f + 1) (mz f) [] (run_stops F ls (f + 1) (mz f) [] (.inr (Nat.lt_succ_self f)))
  rw [show f + 1 + (k - (f + 1)) = k by omega] at this
  exact this
/-- More fuel. -/
theorem rn_more (F : List Fl) (ls : List Ln) (f d : Nat) (h : Fed (rnR F ls f).1) : rnR F ls (f + d) = (wF (rnR F ls f).1 ((rnR F ls f).1.fuel + d), (rnR F ls f).2) := by
  have h1 := run_more F ls d (f + d + 1) (mz f) []
  rw [rnR_rounds F ls f (f + d + 1) (by omega)] at h1
  exact h1 h
/-- Just what was burnt. -/
theorem rn_just (F : List Fl) (ls : List Ln) (f : Nat) (h : Fed (rnR F ls f).1) : rnR F ls (f - (rnR F ls f).1.fuel) = (wF (rnR F ls f).1 0, (rnR F ls f).2) := by
  have h1 := run_less F ls (rnR F ls f).1.fuel (f + 1) (mz f) [] h (Nat.le_refl _)
  have e : wF (mz f) ((mz f).fuel - (rnR F ls f).1.fuel) = mz (f - (rnR F ls f).1.fuel) := rfl
  rw [e, rnR_rounds F ls _ (f + 1) (by omega)] at h1
  rw [h1]
  show (wF (rnR F ls f).1 ((rnR F ls f).1.fuel - (rnR F ls f).1.fuel), (rnR F ls f).2) = _
  rw [Nat.sub_self]
end Go.Proofs.YtapiedeekbfpnaaGreatDoor

/- How a run ends, plain: its code, and what is left. -/
namespace Go.Proofs.YtapiedeekbfpnaaGreatDoor
open Go.RowKit Go.Shelf Go.Maps Go.WideMaps Go.Sort

/-- A line ends by a number below 100. -/
def ExOk (l : Ln) : Prop := 12 ≤ wkF l → l.n ≤ 99
structure CdOk (m : Mc) : Prop where
  out : m.code = 104 → m.fuel = 0
  cod : m.code ≤ 99 ∨ (101 ≤ m.code ∧ m.code ≤ 104)
  run : m.ended = false → m.code = 0
theorem fin_code {F L : List Fl} {m : Mc} {l : Ln} (h : m.code = 0) (hx : ExOk l) : ((fin F L m l).code ≤ 99 ∨ (101 ≤ (fin F L m l).code ∧ (fin F L m l).code ≤ 103)) ∧ ((fin F L m l).ended = false → (fin F L m l).code = 0) := by
  unfold fin
  by_cases h6 : wkF l ≤ 6
  · rw [if_pos h6]
    split
    · exact ⟨.inr ⟨by show 101 ≤ 101; decide, by show 101 ≤ 103; decide⟩, fun e => by cases e⟩
    · split
      · exact ⟨.inr ⟨by show 101 ≤ 102; decide, by show 102 ≤ 103; decide⟩, fun e => by cases e⟩
      · exact ⟨.inl (by show m.code ≤ 99; omega), fun _ => h⟩
  · rw [if_neg h6]
    by_cases h8 : wkF l ≤ 8
    · rw [if_pos h8]
      split
      · exact ⟨.inl (by omega), fun _ => h⟩
      · exact ⟨.inr ⟨by show 101 ≤ 103; decide, by show 103 ≤ 103; decide⟩, fun e => by cases e⟩
    · rw [if_neg h8]
      by_cases h9 : wkF l = 9
      · rw [if_pos h9]
        split
        · exact ⟨.inl (by show m.code ≤ 99; omega), fun _ => h⟩
        · exact ⟨.inl (by omega), fun _ => h⟩
      · rw [if_neg h9]
        by_cases h10 : wkF l = 10
        · rw [if_pos h10]
          split
          · exact ⟨.inl (by show m.code ≤ 99; omega), fun _ => h⟩
          · exact ⟨.inl (by omega), fun _ => h⟩
        · rw [if_neg h10]
          by_cases h11 : wkF l = 11
          · rw [if_pos h11]
            exact ⟨.inl (by show m.code ≤ 99; omega), fun _ => h⟩
          · rw [if_neg h11]
            exact ⟨.inl (hx (by omega)), fun e => by cases e⟩
theorem run_code {F : List Fl} {ls : List Ln} (hl : ∀ l ∈ ls, ExOk l) : ∀ (k : Nat) (m : Mc) (L : List Fl), CdOk m → CdOk (runM F ls k m L).1
  | 0, _, _, h => h
  | k + 1, m, L, h => by
    by_cases hs : stp ls m = true
    · rw [runM_stp F ls m L hs]; exact h
    · have hs : stp ls m = false := by simpa using hs
      rw [step_eq F ls k m L hs]
      have he : m.ended = false := by unfold stp at hs; rw [Bool.or_eq_false_iff] at hs; exact hs.1
      have hn : m.next < ls.length := by
        unfold stp at hs
        rw [Bool.or_eq_false_iff] at hs
        have := of_decide_eq_false hs.2
        omega
      have hx : ExOk (lnAt ls m) := by
        unfold lnAt
        rw [List.getD_eq_getElem?_getD, List.getElem?_eq_getElem hn]
        exact hl _ (List.getElem_mem hn)
      split
      · exact ⟨fun _ => rfl, .inr ⟨by show 101 ≤ 104; decide, by show 104 ≤ 104; decide⟩, fun e => by cases e⟩
      · refine run_code hl k _ _ ?_
        have h0 : (nxM m).code = 0 := h.run he
        obtain ⟨c1, c2⟩ := fin_code (F := F) (L := L) (m := nxM m) (l := lnAt ls m) h0 hx
        exact ⟨fun e => by
          have e : (fin F L (nxM m) (lnAt ls m)).code = 104 := e
          omega, by
          show (fin F L (nxM m) (lnAt ls m)).code ≤ 99 ∨ (101 ≤ (fin F L (nxM m) (lnAt ls m)).code ∧ (fin F L (nxM m) (lnAt ls m)).code ≤ 104)
          omega, c2⟩
theorem mz_cd (f : Nat) : CdOk (mz f) := ⟨fun e => absurd e (by show ¬ (0 : Nat) = 104; decide), .inl (Nat.zero_le _), fun _ => rfl⟩
theorem rn_code {F : List Fl} {ls : List Ln} (hl : ∀ l ∈ ls, ExOk l) (f : Nat) : CdOk (rnR F ls f).1 := run_code hl _ _ _ (mz_cd f)
theorem takP_n5 {lines : Nat} {l l' : Ln} {g : List UInt8} (e : takP lines 5 l g = some l') : l'.n ≤ 99 := by
  have e : (numF g).bind (fun v => if v ≤ 99 then some { l with n := v } else Option.none) = some l' := e
  obtain ⟨v, _, e⟩ := Option.bind_eq_some_iff.1 e
  split at e
  · rename_i h
    obtain rfl := Option.some.inj e
    exact h
  · cases e
/-- The form of a line, by its word. -/
theorem frm_all : ∀ j, j < 13 → ∃ p, frmL[j]? = some p ∧ wrdL[j]? = some p.1 ∧ frmF p.1 = some p.2 := by
  intro j hj
  match j, hj with
  | 0, _ => exact ⟨_, rfl, rfl, rfl⟩
  | 1, _ => exact ⟨_, rfl, rfl, rfl⟩
  | 2, _ => exact ⟨_, rfl, rfl, rfl⟩
  | 3, _ => exact ⟨_, rfl, rfl, rfl⟩
  | 4, _ => exact ⟨_, rfl, rfl, rfl⟩
  | 5, _ => exact ⟨_, rfl, rfl, rfl⟩
  | 6, _ => exact ⟨_, rfl, rfl, rfl⟩
  | 7, _ => exact ⟨_, rfl, rfl, rfl⟩
  | 8, _ => exact ⟨_, rfl, rfl, rfl⟩
  | 9, _ => exact ⟨_, rfl, rfl, rfl⟩
  | 10, _ => exact ⟨_, rfl, rfl, rfl⟩
  | 11, _ => exact ⟨_, rfl, rfl, rfl⟩
  | 12, _ => exact ⟨_, rfl, rfl, rfl⟩
  | j + 13, h => omega
theorem lin_form {lines : Nat} {s : List UInt8} {l : Ln} (hs : s.length ≤ 100000) (h : linF lines s = some l) : wkF l < 13 ∧ l.wd.data.toList = (Lib.cut s [32]).1 ∧ ∃ f, frmL[wkF l]? = some ((Lib.cut s [32]).1, f) ∧ frmF (Lib.cut s [32]).1 = some f := by
  obtain ⟨_, f, hf, hw⟩ := linF_ok hs h
  have hwk : wkF l = wrdL.idxOf (Lib.cut s [32]).1 := by unfold wkF; rw [hw]; simp [bA]
  have h13 : wkF l < 13 := by rw [hwk]; exact lookup_idx _ f hf
  refine ⟨h13, by rw [hw]; simp [bA], ?_⟩
  have h1 := wrd_at (w := (Lib.cut s [32]).1) (j := wkF l) hwk.symm h13
  obtain ⟨p, p1, p2, p3⟩ := frm_all _ h13
  rw [h1] at p2
  have e := Option.some.inj p2
  rw [e]
  exact ⟨p.2, p1, p3⟩
/-- What stands behind the first word of a line that is right; a line that sets aside, just those words. -/
theorem lin_words {lines : Nat} {s : List UInt8} {l : Ln} (hs : s.length ≤ 100000) (h : linF lines s = some l) (h0 : wkF l ≠ 0) : ∃ f, frmL[wkF l]? = some ((Lib.cut s [32]).1, f) ∧ (wdL [] s).length = f.length + 1 ∧ foldP lines f (wdL [] s).tail { Ln.none with wd := bA (Lib.cut s [32]).1 } = some l := by
  obtain ⟨h13, _, f, f1, f2⟩ := lin_form hs h
  have hne : f ≠ [0, 6] := by
    intro e
    subst e
    have : ∀ j, j < 13 → (frmL[j]?).map (·.2) = some [0, 6] → j = 0 := by decide
    exact h0 (this _ h13 (by rw [f1]; rfl))
  have hr : rigF lines s = true := by rw [← linF_rig, h]; rfl
  unfold rigF at hr
  rw [f2] at hr
  simp only at hr
  rw [if_neg hne, Bool.and_eq_true] at hr
  have hl := of_decide_eq_true hr.1
  refine ⟨f, f1, hl, ?_⟩
  unfold linF at h
  rw [f2] at h
  simp only at h
  rw [wdN_le f.length s (by omega)] at h
  split at h
  · cases h
  · exact h
theorem lin_ex {lines : Nat} {s : List UInt8} {l : Ln} (hs : s.length ≤ 100000) (h : linF lines s = some l) : ExOk l := by
  intro hk
  obtain ⟨h13, _⟩ := lin_form hs h
  have hk : wkF l = 12 := by omega
  obtain ⟨f, f1, f2, f3⟩ := lin_words hs h (by omega)
  rw [hk] at f1
  have e : f = [5] := (congrArg Prod.snd (Option.some.inj f1)).symm
  subst e
  cases hw : (wdL [] s).tail with
  | nil =>
    have := congrArg List.length hw
    rw [List.length_tail] at this
    simp at this f2
    omega
  | cons g gs =>
    rw [hw] at f3
    obtain ⟨l1, e1, e2⟩ := Option.bind_eq_some_iff.1 (show (takP lines 5 _ g).bind (fun l' => foldP lines [] gs l') = some l from f3)
    have e2 : l1 = l := by
      cases gs <;> exact Option.some.inj e2
    rw [← e2]
    exact takP_n5 e1
theorem lns_ex {ss : List ByteArray} (h : (chkF ss).2 = 0) : ∀ l ∈ lnsF ss.length ss, ExOk l := by
  unfold chkF at h
  split at h
  · cases h
  · rename_i hn
    intro l hl
    obtain ⟨s, hs, e⟩ := List.mem_filterMap.1 hl
    refine lin_ex ?_ e
    rw [Array.length_toList]
    exact Nat.le_of_not_lt fun h => hn (.inr ⟨s, hs, h⟩)
/-- What a run of a right command comes to. -/
theorem rn_zero {F : List Fl} {ss : List ByteArray} {fuel : Int} (h : rnE F ss fuel = 0) : ∃ fu : Nat, fuel = (fu : Int) ∧ fu ≤ 100000 ∧ chF F = 0 ∧ (chkF ss).2 = 0 := by
  unfold rnE at h
  split at h
  · rename_i hc; exact absurd h hc
  · rename_i hc
    have hc : chF F = 0 := Classical.byContradiction hc
    split at h
    · rename_i hd; exact absurd h (by omega)
    · rename_i hd
      have hd : (chkF ss).2 = 0 := by omega
      split at h
      · cases h
      · rename_i hf
        exact ⟨fuel.toNat, by omega, by omega, hc, hd⟩
theorem rnE_of {F : List Fl} {ss : List ByteArray} {fu : Nat} (h1 : chF F = 0) (h2 : (chkF ss).2 = 0) (h3 : fu ≤ 100000) : rnE F ss (fu : Int) = 0 := by
  unfold rnE
  rw [if_neg (by simp [h1]), if_neg (by simp [h2]), if_neg (by omega)]
theorem rn_val {F : List Fl} {ss : List ByteArray} {fu : Nat} (h : rnE F ss (fu : Int) = 0) : rnL F ss (fu : Int) = (rnR F (lnsF ss.length ss) fu).2 ∧ rnC F ss (fu : Int) = (rnR F (lnsF ss.length ss) fu).1.code ∧ rnS F ss (fu : Int) = fu - (rnR F (lnsF ss.length ss) fu).1.fuel := by
  unfold rnL rnC rnS
  rw [if_pos h, if_pos h, if_pos h, Int.toNat_natCast]
  exact ⟨rfl, rfl, rfl⟩
theorem rn_tree (F : List Fl) (ss : List ByteArray) (fuel : Int) : TrOk (rnL F ss fuel) := by
  by_cases h : rnE F ss fuel = 0
  · obtain ⟨fu, rfl, _, _, h2⟩ := rn_zero h
    rw [(rn_val h).1]
    exact (run_ok (fun l hl => ((lns_ok h2).2 l hl).2.1) (fu + 1) (mz fu) [] (mz_ok fu)).tr
  · unfold rnL
    rw [if_neg h]
    exact TrOk.nil
theorem rn_out {F : List Fl} {ss : List ByteArray} {fu : Nat} (h : rnE F ss (fu : Int) = 0) (hc : rnC F ss (fu : Int) = 104) : rnS F ss (fu : Int) = fu := by
  obtain ⟨_, _, _, _, h2⟩ := rn_zero h
  obtain ⟨_, v2, v3⟩ := rn_val h
  have := (rn_code (F := F) (lns_ex h2) fu).out (by rw [← v2]; exact hc)
  rw [v3, this]
  rfl
theorem rn_cod (F : List Fl) (ss : List ByteArray) (fuel : Int) : rnC F ss fuel ≤ 99 ∨ (101 ≤ rnC F ss fuel ∧ rnC F ss fuel ≤ 104) := by
  by_cases h : rnE F ss fuel = 0
  · obtain ⟨fu, rfl, _, _, h2⟩ := rn_zero h
    rw [(rn_val h).2.1]
    exact (rn_code (lns_ex h2) fu).cod
  · unfold rnC
    rw [if_neg h]
    exact .inl (Nat.zero_le _)
theorem rn_mores {F : List Fl} {ss : List ByteArray} {fu d : Nat} (h : rnE F ss (fu : Int) = 0) (hc : rnC F ss (fu : Int) ≠ 104) (hd : fu + d ≤ 100000) :
    rnE F ss ((fu + d : Nat) : Int) = 0 ∧ rnL F ss ((fu + d : Nat) : Int) = rnL F ss (fu : Int) ∧ rnC F ss ((fu + d : Nat) : Int) = rnC F ss (fu : Int) ∧ rnS F ss ((fu + d : Nat) : Int) = rnS F ss (fu : Int) := by
  obtain ⟨_, _, _, h1, h2⟩ := rn_zero h
  have he := rnE_of h1 h2 hd
  obtain ⟨v1, v2, v3⟩ := rn_val h
  obtain ⟨u1, u2, u3⟩ := rn_val he
  have hfed : Fed (rnR F (lnsF ss.length ss) fu).1 := fun _ => by rw [← v2]; exact hc
  have hm := rn_more F (lnsF ss.length ss) fu d hfed
  rw [hm] at u1 u2 u3
  refine ⟨he, u1.trans v1.symm, u2.trans v2.symm, ?_⟩
  rw [u3, v3]
  show fu + d - ((rnR F (lnsF ss.length ss) fu).1.fuel + d) = _
  omega
theorem rn_justs {F : List Fl} {ss : List ByteArray} {fu : Nat} (h : rnE F ss (fu : Int) = 0) (hc : rnC F ss (fu : Int) ≠ 104) :
    rnE F ss (rnS F ss (fu : Int) : Int) = 0 ∧ rnL F ss (rnS F ss (fu : Int) : Int) = rnL F ss (fu : Int) ∧ rnC F ss (rnS F ss (fu : Int) : Int) = rnC F ss (fu : Int) ∧ rnS F ss (rnS F ss (fu : Int) : Int) = rnS F ss (fu : Int) := by
  obtain ⟨f2, e2, hf2, h1, h2⟩ := rn_zero h
  have e2 : fu = f2 := by omega
  subst e2
  obtain ⟨v1, v2, v3⟩ := rn_val h
  have he := rnE_of (fu := rnS F ss (fu : Int)) h1 h2 (by omega)
  obtain ⟨u1, u2, u3⟩ := rn_val he
  have hfed : Fed (rnR F (lnsF ss.length ss) fu).1 := fun _ => by rw [← v2]; exact hc
  have hm := rn_just F (lnsF ss.length ss) fu hfed
  rw [← v3] at hm
  rw [hm] at u1 u2 u3
  exact ⟨he, u1.trans v1.symm, u2.trans v2.symm, u3⟩
theorem rn_spent (F : List Fl) (ss : List ByteArray) (fuel : Int) (h : rnE F ss fuel = 0) : (rnS F ss fuel : Int) ≤ fuel := by
  obtain ⟨fu, rfl, _⟩ := rn_zero h
  have := (rn_val h).2.2
  omega
end Go.Proofs.YtapiedeekbfpnaaGreatDoor

/- Files that are the same. -/
namespace Go.Proofs.YtapiedeekbfpnaaGreatDoor
open Go.RowKit Go.Shelf

theorem toL_inj {a b : ByteArray} (h : a.toList = b.toList) : a = b := by
  rw [Lib.toList_data, Lib.toList_data] at h
  obtain ⟨x⟩ := a
  obtain ⟨y⟩ := b
  exact congrArg ByteArray.mk (Array.toList_inj.1 h)
/-- How the look ends. -/
def SmP (A C : List Fl) (w : World) (e : Ending) (w' : World) : Prop := ∃ b, e = .returned (.bool b) ∧ (b = true ↔ A = C) ∧ ∃ n, w' = w.drewN n

set_option maxHeartbeats 4000000 in
set_option maxRecDepth 100000 in
theorem SameFiles_any (ao co : Option Addr) (ac cc : Nat) (A C : List Fl) (w : World) (hn : A.length ≤ 4611686018427387904) (ha : IsFl w ao A) (hc : IsFl w co C) :
    Calls Tryz.prog 15 #[.slice ao A.length ac, .slice co C.length cc] w (SmP A C w) := by
  by_cases hl : A.length = C.length
  · rw [← hl]
    have HA : Hid (IsFl w ao A) := ha
    have HC : Hid (IsFl w co C) := hc
    have HL : Hid (A.length = C.length) := hl
    have hn1 : (A.length : Int) ≤ 4611686018427387904 := by omega
    clear ha hc hl
    go_enter Tryz.func15, Tryz.ntmps15
    go_wp2
    go_loopw [5] (fun i wr => ∃ k m : Nat, k ≤ A.length ∧ i = .int .i64 k ∧ A.take k = C.take k ∧ wr = w.drewN m) (fun i _ => A.length - (intOf i).toNat)
    case atStart => exact ⟨0, 0, Nat.zero_le _, rfl, rfl, rfl⟩
    case round =>
      obtain ⟨k, m, hk, rfl, ht, rfl⟩ := hrel
      have HK : Hid (A.take k = C.take k) := ht
      clear ht
      by_cases hlt : k < A.length
      · have hlt' : k < C.length := by rw [← HL.out]; exact hlt
        rcases HA.out with h | ⟨g, o, rfl, _, hca⟩
        · exfalso; rw [h] at hlt; exact absurd hlt (by simp)
        rcases HC.out with h | ⟨g', o', rfl, _, hcc⟩
        · exfalso; rw [h] at hlt'; exact absurd hlt' (by simp)
        obtain ⟨a0, a1, a2⟩ := hca k hlt
        obtain ⟨b0, b1, b2⟩ := hcc k hlt'
        have HN : Hid (A[k] ≠ C[k] → A ≠ C) := fun h e => h (by simp only [e])
        have HY : Hid (A[k] = C[k] → A.take (k + 1) = C.take (k + 1)) := fun h => by rw [List.take_succ_eq_append_getElem hlt, List.take_succ_eq_append_getElem hlt', HK.out, h]
        generalize A[k] = x at *
        generalize C[k] = y at *
        obtain ⟨xp, xt, xr⟩ := x
        obtain ⟨yp, yt, yr⟩ := y
        simp only at a0 a1 a2 b0 b1 b2
        have i2 : (k : Int) < A.length := by omega
        clear hca hcc
        by_cases h1 : xp.toList = yp.toList
        · obtain rfl := toL_inj h1
          by_cases h2 : xt.toList = yt.toList
          · obtain rfl := toL_inj h2
            by_cases h3 : xr = yr
            · subst h3
              have HZ : Hid (A.take (k + 1) = C.take (k + 1)) := HY.out rfl
              clear h1 h2 HN HY
              go_wp2
              go_region
              all_goals go_wp2
              all_goals exact ⟨⟨k + 1, m + 1, by omega, by go_num, HZ.out, rfl⟩, by simp [intOf]; omega⟩
            · have HZ : Hid (A ≠ C) := HN.out (by intro e; injection e with _ _ e; exact h3 e)
              have h3' : (xr == yr) = false := by simpa using h3
              clear h1 h2 HN HY
              go_wp2
              go_region
              all_goals go_wp2
              all_goals
                go_ret
                exact ⟨false, rfl, ⟨fun h => absurd h (by decide), fun h => absurd h HZ.out⟩, m + 1, rfl⟩
          · have HZ : Hid (A ≠ C) := HN.out (by intro e; injection e with _ e _; rw [e] at h2; exact h2 rfl)
            clear h1 HN HY
            go_wp2
            go_region
            all_goals go_wp2
            all_goals
              go_ret
              exact ⟨false, rfl, ⟨fun h => absurd h (by decide), fun h => absurd h HZ.out⟩, m + 1, rfl⟩
        · have HZ : Hid (A ≠ C) := HN.out (by intro e; injection e with e _ _; rw [e] at h1; exact h1 rfl)
          clear HN HY
          go_wp2
          go_region
          all_goals go_wp2
          all_goals
            go_ret
            exact ⟨false, rfl, ⟨fun h => absurd h (by decide), fun h => absurd h HZ.out⟩, m + 1, rfl⟩
      · have hki : ¬ (k : Int) < (A.length : Int) := by omega
        have HZ : Hid (A = C) := by
          have := HK.out
          have hL := HL.out
          rwa [List.take_of_length_le (by omega), List.take_of_length_le (by omega)] at this
        go_wp2
        go_ret
        exact ⟨true, rfl, ⟨fun _ => HZ.out, fun _ => rfl⟩, m, rfl⟩
  · have hne : ¬ (A.length : Int) = C.length := by omega
    have HZ : Hid (A ≠ C) := fun e => hl (by rw [e])
    clear hl ha hc
    go_enter Tryz.func15, Tryz.ntmps15
    go_wp2
    go_ret
    exact ⟨false, rfl, ⟨fun h => absurd h (by decide), fun h => absurd h HZ.out⟩, 0, rfl⟩
end Go.Proofs.YtapiedeekbfpnaaGreatDoor

/- Calls of Run, whose files lie somewhere; files that are the same; a number that is chosen. -/
namespace Go.Proofs.YtapiedeekbfpnaaGreatDoor
open Go.RowKit Go.Shelf Go.Sort

theorem IsFl.up {w w' : World} {ao : Option Addr} {L : List Fl} (h : IsFl w ao L) (hb : Below w.heap.size w w') : IsFl w' ao L := h.below hb (Nat.le_refl _)
/-- How Run ends: its files lie somewhere. -/
def RuP (F : List Fl) (ss : List ByteArray) (fuel : Int) (W : World) (e : Ending) (w' : World) : Prop :=
  ∃ ra rc, e = .returned (.tuple #[.slice ra (rnL F ss fuel).length rc, .int .i64 (rnC F ss fuel : Int), .int .i64 (rnS F ss fuel : Int), .int .i64 (rnE F ss fuel)]) ∧ Hid (IsFl w' ra (rnL F ss fuel)) ∧ Hid (Below W.heap.size W w')
theorem RunC (ao co : Option Addr) (cap ccap : Nat) (F : List Fl) (ss : List ByteArray) (fuel : Int) (W : World) (hl : IsFl W ao F) (ht : TxAt W co ss) (he : Env W) (hlen : ss.length ≤ 4611686018427387904) (hf1 : -9223372036854775808 ≤ fuel) (hf2 : fuel ≤ 9223372036854775807) :
    Calls Tryz.prog 9 #[.slice ao F.length cap, .slice co ss.length ccap, .int .i64 fuel] W (RuP F ss fuel W) := by
  refine (Run_any ao co cap ccap F ss fuel W hl ht he hlen hf1 hf2).mono ?_
  rintro e w' ⟨ra, rc, rfl, h1, h2⟩
  exact ⟨ra, rc, rfl, own_files h1.out rfl, h2⟩
theorem below_dn (w : World) (n : Nat) : Below w.heap.size w (w.drewN n) := ⟨rfl, rfl, rfl, Nat.le_refl _, fun _ _ => rfl⟩
theorem SameC (xa ya : Option Addr) (xc yc : Nat) (X : List Fl) (W : World) (hn : X.length ≤ 60) (hx : IsFl W xa X) (hy : IsFl W ya X) :
    Calls Tryz.prog 15 #[.slice xa X.length xc, .slice ya X.length yc] W fun e w' => e = .returned (.bool true) ∧ Hid (Below W.heap.size W w') := by
  refine (SameFiles_any xa ya xc yc X X W (by omega) hx hy).mono ?_
  rintro e w' ⟨b, rfl, hb, n, rfl⟩
  rw [hb.2 rfl]
  exact ⟨rfl, below_dn W n⟩
/-- What an argument that is a list of texts is. -/
theorem tx_of {w : World} {v : Value} {ss : List ByteArray} (hi : IsTexts w v ss) : ss.length ≤ 4611686018427387904 ∧ ∃ co ccap, v = .slice co ss.length ccap ∧ TxAt w co ss := by
  obtain ⟨hn, ao, cap, rfl, hc⟩ := hi
  refine ⟨hn, ao, cap, rfl, ?_⟩
  rcases hc with h | ⟨g, o, e, hc⟩
  · exact .inl h
  · by_cases h0 : ss = []
    · exact .inl h0
    · have hp : 0 < ss.length := List.length_pos_iff.2 h0
      exact .inr ⟨g, o, e, World.block_lt_of_cell? w ⟨g, o + 0, none⟩ (hc 0 hp), hc⟩

set_option maxHeartbeats 1000000 in
theorem choose_any (c : Int) (m : Nat) (w : World) (h0 : -9223372036854775808 ≤ c) (h1 : c ≤ 9223372036854775807) (hm : 0 < m) (hm2 : m ≤ 1099511627776) :
    Calls Tryz.prog 14 #[.int .i64 c, .int .i64 m] w fun e w' => (∃ r : Nat, r < m ∧ e = .returned (.int .i64 (r : Int))) ∧ w' = w := by
  have hmi : (0 : Int) < (m : Int) := by omega
  have hm0 : ((m : Int) == 0) = false := by simp; omega
  have key : ∀ d : Int, 0 ≤ d → ∃ r : Nat, r < m ∧ d.tmod (m : Int) = (r : Int) ∧ d % (m : Int) = (r : Int) := fun d hd => by
    have h2 := Int.emod_nonneg d (show (m : Int) ≠ 0 by omega)
    have h3 := Int.emod_lt_of_pos d hmi
    refine ⟨(d % (m : Int)).toNat, by omega, ?_, by omega⟩
    rw [Int.tmod_eq_emod_of_nonneg hd]
    omega
  by_cases hc : c < 0
  · obtain ⟨d, hd⟩ : ∃ d : Int, d = -(c + 1) := ⟨_, rfl⟩
    obtain ⟨r, hr, hr1, hr2⟩ := key d (by omega)
    have x1 : wrap64 (c + 1) = c + 1 := by unfold wrap64; omega
    have x2 : IntKind.i64.wrap (c + 1) = c + 1 := by rw [IntKind.wrap_i64]; omega
    have x3 : wrap64 (-(c + 1)) = d := by unfold wrap64; omega
    have x4 : IntKind.i64.wrap (-(c + 1)) = d := by rw [IntKind.wrap_i64]; omega
    have hd0 : 0 ≤ d := by omega
    clear key hd h0 h1 hm2
    go_enter Tryz.func14, Tryz.ntmps14
    go_wp2
    go_ret
    exact ⟨⟨r, hr, by simp⟩, rfl⟩
  · obtain ⟨r, hr, hr1, hr2⟩ := key c (by omega)
    have hc0 : 0 ≤ c := by omega
    clear key h1 hm2 hc
    go_enter Tryz.func14, Tryz.ntmps14
    go_wp2
    go_ret
    exact ⟨⟨r, hr, by simp⟩, rfl⟩
end Go.Proofs.YtapiedeekbfpnaaGreatDoor

/- A law whose row lists variables of the program: its wrap, the world's shape kept. -/
namespace Go.Proofs.YtapiedeekbfpnaaGreatDoor
open Go.ChangeShapes Go.WideShapes Go.ChangeAt Go.RowKit Go.Shelf

/-- What is asked of a call in a world that can be met. -/
def Meets {H : Type} (enc : TypeId × Value → H) (f : FuncId) (fn : Func) (s : ChangeSpec) (laid : List (String × DataW Unit)) : Prop :=
  ∀ (W : World) (base : Nat) (args : Array Value) (ds gs : List (DataW H)) (before : List MemPlace),
    (∀ (j : Nat) t v, fn.params[j]? = some t → args[j]? = some v → Value.okWide Tryz.prog W .any base t v) →
    DataW.Whole enc Tryz.prog fn.params.toList s.vars false W args.toList ds gs before →
    (DataW.weightsEach Tryz.prog (fn.params.toList ++ s.plain.varTypes Tryz.prog) (ds ++ gs)).all (· ≤ reachBytes) = true →
    laidMetH Tryz.prog laid W → W.ShapedOpen Tryz.prog →
    Calls Tryz.prog f args W fun e W' => ∃ v, e = .returned v ∧ s.post enc Tryz.prog fn false true false false W args v W'

set_option maxRecDepth 100000 in
theorem returns_laid {H : Type} {enc : TypeId × Value → H} {os : Os} {f : FuncId} {fn : Func} {s : ChangeSpec} {conds : List PathCond} {laid : List (String × DataW Unit)}
    (own : ownKnob Tryz.prog.godebug = none) (started : os.Started) (noInit : Tryz.checked.prog.inits.idxOf? f = none) (hfn : Tryz.checked.prog.funcs[f]? = some fn)
    (start : ∃ (w : World) (tape : Tape) (i : Input), w.os = os ∧ (w.forCall tape i).Shaped Tryz.checked.prog ∧ i.vars = [] ∧ Input.okWide Tryz.checked.prog (w.forCall tape i) .any w.heap.size f i ∧
      ((s.pre enc Tryz.checked.prog fn conds false (w.forCall tape i).memory i.args ∧ laidMetH Tryz.prog laid (w.forCall tape i).memory) ∧ sizedMet enc Tryz.checked.prog fn (OpenSpec.ofChange s) false (w.forCall tape i).memory i.args) ∧ Assume.holds {} Tryz.checked.prog (lone (Frame.enter Tryz.checked.prog f i.args .normal) [] (w.forCall tape i)))
    (meets : Meets enc f fn s laid) :
    ReturnsInHanded {} Tryz.checked os f .any (fun w args => (s.pre enc Tryz.prog fn conds false w args ∧ laidMetH Tryz.prog laid w) ∧ sizedMet enc Tryz.prog fn (OpenSpec.ofChange s) false w args) (s.post enc Tryz.prog fn false true false false) := by
  refine returnsInHanded_of_calls own started noInit start fun w tape i _ shape _ wide met _ => ?_
  obtain ⟨_, _, _, fn', h, _, _, _, _, vals⟩ := wide
  cases Option.some.inj (h.symm.trans hfn)
  obtain ⟨⟨⟨ds, gs, before, whole, _⟩, lies⟩, sized⟩ := met
  refine (meets (w.forCall tape i) w.heap.size i.args ds gs before vals (DataW.Whole.of_heap (w' := w.forCall tape i) (by rfl) whole) (sized.weights whole) (laidMetH.of_heap (by rfl) lies) shape).mono ?_
  rintro e W' ⟨v, rfl, post⟩
  exact ChangeSpec.post_blind post

set_option maxRecDepth 100000 in
theorem max_of_shaped {W : World} (h : W.ShapedOpen Tryz.prog) : MaxIs W :=
  cell_of_shapedOpen_int (t := 3) (zero := #[.int .i64 0]) h (by decide +kernel) (by kernel_rfl) rfl (by kernel_rfl) (by kernel_rfl) Tryz.underlying3
end Go.Proofs.YtapiedeekbfpnaaGreatDoor

/- A slice of texts that came in as an argument. -/
namespace Go.Proofs.YtapiedeekbfpnaaGreatDoor
open Go.ChangeShapes Go.WideShapes Go.ChangeAt Go.RowKit Go.Shelf
open Go.ChangeMaps (open_string shut_string)

theorem own : ownKnob Tryz.prog.godebug = none := by kernel_rfl
theorem laidOut : laidOutB Tryz.prog = true := by kernel_rfl
theorem bytesS : Tryz.prog.bytesOf 9 = 16 := by kernel_rfl
set_option maxRecDepth 100000 in
/-- A slice of texts that came in. -/
theorem arg_texts {H : Type} {enc : TypeId × Value → H} {W : World} {v : Value} {d : DataW H} {p : List MemPlace} {base : Nat}
    (hv : Value.okWide Tryz.prog W .any base 23 v) (h : DataW.Trod enc Tryz.prog W 0 (fun _ => true) true 23 v d p) (hr : ∀ elems sp, d = .slice elems sp → elems.length ≤ 4611686018427387904) : ∃ ss, IsTexts W v ss := by
  obtain ⟨a, len, cap, rfl⟩ := okWide_slice Tryz.underlying23 hv
  obtain ⟨fuel, hf⟩ := h
  rcases open_strings Tryz.underlying23 Tryz.underlying9 (by kernel_rfl) hf with ⟨hcs, _⟩ | ⟨x, l, c, ss, hcs, _, hl, hm, hz, hx, hcell, hws⟩
  · simp [Value.cells] at hcs
    obtain ⟨rfl, rfl, rfl⟩ := hcs
    exact ⟨[], by decide, none, 0, rfl, Or.inl rfl⟩
  · simp [Value.cells] at hcs
    obtain ⟨rfl, rfl, rfl⟩ := hcs
    have hz' : ss.length = cap := by simpa using hz
    have hlen : (ss.take len).length = len := by rw [List.length_take]; omega
    have hb : len ≤ 4611686018427387904 := by
      have := hr _ _ (congrArg Prod.fst hx)
      simp [Go.ChangeShapes.strs] at this
      omega
    refine ⟨ss.take len, by rw [hlen]; exact hb, some x, cap, by rw [hlen], ?_⟩
    by_cases h0 : len = 0
    · exact Or.inl (by rw [h0]; rfl)
    · obtain ⟨b, off, spot⟩ := x
      have hspot : spot = none := by simpa [Addr.add] using World.cell?_spot (hcell 0 (by omega))
      subst hspot
      refine Or.inr ⟨b, off, rfl, fun j hj => ?_⟩
      rw [hlen] at hj
      rw [← Go.WideShapes.add_plain, hcell j (by omega)]
      simp [List.getD, List.getElem?_eq_getElem (show j < ss.length by omega)]

theorem arg_len {H : Type} {ts : List TypeId} {ds : List (DataW H)} (hsz : (DataW.weightsEach Tryz.prog ts ds).all (· ≤ reachBytes) = true) (j : Nat) (d : DataW H) (ht : ts[j]? = some 23) (hd : ds[j]? = some d) :
    ∀ elems sp, d = .slice elems sp → elems.length ≤ 4611686018427387904 := fun elems sp he => by
  have h1 := sized_slice hsz (j := j) (t := 23) ht (by rw [hd, he]) Tryz.underlying23
  have h2 := reachBytes_lt
  rw [bytesS] at h1
  omega
end Go.Proofs.YtapiedeekbfpnaaGreatDoor

/- Files that came in as an argument. -/
namespace Go.Proofs.YtapiedeekbfpnaaGreatDoor
open Go.ChangeShapes Go.WideShapes Go.ChangeAt Go.RowKit Go.Shelf Go.Joins
open Go.Deep (trod_struct3)

theorem bytesFl : Tryz.prog.bytesOf 35 = 40 := by kernel_rfl
theorem addr_addF (b off j : Nat) : (⟨b, off, none⟩ : Addr).add j = ⟨b, off + j, none⟩ := by
  unfold Addr.add
  split <;> simp_all
theorem cellsFl : Tryz.prog.cellsOf 35 = 3 := by kernel_rfl

set_option maxRecDepth 100000 in
theorem arg_file {H : Type} {enc : TypeId × Value → H} {W : World} {cs : List Value} {n : Nat} {y : DataW H × List MemPlace} (hl : cs.length = 3)
    (h : DataW.trod enc Tryz.prog W 0 (fun _ => true) true n 35 cs = some y) : ∃ nd : Fl, cs = [.string nd.pa, .string nd.tx, .bool nd.rn] ∧ nd.pa.size ≤ maxLen ∧ nd.tx.size ≤ maxLen := by
  match cs, hl with
  | [c0, c1, c2], _ =>
    obtain ⟨y0, y1, y2, m, hx, _, h0, h1, h2⟩ := trod_struct3 Tryz.underlying35 h
    have k1 : Tryz.prog.cellsOf 9 = 1 := by kernel_rfl
    have k2 : Tryz.prog.cellsOf 4 = 1 := by kernel_rfl
    simp [k1, k2] at h0 h1 h2
    obtain ⟨s, e0, _, z0⟩ := DataW.trod_string Tryz.underlying9 h0
    obtain ⟨t, e1, _, z2⟩ := DataW.trod_string Tryz.underlying9 h1
    obtain ⟨a, e2, _⟩ := DataW.trod_bool Tryz.underlying4 h2
    simp at e0 e1 e2
    subst e0 e1 e2
    exact ⟨⟨s, t, a⟩, rfl, z0, z2⟩

set_option maxRecDepth 100000 in
/-- A slice of nodes that came in. -/
theorem arg_files {H : Type} {enc : TypeId × Value → H} {W : World} {v : Value} {d : DataW H} {p : List MemPlace} {base : Nat}
    (hv : Value.okWide Tryz.prog W .any base 22 v) (h : DataW.Trod enc Tryz.prog W 0 (fun _ => true) true 22 v d p) (hr : ∀ elems sp, d = .slice elems sp → elems.length ≤ 4611686018427387904) : ∃ (L : List Fl) (ao : Option Addr) (cap : Nat), v = .slice ao L.length cap ∧ IsFl W ao L ∧ L.length ≤ 4611686018427387904 := by
  obtain ⟨a, len, cap, rfl⟩ := okWide_slice Tryz.underlying22 hv
  obtain ⟨fuel, hf⟩ := h
  rcases DataW.trod_slice Tryz.underlying22 hf with ⟨hcs, _⟩ | ⟨x, l, c, elems, rest, n, _, hcs, hx, _, _, _, hlen, hel, _, _⟩
  · simp [Value.cells] at hcs
    obtain ⟨rfl, rfl, rfl⟩ := hcs
    exact ⟨[], none, 0, rfl, Or.inl rfl, by decide⟩
  · simp [Value.cells] at hcs
    obtain ⟨rfl, rfl, rfl⟩ := hcs
    have hb : len ≤ 4611686018427387904 := by
      have := hr _ _ (congrArg Prod.fst hx)
      simp at this
      omega
    have each : ∀ i : Fin len, ∃ nd : Fl, (nd.pa.size ≤ maxLen ∧ nd.tx.size ≤ maxLen) ∧ W.cell? (x.add (i.val * 3)) = some (.string nd.pa) ∧ W.cell? ((x.add (i.val * 3)).add 1) = some (.string nd.tx) ∧ W.cell? ((x.add (i.val * 3)).add 2) = some (.bool nd.rn) := by
      intro i
      have h1 := hel i.val i.isLt
      rw [cellsFl, List.getElem?_eq_getElem (by omega : i.val < elems.length), Option.bind_eq_some_iff] at h1
      obtain ⟨cs', hc, hy⟩ := h1
      have hs := World.cells?_some hc
      obtain ⟨nd, rfl, z⟩ := arg_file (by simpa using hs.2.1) hy
      refine ⟨nd, z, ?_, ?_, ?_⟩
      · have := hs.2.2 0 (by omega); simpa [Addr.add] using this
      · have := hs.2.2 1 (by omega); simpa using this
      · have := hs.2.2 2 (by omega); simpa using this
    obtain ⟨f, hf2⟩ := Classical.axiomOfChoice each
    have hlen2 : (List.ofFn f).length = len := by simp
    refine ⟨List.ofFn f, some x, cap, by rw [hlen2], ?_, by rw [hlen2]; exact hb⟩
    by_cases h0 : len = 0
    · exact Or.inl (List.length_eq_zero_iff.1 (hlen2.trans h0))
    · obtain ⟨b, off, spot⟩ := x
      have c0 := (hf2 ⟨0, by omega⟩).2.1
      have hspot : spot = none := by simpa [Addr.add] using World.cell?_spot c0
      subst hspot
      refine Or.inr ⟨b, off, rfl, by simpa [Addr.add] using World.block_lt_of_cell? W _ c0, fun j hj => ?_⟩
      rw [hlen2] at hj
      rw [List.getElem_ofFn]
      have k := (hf2 ⟨j, hj⟩).2
      rw [addr_addF, addr_addF, addr_addF] at k
      exact k
end Go.Proofs.YtapiedeekbfpnaaGreatDoor

/- What the row of a statement on commands lays: the digest's numbers, the powers of ten; the world's shape. -/
namespace Go.Proofs.YtapiedeekbfpnaaGreatDoor
open Go.ChangeShapes Go.WideShapes Go.ChangeAt Go.RowKit Go.Shelf

theorem laid_ints {W : World} {name : String} {l : List Int} {rest : List (String × DataW Unit)} {ps : List MemPlace} {g0 T n : Nat} (h : DataW.LaidVars Tryz.prog W ((name, .agg (l.map fun n => .lit (.int .u32 n))) :: rest) ps)
    (hg0 : Tryz.prog.globalNamed name = some g0) (ht0 : (Tryz.prog.globals[g0]?).map (·.type) = some T) (hT : Tryz.prog.underlying T = some (.array n 126)) (hn : l.length = n) : LaidAt g0 W l ∧ ∃ q, DataW.LaidVars Tryz.prog W rest q := by
  obtain ⟨g, t, cs, fuel, p, q, hg, ht, hv, hd, hrest, _⟩ := h
  obtain rfl := Option.some.inj (hg0.symm.trans hg)
  obtain rfl := Option.some.inj (ht0.symm.trans ht)
  refine ⟨fun r hr => ?_, q, hrest⟩
  obtain ⟨xs, m, _, ex, _, hl, hel⟩ := DataW.trod_array hT hd
  have c5 : Tryz.prog.cellsOf 126 = 1 := by kernel_rfl
  have e3 : (xs.map (·.1)) = l.map fun n => .lit (.int .u32 n) := (DataW.agg.inj (Prod.mk.inj ex).1).symm
  have hxl : xs.length = l.length := by have := congrArg List.length e3; simpa using this
  have hE := hel r (by omega)
  rw [c5, Nat.mul_one, List.getElem?_eq_getElem (by omega)] at hE
  obtain ⟨z, e1, e2, _⟩ := DataW.trod_int Tryz.underlying126 hE
  have e4 : (xs.map (·.1))[r]? = (l.map fun n => (DataW.lit (.int .u32 n) : DataW Unit))[r]? := by rw [e3]
  rw [List.getElem?_map, List.getElem?_map, List.getElem?_eq_getElem (by omega : r < xs.length), List.getElem?_eq_getElem hr, e2] at e4
  have hz : z = l[r] := by
    simpa only [Option.map_some, Option.some.injEq, DataW.lit.injEq, Lit.int.injEq, true_and] using e4
  rw [World.var?_cell hg hv r, ← hz]
  have : cs.toList[r]? = some (.int .u32 z) := by
    have h0 : ((cs.toList.drop r).take 1)[0]? = some (.int .u32 z) := by rw [e1]; rfl
    simpa using h0
  simpa using this

theorem tab_laid {W : World} {rest : List (String × DataW Unit)} {ps : List MemPlace} (h : DataW.LaidVars Tryz.prog W (("internal/strconv.uint64pow10", Rows.laid_internal_strconv_uint64pow10) :: rest) ps) : Lib.TabIs Tryz.prog W "internal/strconv.uint64pow10" .u64 Lib.pow10Tab := by
  rw [show Rows.laid_internal_strconv_uint64pow10 = Lib.tabData .u64 Lib.pow10Tab by kernel_rfl] at h
  obtain ⟨g, t, cs, fuel, p, q, hg, ht, hvar, hd, _, _⟩ := h
  have hg0 : Tryz.prog.globalNamed "internal/strconv.uint64pow10" = some 3 := by kernel_rfl
  obtain rfl := Option.some.inj (hg0.symm.trans hg)
  have ht0 : (Tryz.prog.globals[3]?).map (·.type) = some 171 := by kernel_rfl
  obtain rfl := Option.some.inj (ht0.symm.trans ht)
  unfold Lib.TabIs
  rw [hvar, ← Lib.cells_of_tab Tryz.underlying171 Tryz.underlying142 (by kernel_rfl) (by kernel_rfl) hd]

theorem env_of {W : World} (h : laidMetH Tryz.prog [("math/bits.deBruijn32tab", Rows.laid_math_bits_deBruijn32tab), ("math/bits.deBruijn64tab", Rows.laid_math_bits_deBruijn64tab), ("internal/strconv.uint64pow10", Rows.laid_internal_strconv_uint64pow10), ("unicode/utf8.acceptRanges", Rows.laid_unicode_utf8_acceptRanges), ("foundry/digest.squareRoots", Rows.laid_foundry_digest_squareRoots), ("foundry/digest.cubeRoots", Rows.laid_foundry_digest_cubeRoots), ("unicode/utf8.first", Rows.laid_unicode_utf8_first)] W) (hs : W.ShapedOpen Tryz.prog) : Env W := by
  rw [MakeChecks.laidMetH_plain _ _ _ (by kernel_rfl)] at h
  obtain ⟨ps, hv, _, _⟩ := h
  obtain ⟨_, _, _, _, _, q0, _, _, _, _, hv0, _⟩ := hv
  obtain ⟨_, _, _, _, _, q1, _, _, _, _, hv1, _⟩ := hv0
  have htab := tab_laid hv1
  obtain ⟨_, _, _, _, _, q2, _, _, _, _, hv2, _⟩ := hv1
  obtain ⟨_, _, _, _, _, q3, _, _, _, _, hv3, _⟩ := hv2
  rw [sqL_eq, cuL_eq] at hv3
  obtain ⟨h1, q, hq⟩ := laid_ints (T := 127) hv3 (g0 := 0) (by kernel_rfl) (by kernel_rfl) Tryz.underlying127 sqL_len
  obtain ⟨h2, _⟩ := laid_ints (T := 139) hq (g0 := 1) (by kernel_rfl) (by kernel_rfl) Tryz.underlying139 cuL_len
  exact ⟨max_of_shaped hs, ⟨by rw [sq8_l]; exact h1, h2⟩, htab⟩
/-- A slice of files that came in is not too long. -/
theorem arg_lenF {H : Type} {ts : List TypeId} {ds : List (DataW H)} (hsz : (DataW.weightsEach Tryz.prog ts ds).all (· ≤ reachBytes) = true) (j : Nat) (d : DataW H) (ht : ts[j]? = some 22) (hd : ds[j]? = some d) :
    ∀ elems sp, d = .slice elems sp → elems.length ≤ 4611686018427387904 := fun elems sp he => by
  have h1 := sized_slice hsz (j := j) (t := 22) ht (by rw [hd, he]) Tryz.underlying22
  have h2 := reachBytes_lt
  rw [bytesFl] at h1
  omega
end Go.Proofs.YtapiedeekbfpnaaGreatDoor
