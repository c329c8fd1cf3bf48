/- The document's Directory, plain: its names, nodes and texts. -/
import Derived.WalkKit
import Derived.Laws.BitsLemmas
import Derived.Test.YtcdgdmhlbgbklaaGreatDoorChecked
import Derived.ProofKit
import Derived.WalkLawsBesides
import Derived.Below
import Derived.Deep.RegionHeld3
import Derived.Lib.Strings
import Derived.BigQuiet
import Derived.Deep.AppendLies
import Derived.Test.YtcdgdmhlbgbklaaGreatDoorTg6
namespace Go.Proofs.YtcdgdmhlbgbklaaGreatDoor
open Go.RowKit Go.Shelf Go.Maps Go.WideMaps Go.Sort

theorem sl_at : ∀ (a b : List UInt8), (47 : UInt8) ∉ a → sl (a ++ 47 :: b) = some (a, b)
  | [], b, _ => by simp [sl]
  | c :: a, b, h => by
    simp only [List.mem_cons, not_or] at h
    rw [List.cons_append]
    unfold sl
    rw [if_neg (fun e => h.1 e.symm), sl_at a b h.2]
    rfl
theorem sl_nil : ∀ a : List UInt8, (47 : UInt8) ∉ a → sl a = none
  | [], _ => rfl
  | c :: a, h => by
    simp only [List.mem_cons, not_or] at h
    show (if c = 47 then _ else _) = _
    rw [if_neg (fun e => h.1 e.symm), sl_nil a h.2]
    rfl
theorem deep_of {f : Fl} {m r : List UInt8} (hm : (47 : UInt8) ∉ m) (h : pth f = m ++ 47 :: r) : deepF f = true ∧ hdF f = m ∧ pth (subF f) = r := by
  have e := sl_at m r hm
  rw [← h] at e
  unfold deepF hdF subF
  rw [e]
  exact ⟨rfl, rfl, rfl⟩
theorem top_of {f : Fl} (hm : (47 : UInt8) ∉ pth f) : deepF f = false ∧ hdF f = pth f := by
  have e := sl_nil _ hm
  unfold deepF hdF
  rw [e]
  exact ⟨rfl, rfl⟩
theorem fl_ext {f g : Fl} (h1 : pth f = pth g) (h2 : f.tx = g.tx) (h3 : f.rn = g.rn) : f = g := by
  obtain ⟨p, t, r⟩ := f
  obtain ⟨p2, t2, r2⟩ := g
  simp only at h2 h3
  have h4 : p = p2 := bytes_ext h1
  rw [h4, h2, h3]
theorem cut_pth {f : Fl} {d : ByteArray} {r : List UInt8} (h : pth f = d.data.toList ++ 47 :: r) : pth (cutP d f) = r := by
  show (f.pa.extract (d.size + 1) f.pa.size).data.toList = r
  have e : (f.pa.extract (d.size + 1) f.pa.size).data.toList = (pth f).drop (d.size + 1) := by
    have : (pth f).length = f.pa.size := Array.length_toList
    simp only [pth, ByteArray.data_extract, Array.toList_extract, List.extract_eq_take_drop]
    rw [List.take_of_length_le]
    rw [List.length_drop]
    have : f.pa.data.toList.length = f.pa.size := Array.length_toList
    omega
  rw [e, h]
  have hl : d.data.toList.length = d.size := Array.length_toList
  rw [List.drop_append, hl, List.drop_eq_nil_of_le (by omega), List.nil_append, show d.size + 1 - d.size = 1 from by omega]
  rfl
theorem subF_rn (f : Fl) : (subF f).rn = f.rn := by unfold subF; cases sl (pth f) <;> rfl
theorem hd_slash (f : Fl) : (47 : UInt8) ∉ hdF f := by
  unfold hdF
  cases h : sl (pth f) with
  | none => exact sl_none h
  | some x => exact (sl_some (a := x.1) (b := x.2) h).2

/-- The files of the directory with a path. -/
def dv (d : ByteArray) (L : List Fl) : List Fl := if d.data.toList = [] then L else undF L d
/-- The path of what has a name there. -/
def pj (d : ByteArray) (m : List UInt8) : ByteArray := if d.data.toList = [] then ⟨m.toArray⟩ else ⟨(d.data.toList ++ 47 :: m).toArray⟩
theorem dv_none (L : List Fl) : dv ⟨#[]⟩ L = L := if_pos rfl
theorem pj_list (d : ByteArray) (m : List UInt8) : (pj d m).data.toList = if d.data.toList = [] then m else d.data.toList ++ 47 :: m := by
  unfold pj
  split <;> rfl
theorem pj_ne (d : ByteArray) {m : List UInt8} (hm : m ≠ []) : (pj d m).data.toList ≠ [] := by
  rw [pj_list]
  split
  · exact hm
  · simp
theorem und_sub (L : List Fl) (m : List UInt8) (hm : (47 : UInt8) ∉ m) : undF L ⟨m.toArray⟩ = sub m L := by
  unfold undF sub
  have e : (L.filter fun f => inB f.pa ⟨m.toArray⟩) = L.filter fun f => deepF f && decide (hdF f = m) := by
    refine List.filter_congr fun f _ => ?_
    rw [Bool.eq_iff_iff, inB_list, Bool.and_eq_true, decide_eq_true_eq]
    constructor
    · rintro ⟨r, hr⟩
      obtain ⟨h1, h2, _⟩ := deep_of (f := f) (m := m) (r := r) hm hr
      exact ⟨h1, h2⟩
    · rintro ⟨h1, h2⟩
      have := (deep_sl h1).2
      rw [h2] at this
      exact ⟨_, this⟩
  rw [e]
  refine List.map_congr_left fun f hf => ?_
  rw [List.mem_filter, Bool.and_eq_true, decide_eq_true_eq] at hf
  have h1 := (deep_sl hf.2.1).2
  rw [hf.2.2] at h1
  exact fl_ext (cut_pth (d := ⟨m.toArray⟩) h1) (subF_tx f).symm (subF_rn f).symm
theorem in_in (f : Fl) (d : ByteArray) (m : List UInt8) (hm : (47 : UInt8) ∉ m) (D : ByteArray) (hD : D.data.toList = d.data.toList ++ 47 :: m) : inB f.pa D = true ↔ ((deepF (cutP d f) && decide (hdF (cutP d f) = m)) = true ∧ inB f.pa d = true) := by
  rw [inB_list, inB_list, Bool.and_eq_true, decide_eq_true_eq, hD]
  constructor
  · rintro ⟨r, hr⟩
    have hr2 : pth f = d.data.toList ++ 47 :: (m ++ 47 :: r) := by
      show f.pa.data.toList = _
      rw [hr, List.append_assoc, List.cons_append]
    obtain ⟨h1, h2, _⟩ := deep_of hm (cut_pth hr2)
    exact ⟨⟨h1, h2⟩, _, hr2⟩
  · rintro ⟨⟨h1, h2⟩, r, hr⟩
    have hr1 : pth f = d.data.toList ++ 47 :: r := hr
    have h3 := (deep_sl h1).2
    rw [h2, cut_pth hr1] at h3
    exact ⟨pth (subF (cutP d f)), by rw [hr, List.append_assoc, List.cons_append, ← h3]⟩
theorem cut_cut (f : Fl) (d : ByteArray) (m : List UInt8) (D : ByteArray) (hD : D.data.toList = d.data.toList ++ 47 :: m) (h1 : deepF (cutP d f) = true) (h2 : hdF (cutP d f) = m) (h3 : inB f.pa d = true) : cutP D f = subF (cutP d f) := by
  obtain ⟨r, hr⟩ := (inB_list _ _).1 h3
  have hr1 : pth f = d.data.toList ++ 47 :: r := hr
  have h4 := (deep_sl h1).2
  rw [h2, cut_pth hr1] at h4
  have h5 : pth f = D.data.toList ++ 47 :: pth (subF (cutP d f)) := by
    rw [hr1, hD, List.append_assoc, List.cons_append, ← h4]
  exact fl_ext (cut_pth h5) (show f.tx = (subF (cutP d f)).tx from (subF_tx (cutP d f)).symm) (show f.rn = (subF (cutP d f)).rn from (subF_rn (cutP d f)).symm)
theorem und_und (L : List Fl) (d : ByteArray) (m : List UInt8) (hm : (47 : UInt8) ∉ m) (D : ByteArray) (hD : D.data.toList = d.data.toList ++ 47 :: m) : undF L D = sub m (undF L d) := by
  induction L with
  | nil => rfl
  | cons f l ih =>
    have e1 : undF (f :: l) D = if inB f.pa D = true then cutP D f :: undF l D else undF l D := by
      unfold undF
      by_cases h : inB f.pa D = true
      · rw [if_pos h]; simp [h]
      · rw [if_neg h]; simp [h]
    have e2 : undF (f :: l) d = if inB f.pa d = true then cutP d f :: undF l d else undF l d := by
      unfold undF
      by_cases h : inB f.pa d = true
      · rw [if_pos h]; simp [h]
      · rw [if_neg h]; simp [h]
    have e3 : ∀ (g : Fl) (S : List Fl), sub m (g :: S) = if (deepF g && decide (hdF g = m)) = true then subF g :: sub m S else sub m S := fun g S => by
      unfold sub
      by_cases h : (deepF g && decide (hdF g = m)) = true
      · rw [if_pos h]; simp [h]
      · rw [if_neg h]; simp [h]
    have hk := in_in f d m hm D hD
    rw [e1, e2, ih]
    by_cases h1 : inB f.pa D = true
    · rw [if_pos h1]
      obtain ⟨h2, h3⟩ := hk.1 h1
      rw [if_pos h3, e3, if_pos h2]
      rw [Bool.and_eq_true, decide_eq_true_eq] at h2
      rw [cut_cut f d m D hD h2.1 h2.2 h3]
    · rw [if_neg h1]
      by_cases h3 : inB f.pa d = true
      · rw [if_pos h3, e3, if_neg (fun h2 => h1 (hk.2 ⟨h2, h3⟩))]
      · rw [if_neg h3]
theorem dv_sub (d : ByteArray) (L : List Fl) (m : List UInt8) (hm : (47 : UInt8) ∉ m) (h0 : m ≠ []) : dv (pj d m) L = sub m (dv d L) := by
  have h1 := pj_ne d h0
  unfold dv
  rw [if_neg h1]
  unfold pj
  by_cases hd : d.data.toList = []
  · rw [if_pos hd, if_pos hd]
    exact und_sub L m hm
  · rw [if_neg hd, if_neg hd]
    exact und_und L d m hm _ rfl
theorem dv_snoc (d : ByteArray) (L : List Fl) (f : Fl) : dv d (L ++ [f]) = if d.data.toList = [] then L ++ [f] else if inB f.pa d = true then dv d L ++ [cutP d f] else dv d L := by
  unfold dv
  by_cases hd : d.data.toList = []
  · simp only [if_pos hd]
  · simp only [if_neg hd]
    exact undF_snoc L d f

/-- The names there, rising. -/
def hs (S : List Fl) : List (List UInt8) := addAll (S.map hdF)
theorem hs_mem (S : List Fl) (m : List UInt8) : m ∈ hs S ↔ ∃ f ∈ S, hdF f = m := by
  unfold hs
  rw [addAll_mem, List.mem_map]
theorem hs_snoc (S : List Fl) (f : Fl) : hs (S ++ [f]) = insN (hdF f) (hs S) := by
  unfold hs
  rw [List.map_append]
  exact addAll_snoc _ _
theorem hs_len (S : List Fl) : (hs S).length ≤ S.length := by
  have := addAll_len (S.map hdF)
  rwa [List.length_map] at this
theorem hs_nodup (S : List Fl) : (hs S).Nodup := (addAll_up _).imp fun h e => by rw [e] at h; exact List.lt_irrefl _ h

/-- The kind and the text of the file with a path; a directory's kind, if there is none. -/
def ktF (M : List Fl) (p : List UInt8) : Int × ByteArray := M.foldl (fun a f => if pth f = p then (kdF f.rn, f.tx) else a) (3, ⟨#[]⟩)
theorem ktF_snoc (M : List Fl) (f : Fl) (p : List UInt8) : ktF (M ++ [f]) p = if pth f = p then (kdF f.rn, f.tx) else ktF M p := by simp [ktF, List.foldl_append]
theorem ktF_no (M : List Fl) (p : List UInt8) (h : ∀ f ∈ M, pth f ≠ p) : ktF M p = (3, ⟨#[]⟩) := by
  revert h
  refine snocInd (P := fun M => (∀ f ∈ M, pth f ≠ p) → ktF M p = (3, ⟨#[]⟩)) (fun _ => rfl) (fun l a ih h => ?_) M
  rw [ktF_snoc, if_neg (h a (by simp))]
  exact ih fun f hf => h f (by simp [hf])
theorem ktF_yes (M : List Fl) (p : List UInt8) (hn : (M.map pth).Nodup) {f : Fl} (hf : f ∈ M) (h : pth f = p) : ktF M p = (kdF f.rn, f.tx) := by
  revert hn hf
  refine snocInd (P := fun M => (M.map pth).Nodup → f ∈ M → ktF M p = (kdF f.rn, f.tx)) (fun _ hf => by cases hf) (fun l a ih hn hf => ?_) M
  rw [List.map_append, List.nodup_append] at hn
  rw [ktF_snoc]
  rcases List.mem_append.1 hf with h1 | h1
  · have : pth a ≠ p := fun e => hn.2.2 (pth f) (List.mem_map.2 ⟨f, h1, rfl⟩) (pth a) (by simp) (by rw [h, e])
    rw [if_neg this]
    exact ih hn.1 h1
  · rw [List.mem_singleton] at h1
    subst h1
    rw [if_pos h]
theorem okT_nodup {L : List Fl} (h : okT L) : (L.map pth).Nodup := List.pairwise_map.2 (h.2.2.imp fun hh e => by have := hh.1; rw [e] at this; exact List.lt_irrefl _ this)
theorem kt_file {L : List Fl} (h : okT L) (d : ByteArray) {g : Fl} (hg : g ∈ dv d L) : ktF L (pj d (pth g)).data.toList = (kdF g.rn, g.tx) := by
  rw [pj_list]
  unfold dv at hg
  by_cases hd : d.data.toList = []
  · rw [if_pos hd] at hg ⊢
    exact ktF_yes L _ (okT_nodup h) hg rfl
  · rw [if_neg hd] at hg ⊢
    obtain ⟨f, hf, rfl⟩ := List.mem_map.1 hg
    rw [List.mem_filter] at hf
    obtain ⟨r, hr⟩ := (inB_list _ _).1 hf.2
    rw [cut_pth (f := f) hr]
    exact ktF_yes (f := f) L _ (okT_nodup h) hf.1 hr
theorem kt_dir {L : List Fl} (d : ByteArray) {m : List UInt8} (h : ∀ g ∈ dv d L, pth g ≠ m) : ktF L (pj d m).data.toList = (3, ⟨#[]⟩) := by
  rw [pj_list]
  unfold dv at h
  refine ktF_no _ _ fun f hf e => ?_
  by_cases hd : d.data.toList = []
  · rw [if_pos hd] at h e
    exact h f hf e
  · rw [if_neg hd] at h e
    exact h (cutP d f) (List.mem_map.2 ⟨f, List.mem_filter.2 ⟨hf, (inB_list _ _).2 ⟨m, e⟩⟩, rfl⟩) (cut_pth e)

/-- A name is a file's, or a directory's. -/
theorem hs_cases {L : List Fl} (d : ByteArray) (hL : okT L) (h : okT (dv d L)) {m : List UInt8} (hm : m ∈ hs (dv d L)) :
    (∃ f, f ∈ dv d L ∧ deepF f = false ∧ pth f = m ∧ ktF L (pj d m).data.toList = (kdF f.rn, f.tx)) ∨ (m ∈ names (dv d L) ∧ ktF L (pj d m).data.toList = (3, ⟨#[]⟩)) := by
  obtain ⟨f, hf, hh⟩ := (hs_mem _ _).1 hm
  cases hd : deepF f with
  | false =>
    have e : hdF f = pth f := by unfold hdF; rw [top_sl hd]
    rw [e] at hh
    subst hh
    exact .inl ⟨f, hf, hd, rfl, kt_file hL d hf⟩
  | true =>
    have hn : m ∈ names (dv d L) := (names_mem _ _).2 ⟨f, hf, hd, hh⟩
    refine .inr ⟨hn, kt_dir d fun g hg e => ?_⟩
    have hnd := nsF_nodup smD 0 h
    rw [nsF_keys, List.nodup_append] at hnd
    have hs : (47 : UInt8) ∉ pth g := by rw [e, ← hh]; exact hd_slash f
    exact hnd.2.2 (pth g) (List.mem_map.2 ⟨g, List.mem_filter.2 ⟨hg, by rw [(top_of hs).1]; rfl⟩, rfl⟩) m hn e
theorem name_in {S : List Fl} {m : List UInt8} (hm : m ∈ names S) : m ∈ hs S := by
  obtain ⟨f, hf, _, hh⟩ := (names_mem _ _).1 hm
  exact (hs_mem _ _).2 ⟨f, hf, hh⟩
theorem top_in {S : List Fl} {f : Fl} (hf : f ∈ S) (hd : deepF f = false) : pth f ∈ hs S := (hs_mem _ _).2 ⟨f, hf, by unfold hdF; rw [top_sl hd]⟩
theorem hs_slash {S : List Fl} {m : List UInt8} (hm : m ∈ hs S) : (47 : UInt8) ∉ m := by
  obtain ⟨f, _, rfl⟩ := (hs_mem _ _).1 hm
  exact hd_slash f
theorem hs_name {S : List Fl} (h : okT S) {m : List UInt8} (hm : m ∈ hs S) : nameOk ⟨m.toArray⟩ = true := by
  obtain ⟨f, hf, rfl⟩ := (hs_mem _ _).1 hm
  cases hd : deepF f with
  | true => exact (ok_sub hd (h.2.1 f hf)).2
  | false =>
    have e : hdF f = pth f := by unfold hdF; rw [top_sl hd]
    rw [e]
    have := top_name hd (h.2.1 f hf)
    rw [show (⟨(pth f).toArray⟩ : ByteArray) = f.pa from by show (⟨f.pa.data.toList.toArray⟩ : ByteArray) = _; rw [Array.toArray_toList]]
    exact this
theorem hs_ne {S : List Fl} (h : okT S) {m : List UInt8} (hm : m ∈ hs S) : m ≠ [] := fun e => by
  have := hs_name h hm
  subst e
  unfold nameOk at this
  rw [Lib.toList_data] at this
  simp at this

/-- The text of what has a name there; its node. -/
def tD (n : Nat) (L : List Fl) (d : ByteArray) (m : List UInt8) : ByteArray := if (ktF L (pj d m).data.toList).1 = 3 then (dirF smD n (sub m (dv d L))).1 else (ktF L (pj d m).data.toList).2
def ndD (n : Nat) (L : List Fl) (d : ByteArray) (m : List UInt8) : Nd := (⟨m.toArray⟩, (ktF L (pj d m).data.toList).1, smD (tD n L d m))
theorem kd_ne (r : Bool) : kdF r ≠ 3 := by cases r <;> decide
theorem ndD_file {n : Nat} {L : List Fl} {d : ByteArray} {f : Fl} (h : ktF L (pj d (pth f)).data.toList = (kdF f.rn, f.tx)) : ndD n L d (pth f) = ndF smD f := by
  unfold ndD tD ndF
  rw [h, if_neg (kd_ne _)]
  show ((⟨f.pa.data.toList.toArray⟩ : ByteArray), _, _) = _
  rw [Array.toArray_toList]
theorem ndD_dir {n : Nat} {L : List Fl} {d : ByteArray} {m : List UInt8} (h : ktF L (pj d m).data.toList = (3, ⟨#[]⟩)) : ndD n L d m = ndM smD m (dirF smD n (sub m (dv d L))).1 := by
  unfold ndD tD ndM
  rw [h, if_pos rfl]
theorem map_nodup {α β : Type} {f : α → β} {l : List α} (h : (l.map f).Nodup) : l.Nodup := (List.pairwise_map.1 h).imp fun h e => h (by rw [e])
theorem ndD_sorted (n : Nat) {L : List Fl} (d : ByteArray) (hL : okT L) (h : okT (dv d L)) : (hs (dv d L)).map (ndD n L d) = sortN (nsF smD n (dv d L)) := by
  have hk : ((hs (dv d L)).map (ndD n L d)).map kyN = hs (dv d L) := by
    rw [List.map_map]
    have : (kyN ∘ ndD n L d) = id := by funext m; rfl
    rw [this, List.map_id]
  refine sortN_uniq (nsF_nodup smD n h) ((List.perm_ext_iff_of_nodup (map_nodup (f := kyN) (by rw [hk]; exact hs_nodup _)) (map_nodup (nsF_nodup smD n h))).2 fun x => ?_) ?_
  · unfold nsF
    rw [List.mem_map, List.mem_append, List.mem_map, List.mem_map]
    constructor
    · rintro ⟨m, hm, rfl⟩
      rcases hs_cases d hL h hm with ⟨f, hf, hd, rfl, hkt⟩ | ⟨hn, hkt⟩
      · exact .inl ⟨f, List.mem_filter.2 ⟨hf, by rw [hd]; rfl⟩, (ndD_file hkt).symm⟩
      · exact .inr ⟨m, hn, (ndD_dir hkt).symm⟩
    · rintro (⟨f, hf, rfl⟩ | ⟨m, hm, rfl⟩)
      · unfold tops at hf
        rw [List.mem_filter] at hf
        exact ⟨pth f, top_in hf.1 (by simpa using hf.2), ndD_file (kt_file hL d hf.1)⟩
      · rcases hs_cases d hL h (name_in hm) with ⟨f, hf, hd, e, _⟩ | ⟨_, hkt⟩
        · exfalso
          have hnd := nsF_nodup smD 0 h
          rw [nsF_keys, List.nodup_append] at hnd
          exact hnd.2.2 (pth f) (List.mem_map.2 ⟨f, List.mem_filter.2 ⟨hf, by rw [hd]; rfl⟩, rfl⟩) m hm e
        · exact ⟨m, name_in hm, ndD_dir hkt⟩
  · rw [List.pairwise_map]
    refine (addAll_up _).imp fun hh => ?_
    unfold leN
    exact decide_eq_true (List.le_of_lt hh)

/-- All texts of a directory but its own; those that are added for a name. -/
def inT (n : Nat) (S : List Fl) : List ByteArray := (tops S).map Fl.tx ++ (names S).flatMap fun m => (dirF smD n (sub m S)).2
def bL (l : List ByteArray) : List (List UInt8) := l.map fun b => b.data.toList
def mrT (n : Nat) (S : List Fl) (m : List UInt8) : List (List UInt8) := match n with | 0 => [] | k + 1 => addAll (bL (inT k (sub m S)))
def adD (n : Nat) (L : List Fl) (d : ByteArray) (m : List UInt8) : List (List UInt8) := (if (ktF L (pj d m).data.toList).1 = 3 then mrT n (dv d L) m else []) ++ [(tD n L d m).data.toList]
theorem dirF_in (n : Nat) (S : List Fl) : (dirF smD (n + 1) S).2 = inT n S ++ [(dirF smD (n + 1) S).1] := rfl
theorem names_ne {S : List Fl} {m : List UInt8} {n : Nat} (hm : m ∈ names S) (hz : ∀ f ∈ S, f.pa.size < n + 1) : 0 < n := by
  obtain ⟨f, hf, hd, _⟩ := (names_mem _ _).1 hm
  have h1 := hz f hf
  have h2 := subF_size hd
  omega
theorem bL_mem (l : List ByteArray) (x : ByteArray) : x.data.toList ∈ bL l ↔ x ∈ l := by
  unfold bL
  rw [List.mem_map]
  constructor
  · rintro ⟨y, hy, e⟩
    rwa [← bytes_ext e]
  · exact fun h => ⟨x, h, rfl⟩
theorem mrT_mem {n : Nat} {S : List Fl} {m x : List UInt8} (hn : 0 < n) : (x ∈ mrT n S m ∨ x = (dirF smD n (sub m S)).1.data.toList) ↔ x ∈ bL (dirF smD n (sub m S)).2 := by
  obtain ⟨k, rfl⟩ : ∃ k, n = k + 1 := ⟨n - 1, by omega⟩
  rw [dirF_in]
  show (x ∈ addAll _ ∨ _) ↔ _
  rw [addAll_mem]
  unfold bL
  rw [List.map_append, List.mem_append, List.map_cons, List.map_nil, List.mem_singleton]
theorem ad_all (n : Nat) {L : List Fl} (d : ByteArray) (hL : okT L) (h : okT (dv d L)) (hz : ∀ f ∈ dv d L, f.pa.size < n + 1) : addAll ((hs (dv d L)).flatMap (adD n L d)) = addAll (bL (inT n (dv d L))) := by
  refine rise_uniq (addAll_up _) (addAll_up _) fun x => ?_
  rw [addAll_mem, addAll_mem, List.mem_flatMap]
  have e1 : x ∈ bL (inT n (dv d L)) ↔ (∃ f, f ∈ tops (dv d L) ∧ f.tx.data.toList = x) ∨ ∃ m ∈ names (dv d L), x ∈ bL (dirF smD n (sub m (dv d L))).2 := by
    unfold bL inT
    rw [List.map_append, List.mem_append, List.map_map, List.mem_map, List.map_flatMap, List.mem_flatMap]
    rfl
  rw [e1]
  constructor
  · rintro ⟨m, hm, hx⟩
    unfold adD tD at hx
    rcases hs_cases d hL h hm with ⟨f, hf, hd, rfl, hkt⟩ | ⟨hn, hkt⟩
    · rw [hkt, if_neg (kd_ne _), if_neg (kd_ne _), List.nil_append, List.mem_singleton] at hx
      exact .inl ⟨f, List.mem_filter.2 ⟨hf, by rw [hd]; rfl⟩, hx.symm⟩
    · rw [hkt, if_pos rfl, if_pos rfl, List.mem_append, List.mem_singleton] at hx
      exact .inr ⟨m, hn, (mrT_mem (names_ne hn hz)).1 hx⟩
  · rintro (⟨f, hf, rfl⟩ | ⟨m, hm, hx⟩)
    · unfold tops at hf
      rw [List.mem_filter] at hf
      have hkt := kt_file hL d hf.1
      refine ⟨pth f, top_in hf.1 (by simpa using hf.2), ?_⟩
      unfold adD tD
      rw [hkt, if_neg (kd_ne _), if_neg (kd_ne _)]
      simp
    · rcases hs_cases d hL h (name_in hm) with ⟨f, hf, hd, e, _⟩ | ⟨_, hkt⟩
      · exfalso
        have hnd := nsF_nodup smD 0 h
        rw [nsF_keys, List.nodup_append] at hnd
        exact hnd.2.2 (pth f) (List.mem_map.2 ⟨f, List.mem_filter.2 ⟨hf, by rw [hd]; rfl⟩, rfl⟩) m hm e
      · refine ⟨m, name_in hm, ?_⟩
        unfold adD tD
        rw [hkt, if_pos rfl, if_pos rfl, List.mem_append, List.mem_singleton]
        exact (mrT_mem (names_ne hm hz)).2 hx
theorem inT_len (n : Nat) {S : List Fl} (h : okT S) (hn : n ≤ 101) : (inT n S).length ≤ 7000 := by
  have h1 := dirF_len smD (n + 1) S
  rw [dirF_in, List.length_append, List.length_singleton] at h1
  have h2 : (n + 1) * S.length ≤ 102 * 60 := Nat.mul_le_mul (by omega) h.1
  omega
theorem mrT_len (n : Nat) {S : List Fl} (h : okT S) (m : List UInt8) (hn : n ≤ 101) : (mrT n S m).length ≤ 7000 := by
  unfold mrT
  cases n with
  | zero => simp
  | succ k =>
    have h1 := addAll_len (bL (inT k (sub m S)))
    unfold bL at h1
    rw [List.length_map] at h1
    have h2 := inT_len k (okT_sub h m) (by omega)
    exact Nat.le_trans h1 h2
theorem adD_len (n : Nat) {L : List Fl} (d : ByteArray) (h : okT (dv d L)) (m : List UInt8) (hn : n ≤ 101) : (adD n L d m).length ≤ 7001 := by
  unfold adD
  rw [List.length_append, List.length_singleton]
  have := mrT_len n h m hn
  split
  · omega
  · simp
theorem adK_len (n : Nat) {L : List Fl} (d : ByteArray) (h : okT (dv d L)) (hn : n ≤ 101) (k : Nat) (hk : k ≤ 60) : (((hs (dv d L)).take k).flatMap (adD n L d)).length ≤ 420060 := by
  have h1 : ∀ l : List (List UInt8), (l.flatMap (adD n L d)).length ≤ l.length * 7001 := by
    intro l
    induction l with
    | nil => simp
    | cons a l ih =>
      rw [List.flatMap_cons, List.length_append, List.length_cons]
      have := adD_len n d h a hn
      omega
  have h2 := h1 ((hs (dv d L)).take k)
  have h3 : ((hs (dv d L)).take k).length ≤ 60 := by rw [List.length_take]; omega
  omega
end Go.Proofs.YtcdgdmhlbgbklaaGreatDoor

/- CRC-32 of a list of bytes, as plain numbers, with its laws: no program is named here. -/
namespace Go.Proofs.YtcdgdmhlbgbklaaGreatDoor
open Go.RowKit

def sh1 (x : Nat) : Nat := if x % 2 = 1 then (x / 2) ^^^ 3988292384 else x / 2
/-- So many shifts. -/
def shN : Nat → Nat → Nat
  | 0, x => x
  | n + 1, x => sh1 (shN n x)
def crcB (x : Nat) (b : UInt8) : Nat := shN 8 (x ^^^ b.toNat)
/-- The number behind these bytes. -/
def crcS (x : Nat) (l : List UInt8) : Nat := l.foldl crcB x
def crc (l : List UInt8) : Nat := 4294967295 - crcS 4294967295 l

theorem sh1_lt (x : Nat) (h : x < 2 ^ 32) : sh1 x < 2 ^ 32 := by
  unfold sh1
  split
  · exact Nat.xor_lt_two_pow (by omega) (by decide)
  · omega
theorem shN_lt (n x : Nat) (h : x < 2 ^ 32) : shN n x < 2 ^ 32 := by
  induction n with
  | zero => exact h
  | succ n ih => exact sh1_lt _ ih
theorem byte_lt (b : UInt8) : b.toNat < 2 ^ 32 := Nat.lt_trans b.toNat_lt (by decide)
theorem crcB_lt (x : Nat) (b : UInt8) (h : x < 2 ^ 32) : crcB x b < 2 ^ 32 := shN_lt _ _ (Nat.xor_lt_two_pow h (byte_lt b))
theorem crcS_lt (l : List UInt8) : ∀ x : Nat, x < 2 ^ 32 → crcS x l < 2 ^ 32 := by
  induction l with
  | nil => exact fun x h => h
  | cons b l ih => exact fun x h => ih _ (crcB_lt x b h)
theorem xor_half (x y : Nat) : (x ^^^ y) / 2 = (x / 2) ^^^ (y / 2) := by
  have := Nat.shiftRight_xor_distrib (a := x) (b := y) (i := 1)
  simpa [Nat.shiftRight_succ] using this
theorem xor_low (x y : Nat) : (x ^^^ y) % 2 = (x % 2 + y % 2) % 2 := by
  have h := Nat.xor_mod_two_pow (a := x) (b := y) (n := 1)
  simp only [Nat.pow_one] at h
  rw [h]
  rcases Nat.mod_two_eq_zero_or_one x with hx | hx <;> rcases Nat.mod_two_eq_zero_or_one y with hy | hy <;> rw [hx, hy] <;> rfl
theorem sh1_eq (x : Nat) : sh1 x = (x / 2) ^^^ (x % 2 * 3988292384) := by
  unfold sh1
  rcases Nat.mod_two_eq_zero_or_one x with hx | hx <;> simp [hx]
theorem sh1_xor (x y : Nat) : sh1 (x ^^^ y) = sh1 x ^^^ sh1 y := by
  have e : (x % 2 + y % 2) % 2 * 3988292384 = (x % 2 * 3988292384) ^^^ (y % 2 * 3988292384) := by
    rcases Nat.mod_two_eq_zero_or_one x with hx | hx <;> rcases Nat.mod_two_eq_zero_or_one y with hy | hy <;> simp [hx, hy]
  rw [sh1_eq, sh1_eq, sh1_eq, xor_half, xor_low, e]
  ac_rfl
theorem shN_xor (n x y : Nat) : shN n (x ^^^ y) = shN n x ^^^ shN n y := by
  induction n with
  | zero => rfl
  | succ n ih => simp only [shN]; rw [ih, sh1_xor]
theorem shN_high (n h m : Nat) : shN n (2 ^ (n + m) * h) = 2 ^ m * h := by
  induction n generalizing m with
  | zero => simp [shN]
  | succ n ih =>
    have := ih (m + 1)
    rw [show n + 1 + m = n + (m + 1) from by omega]
    simp only [shN, this]
    unfold sh1
    rw [if_neg (by rw [Nat.pow_succ, Nat.mul_right_comm, Nat.mul_mod_left]; decide), Nat.pow_succ, Nat.mul_right_comm, Nat.mul_div_cancel _ (by decide)]
/-- Of eight shifts the lowest byte alone decides what is xor-ed in. -/
theorem crcB_table (x : Nat) (b : UInt8) : crcB x b = (x / 256) ^^^ shN 8 ((x % 256) ^^^ b.toNat) := by
  have e : x = (2 ^ 8 * (x / 256)) ^^^ (x % 256) := by
    have h := Nat.two_pow_add_eq_or_of_lt (i := 8) (b := x % 256) (by omega) (x / 256)
    have h2 : (2 ^ 8 * (x / 256)) ^^^ (x % 256) = (2 ^ 8 * (x / 256)) ||| (x % 256) := by
      apply Nat.eq_of_testBit_eq
      intro i
      rw [Nat.testBit_xor, Nat.testBit_or]
      by_cases hi : i < 8
      · rw [Nat.testBit_two_pow_mul]; simp [Nat.not_le.2 hi]
      · rw [Nat.testBit_lt_two_pow (x := x % 256) (i := i) (Nat.lt_of_lt_of_le (show x % 256 < 2 ^ 8 from Nat.mod_lt _ (by decide)) (Nat.pow_le_pow_right (n := 2) (by decide) (show 8 ≤ i by omega)))]; simp
    rw [h2, ← h]
    omega
  have h8 := shN_high 8 (x / 256) 0
  simp only [Nat.add_zero, Nat.pow_zero, Nat.one_mul] at h8
  unfold crcB
  conv => lhs; rw [e]
  rw [Nat.xor_assoc, shN_xor, h8]

theorem top_bit (x : Nat) (h : x < 2 ^ 32) : (sh1 x).testBit 31 = decide (x % 2 = 1) := by
  have h2 : (x / 2).testBit 31 = false := Nat.testBit_lt_two_pow (by omega)
  unfold sh1
  split
  · rename_i h1
    rw [Nat.testBit_xor, h2, h1]
    decide
  · rename_i h1
    rw [h2]
    simp [h1]
theorem xor_cancel (a b c : Nat) (h : a ^^^ c = b ^^^ c) : a = b := by
  have := congrArg (· ^^^ c) h
  simpa [Nat.xor_assoc] using this
theorem sh1_inj (x y : Nat) (hx : x < 2 ^ 32) (hy : y < 2 ^ 32) (h : sh1 x = sh1 y) : x = y := by
  have ht := top_bit x hx
  rw [h, top_bit y hy] at ht
  have hb : x % 2 = y % 2 := by
    rcases Nat.mod_two_eq_zero_or_one x with h1 | h1 <;> rcases Nat.mod_two_eq_zero_or_one y with h2 | h2 <;> rw [h1, h2] at ht <;> first | omega | (simp at ht)
  rw [sh1_eq, sh1_eq, hb] at h
  have := xor_cancel _ _ _ h
  omega
theorem shN_inj (n : Nat) : ∀ x y : Nat, x < 2 ^ 32 → y < 2 ^ 32 → shN n x = shN n y → x = y := by
  induction n with
  | zero => exact fun x y _ _ h => h
  | succ n ih => exact fun x y hx hy h => ih x y hx hy (sh1_inj _ _ (shN_lt n x hx) (shN_lt n y hy) h)
theorem crcB_inj (x y : Nat) (b : UInt8) (hx : x < 2 ^ 32) (hy : y < 2 ^ 32) (h : crcB x b = crcB y b) : x = y :=
  xor_cancel _ _ _ (shN_inj 8 _ _ (Nat.xor_lt_two_pow hx (byte_lt b)) (Nat.xor_lt_two_pow hy (byte_lt b)) h)
theorem crcS_inj (l : List UInt8) : ∀ x y : Nat, x < 2 ^ 32 → y < 2 ^ 32 → crcS x l = crcS y l → x = y := by
  induction l with
  | nil => exact fun x y _ _ h => h
  | cons b l ih => exact fun x y hx hy h => crcB_inj x y b hx hy (ih _ _ (crcB_lt x b hx) (crcB_lt y b hy) h)
theorem crcB_byte (x : Nat) (b c : UInt8) (hx : x < 2 ^ 32) (h : crcB x b = crcB x c) : b = c := by
  have := shN_inj 8 _ _ (Nat.xor_lt_two_pow hx (byte_lt b)) (Nat.xor_lt_two_pow hx (byte_lt c)) h
  rw [Nat.xor_comm x, Nat.xor_comm x] at this
  exact UInt8.toNat.inj (xor_cancel _ _ _ this)
theorem crcS_append (x : Nat) (l m : List UInt8) : crcS x (l ++ m) = crcS (crcS x l) m := List.foldl_append ..
/-- A text in which one byte is another one has another check. -/
theorem crc_change (l m : List UInt8) (b c : UInt8) (hbc : b ≠ c) : crc (l ++ b :: m) ≠ crc (l ++ c :: m) := by
  intro h
  have h0 : (4294967295 : Nat) < 2 ^ 32 := by decide
  have h1 := crcS_lt (l ++ b :: m) 4294967295 h0
  have h2 := crcS_lt (l ++ c :: m) 4294967295 h0
  have he : crcS 4294967295 (l ++ b :: m) = crcS 4294967295 (l ++ c :: m) := by unfold crc at h; omega
  rw [crcS_append, crcS_append] at he
  have hl := crcS_lt l 4294967295 h0
  exact hbc (crcB_byte _ b c hl (crcS_inj m _ _ (crcB_lt _ b hl) (crcB_lt _ c hl) he))
theorem crc_lt (l : List UInt8) : crc l < 2 ^ 32 := by unfold crc; omega
theorem crcS_snoc (x : Nat) (l : List UInt8) (b : UInt8) : crcS x (l ++ [b]) = crcB (crcS x l) b := by rw [crcS_append]; rfl

theorem wraps_u32 (n : Int) (h₀ : 0 ≤ n) (h₁ : n < 2 ^ 32) : IntKind.u32.wrap n = n := by rw [IntKind.wrap_u32]; omega
theorem xor_u32 (a b : Nat) (ha : a < 2 ^ 32) (hb : b < 2 ^ 32) : bits .xor .u32 (a : Int) (b : Int) = ((a ^^^ b : Nat) : Int) := by
  have ha' : a % 2 ^ 32 = a := Nat.mod_eq_of_lt ha
  have hb' : b % 2 ^ 32 = b := Nat.mod_eq_of_lt hb
  show IntKind.u32.wrap (((BitVec.ofInt 32 (a : Int)) ^^^ (BitVec.ofInt 32 (b : Int))).toNat : Int) = _
  rw [BitVec.ofInt_natCast, BitVec.ofInt_natCast, BitVec.toNat_xor, BitVec.toNat_ofNat, BitVec.toNat_ofNat, ha', hb']
  exact wraps_u32 _ (Int.natCast_nonneg _) (by exact_mod_cast Nat.xor_lt_two_pow ha hb)
theorem xor_u8 (a b : Nat) (ha : a < 2 ^ 8) (hb : b < 2 ^ 8) : bits .xor .u8 (a : Int) (b : Int) = ((a ^^^ b : Nat) : Int) := by
  have ha' : a % 2 ^ 8 = a := Nat.mod_eq_of_lt ha
  have hb' : b % 2 ^ 8 = b := Nat.mod_eq_of_lt hb
  show IntKind.u8.wrap (((BitVec.ofInt 8 (a : Int)) ^^^ (BitVec.ofInt 8 (b : Int))).toNat : Int) = _
  rw [BitVec.ofInt_natCast, BitVec.ofInt_natCast, BitVec.toNat_xor, BitVec.toNat_ofNat, BitVec.toNat_ofNat, ha', hb']
  exact wraps_u8 _ (Int.natCast_nonneg _) (by exact_mod_cast Nat.xor_lt_two_pow ha hb)
theorem and1_u32 (a : Nat) (ha : a < 2 ^ 32) : bits .and .u32 (a : Int) 1 = ((a % 2 : Nat) : Int) := by
  have := (bits_nat .u32 32 (by decide) wraps_u32 a 1 ha (by decide)).1
  rw [Nat.and_one_is_mod] at this
  exact this
theorem not_u32 (a : Nat) (ha : a < 2 ^ 32) : bits .xor .u32 4294967295 (a : Int) = ((4294967295 - a : Nat) : Int) := by
  have := xor_u32 4294967295 a (by decide) ha
  rw [show ((4294967295 : Nat) : Int) = 4294967295 from rfl] at this
  rw [this]
  congr 1
  have h := BitVec.toNat_not (x := BitVec.ofNat 32 a)
  have h2 : (~~~ (BitVec.ofNat 32 a)) = BitVec.allOnes 32 ^^^ BitVec.ofNat 32 a := BitVec.not_def
  rw [h2, BitVec.toNat_xor, BitVec.toNat_ofNat, Nat.mod_eq_of_lt ha] at h
  simpa using h
end Go.Proofs.YtcdgdmhlbgbklaaGreatDoor

/- The document's own Bits, Xor and And: what they answer of numbers of 32 bits. -/
namespace Go.Proofs.YtcdgdmhlbgbklaaGreatDoor
open Go.RowKit

theorem low_step (x i : Nat) : x % 2 ^ (i + 1) = x % 2 ^ i + 2 ^ i * (x / 2 ^ i % 2) := Nat.mod_pow_succ
theorem xor_bit (a b i : Nat) : (a ^^^ b) / 2 ^ i % 2 = (a / 2 ^ i % 2 + b / 2 ^ i % 2) % 2 := by
  have := Nat.shiftRight_xor_distrib (a := a) (b := b) (i := i)
  rw [Nat.shiftRight_eq_div_pow, Nat.shiftRight_eq_div_pow, Nat.shiftRight_eq_div_pow] at this
  rw [this, xor_low]
theorem and_bit (a b i : Nat) : (a &&& b) / 2 ^ i % 2 = (a / 2 ^ i % 2) * (b / 2 ^ i % 2) := by
  have := Nat.shiftRight_and_distrib (a := a) (b := b) (i := i)
  rw [Nat.shiftRight_eq_div_pow, Nat.shiftRight_eq_div_pow, Nat.shiftRight_eq_div_pow] at this
  rw [this]
  have h := Nat.and_mod_two_pow (a := a / 2 ^ i) (b := b / 2 ^ i) (n := 1)
  simp only [Nat.pow_one] at h
  rw [h]
  rcases Nat.mod_two_eq_zero_or_one (a / 2 ^ i) with hx | hx <;> rcases Nat.mod_two_eq_zero_or_one (b / 2 ^ i) with hy | hy <;> rw [hx, hy] <;> rfl

set_option maxHeartbeats 1000000 in
theorem xor1_any (x y : Nat) (w : World) (hx : x < 2) (hy : y < 2) :
    Calls Tryz.prog 177 #[.int .i64 x, .int .i64 y] w fun e w' => e = .returned (.int .i64 (((x + y) % 2 : Nat) : Int)) ∧ w' = w := by
  have h1 : (x : Int) < 2 := by omega
  have h2 : (y : Int) < 2 := by omega
  go_enter Tryz.func177, Tryz.ntmps177
  go_wp2
  go_ret
  exact ⟨by simp, rfl⟩

set_option maxHeartbeats 1000000 in
theorem and1_any (x y : Nat) (w : World) (hx : x < 2) (hy : y < 2) :
    Calls Tryz.prog 178 #[.int .i64 x, .int .i64 y] w fun e w' => e = .returned (.int .i64 ((x * y : Nat) : Int)) ∧ w' = w := by
  have h1 : (x : Int) < 2 := by omega
  have h2 : (y : Int) < 2 := by omega
  have h3 : ((x * y : Nat) : Int) = (x : Int) * (y : Int) := by push_cast; rfl
  have h4 : IntKind.i64.wrap ((x : Int) * (y : Int)) = (x : Int) * (y : Int) := by
    have : x * y ≤ 1 * 1 := Nat.mul_le_mul (by omega) (by omega)
    rw [← h3, IntKind.wrap_i64]
    omega
  rw [h3]
  go_enter Tryz.func178, Tryz.ntmps178
  go_wp2
  go_ret
  exact ⟨by simp, rfl⟩

theorem pow32 (k : Nat) (hk : k ≤ 32) : 2 ^ k ≤ 4294967296 := Nat.pow_le_pow_right (n := 2) (by decide) hk

set_option maxHeartbeats 2000000 in
set_option maxRecDepth 100000 in
theorem bits_xor (a b : Nat) (w : World) (ha : a < 2 ^ 32) (hb : b < 2 ^ 32) :
    Calls Tryz.prog 176 #[.int .i64 a, .int .i64 b, .func (.func 177) #[] #[]] w fun e w' => e = .returned (.int .i64 ((a ^^^ b : Nat) : Int)) ∧ w' = w := by
  have HR : Hid (a ^^^ b < 2 ^ 32) := Nat.xor_lt_two_pow ha hb
  have HA : Hid (a < 2 ^ 32) := ha
  have HB : Hid (b < 2 ^ 32) := hb
  clear ha hb
  go_enter Tryz.func176, Tryz.ntmps176
  go_wp2
  go_loop [0, 1, 7, 8, 9] (fun va vb vn vt i => ∃ k : Nat, k ≤ 32 ∧ va = .int .i64 (a / 2 ^ k : Nat) ∧ vb = .int .i64 (b / 2 ^ k : Nat) ∧ vn = .int .i64 ((a ^^^ b) % 2 ^ k : Nat) ∧ vt = .int .i64 (2 ^ k : Nat) ∧ i = .int .i64 k) (fun _ _ _ _ i => 32 - (intOf i).toNat)
  case atStart => exact ⟨0, by omega, by simp, by simp, by simp [Nat.mod_one], by simp, rfl⟩
  case round =>
    obtain ⟨k, hk, rfl, rfl, rfl, rfl, rfl⟩ := hrel
    by_cases hlt : k < 32
    · have i2 : (k : Int) < 32 := by omega
      have HS : Hid ((a ^^^ b) % 2 ^ (k + 1) = (a ^^^ b) % 2 ^ k + 2 ^ k * ((a / 2 ^ k % 2 + b / 2 ^ k % 2) % 2) ∧ a / 2 ^ (k + 1) = a / 2 ^ k / 2 ∧ b / 2 ^ (k + 1) = b / 2 ^ k / 2 ∧ 2 ^ (k + 1) = 2 * 2 ^ k) :=
        ⟨by rw [low_step, xor_bit], by rw [Nat.pow_succ, Nat.div_div_eq_div_mul], by rw [Nat.pow_succ, Nat.div_div_eq_div_mul], by rw [Nat.pow_succ, Nat.mul_comm]⟩
      have p1 : a / 2 ^ k < 4294967296 := Nat.lt_of_le_of_lt (Nat.div_le_self _ _) HA.out
      have p2 : b / 2 ^ k < 4294967296 := Nat.lt_of_le_of_lt (Nat.div_le_self _ _) HB.out
      have p3 : (a ^^^ b) % 2 ^ k < 4294967296 := Nat.lt_of_le_of_lt (Nat.mod_le _ _) HR.out
      have p4 := pow32 k hk
      generalize a / 2 ^ k = x at p1 HS
      generalize b / 2 ^ k = y at p2 HS
      generalize (a ^^^ b) % 2 ^ k = n at p3 HS
      generalize 2 ^ k = q at p4 HS
      have hx : (x : Int) % 2 = ((x % 2 : Nat) : Int) := by omega
      have hy : (y : Int) % 2 = ((y % 2 : Nat) : Int) := by omega
      obtain ⟨u, hu⟩ : ∃ u, u = x % 2 := ⟨_, rfl⟩
      obtain ⟨v, hv⟩ : ∃ v, v = y % 2 := ⟨_, rfl⟩
      rw [← hu] at hx
      rw [← hv] at hy
      obtain ⟨t, htt⟩ : ∃ t, t = (u + v) % 2 := ⟨_, rfl⟩
      have HF : Hid (∀ w, Calls Tryz.prog 177 #[.int .i64 u, .int .i64 v] w fun e w' => e = .returned (.int .i64 (t : Int)) ∧ w' = w) := fun w => by rw [htt]; exact xor1_any u v w (by omega) (by omega)
      have ht1 : t ≤ 1 := by omega
      have hqt : q * t ≤ 4294967296 := Nat.le_trans (Nat.mul_le_mul_left q ht1) (by omega)
      have m0 : (q : Int) * (t : Int) = ((q * t : Nat) : Int) := by push_cast; rfl
      have HV : Hid (t = (x % 2 + y % 2) % 2) := by show _ = _; rw [htt, hu, hv]
      clear hu hv htt
      generalize hz : q * t = z at hqt m0
      have HZ : Hid (q * t = z) := hz
      clear hz
      go_wp2_with (go_at_call 177; refine (HF.out _).mono ?_; rintro e w' ⟨rfl, rfl⟩)
      refine ⟨⟨k + 1, by omega, ?_, ?_, ?_, ?_, by go_num⟩, by simp [intOf]; omega⟩
      · rw [HS.out.2.1]; go_num
      · rw [HS.out.2.2.1]; go_num
      · rw [HS.out.1, ← HV.out, HZ.out]; go_num
      · rw [HS.out.2.2.2]; go_num
    · obtain rfl : k = 32 := by omega
      have HM : Hid ((a ^^^ b) % 2 ^ 32 = a ^^^ b) := Nat.mod_eq_of_lt HR.out
      generalize (a ^^^ b) % 2 ^ 32 = n at HM
      generalize a / 2 ^ 32 = x
      generalize b / 2 ^ 32 = y
      generalize 2 ^ 32 = q
      go_wp2
      go_ret
      exact ⟨by rw [← HM.out]; rfl, rfl⟩

set_option maxHeartbeats 2000000 in
set_option maxRecDepth 100000 in
theorem bits_and (a b : Nat) (w : World) (ha : a < 2 ^ 32) (hb : b < 2 ^ 32) :
    Calls Tryz.prog 176 #[.int .i64 a, .int .i64 b, .func (.func 178) #[] #[]] w fun e w' => e = .returned (.int .i64 ((a &&& b : Nat) : Int)) ∧ w' = w := by
  have HR : Hid (a &&& b < 2 ^ 32) := Nat.and_lt_two_pow _ hb
  have HA : Hid (a < 2 ^ 32) := ha
  have HB : Hid (b < 2 ^ 32) := hb
  clear ha hb
  go_enter Tryz.func176, Tryz.ntmps176
  go_wp2
  go_loop [0, 1, 7, 8, 9] (fun va vb vn vt i => ∃ k : Nat, k ≤ 32 ∧ va = .int .i64 (a / 2 ^ k : Nat) ∧ vb = .int .i64 (b / 2 ^ k : Nat) ∧ vn = .int .i64 ((a &&& b) % 2 ^ k : Nat) ∧ vt = .int .i64 (2 ^ k : Nat) ∧ i = .int .i64 k) (fun _ _ _ _ i => 32 - (intOf i).toNat)
  case atStart => exact ⟨0, by omega, by simp, by simp, by simp [Nat.mod_one], by simp, rfl⟩
  case round =>
    obtain ⟨k, hk, rfl, rfl, rfl, rfl, rfl⟩ := hrel
    by_cases hlt : k < 32
    · have i2 : (k : Int) < 32 := by omega
      have HS : Hid ((a &&& b) % 2 ^ (k + 1) = (a &&& b) % 2 ^ k + 2 ^ k * ((a / 2 ^ k % 2) * (b / 2 ^ k % 2)) ∧ a / 2 ^ (k + 1) = a / 2 ^ k / 2 ∧ b / 2 ^ (k + 1) = b / 2 ^ k / 2 ∧ 2 ^ (k + 1) = 2 * 2 ^ k) :=
        ⟨by rw [low_step, and_bit], by rw [Nat.pow_succ, Nat.div_div_eq_div_mul], by rw [Nat.pow_succ, Nat.div_div_eq_div_mul], by rw [Nat.pow_succ, Nat.mul_comm]⟩
      have p1 : a / 2 ^ k < 4294967296 := Nat.lt_of_le_of_lt (Nat.div_le_self _ _) HA.out
      have p2 : b / 2 ^ k < 4294967296 := Nat.lt_of_le_of_lt (Nat.div_le_self _ _) HB.out
      have p3 : (a &&& b) % 2 ^ k < 4294967296 := Nat.lt_of_le_of_lt (Nat.mod_le _ _) HR.out
      have p4 := pow32 k hk
      generalize a / 2 ^ k = x at p1 HS
      generalize b / 2 ^ k = y at p2 HS
      generalize (a &&& b) % 2 ^ k = n at p3 HS
      generalize 2 ^ k = q at p4 HS
      have hx : (x : Int) % 2 = ((x % 2 : Nat) : Int) := by omega
      have hy : (y : Int) % 2 = ((y % 2 : Nat) : Int) := by omega
      obtain ⟨u, hu⟩ : ∃ u, u = x % 2 := ⟨_, rfl⟩
      obtain ⟨v, hv⟩ : ∃ v, v = y % 2 := ⟨_, rfl⟩
      rw [← hu] at hx
      rw [← hv] at hy
      obtain ⟨t, htt⟩ : ∃ t, t = u * v := ⟨_, rfl⟩
      have HF : Hid (∀ w, Calls Tryz.prog 178 #[.int .i64 u, .int .i64 v] w fun e w' => e = .returned (.int .i64 (t : Int)) ∧ w' = w) := fun w => by rw [htt]; exact and1_any u v w (by omega) (by omega)
      have ht1 : t ≤ 1 := by
        have : u * v ≤ 1 * 1 := Nat.mul_le_mul (by omega) (by omega)
        omega
      have hqt : q * t ≤ 4294967296 := Nat.le_trans (Nat.mul_le_mul_left q ht1) (by omega)
      have m0 : (q : Int) * (t : Int) = ((q * t : Nat) : Int) := by push_cast; rfl
      have HV : Hid (t = (x % 2) * (y % 2)) := by show _ = _; rw [htt, hu, hv]
      clear hu hv htt
      generalize hz : q * t = z at hqt m0
      have HZ : Hid (q * t = z) := hz
      clear hz
      go_wp2_with (go_at_call 178; refine (HF.out _).mono ?_; rintro e w' ⟨rfl, rfl⟩)
      refine ⟨⟨k + 1, by omega, ?_, ?_, ?_, ?_, by go_num⟩, by simp [intOf]; omega⟩
      · rw [HS.out.2.1]; go_num
      · rw [HS.out.2.2.1]; go_num
      · rw [HS.out.1, ← HV.out, HZ.out]; go_num
      · rw [HS.out.2.2.2]; go_num
    · obtain rfl : k = 32 := by omega
      have HM : Hid ((a &&& b) % 2 ^ 32 = a &&& b) := Nat.mod_eq_of_lt HR.out
      generalize (a &&& b) % 2 ^ 32 = n at HM
      generalize a / 2 ^ 32 = x
      generalize b / 2 ^ 32 = y
      generalize 2 ^ 32 = q
      go_wp2
      go_ret
      exact ⟨by rw [← HM.out]; rfl, rfl⟩

/-- All of them, xor-ed. -/
def xors (l : List Nat) : Nat := l.foldl (· ^^^ ·) 0
theorem xors_lt (l : List Nat) (h : ∀ x ∈ l, x < 2 ^ 32) : xors l < 2 ^ 32 := by
  suffices ∀ (l : List Nat) (n : Nat), n < 2 ^ 32 → (∀ x ∈ l, x < 2 ^ 32) → l.foldl (· ^^^ ·) n < 2 ^ 32 from this l 0 (by decide) h
  intro l
  induction l with
  | nil => exact fun n hn _ => hn
  | cons x l ih => exact fun n hn hx => ih _ (Nat.xor_lt_two_pow hn (hx x (List.mem_cons_self ..))) fun y hy => hx y (List.mem_cons_of_mem _ hy)

set_option maxHeartbeats 2000000 in
set_option maxRecDepth 100000 in
theorem Xor_any (g cap : Nat) (l : List Nat) (w : World) (hl : l.length ≤ 1000) (h32 : ∀ x ∈ l, x < 2 ^ 32) (hc : ∀ j (hj : j < l.length), w.cell? ⟨g, j, none⟩ = some (.int .i64 (l[j] : Int))) :
    Calls Tryz.prog 126 #[.slice (some ⟨g, 0, none⟩) l.length cap] w fun e w' => e = .returned (.int .i64 (xors l : Nat)) ∧ w' = w := by
  have HC : Hid (∀ j (hj : j < l.length), w.cell? ⟨g, j, none⟩ = some (.int .i64 (l[j] : Int))) := hc
  have H32 : Hid (∀ x ∈ l, x < 2 ^ 32) := h32
  have hl1 : (l.length : Int) ≤ 1000 := by omega
  clear hc h32
  go_enter Tryz.func126, Tryz.ntmps126
  go_wp2
  go_loop [3, 4] (fun v i => ∃ k : Nat, k ≤ l.length ∧ v = .int .i64 (xors (l.take k) : Nat) ∧ i = .int .i64 k) (fun _ i => l.length - (intOf i).toNat)
  case atStart => exact ⟨0, Nat.zero_le _, rfl, rfl⟩
  case round =>
    obtain ⟨k, hk, rfl, rfl⟩ := hrel
    by_cases hlt : k < l.length
    · have c1 := HC.out k hlt
      have HS : Hid (xors (l.take (k + 1)) = xors (l.take k) ^^^ l[k]) := by
        show _ = _
        rw [List.take_succ_eq_append_getElem hlt, xors, List.foldl_append]
        rfl
      have HX : Hid (∀ w, Calls Tryz.prog 176 #[.int .i64 (xors (l.take k) : Nat), .int .i64 (l[k] : Nat), .func (.func 177) #[] #[]] w fun e w' => e = .returned (.int .i64 ((xors (l.take k) ^^^ l[k] : Nat) : Int)) ∧ w' = w) :=
        fun w => bits_xor _ _ w (xors_lt _ fun x hx => H32.out x (List.mem_of_mem_take hx)) (H32.out _ (List.getElem_mem hlt))
      generalize xors (l.take k) ^^^ l[k] = z at HS HX
      generalize xors (l.take k) = n at HX
      generalize l[k] = x at c1 HX
      go_wp2_with (go_at_call 176; refine (HX.out _).mono ?_; rintro e w' ⟨rfl, rfl⟩)
      refine ⟨⟨k + 1, by omega, ?_, by go_num⟩, by simp [intOf]; omega⟩
      rw [HS.out]
    · have HK : Hid (xors l = xors (l.take k)) := by show _ = _; rw [List.take_of_length_le (by omega)]
      generalize xors (l.take k) = n at HK
      go_wp2
      go_ret
      exact ⟨by rw [HK.out]; rfl, rfl⟩

set_option maxHeartbeats 1000000 in
set_option maxRecDepth 100000 in
theorem Pow2_any (n : Nat) (w : World) (hn : n ≤ 60) :
    Calls Tryz.prog 123 #[.int .i64 n] w fun e w' => e = .returned (.int .i64 ((2 ^ n : Nat) : Int)) ∧ w' = w := by
  obtain ⟨r, hr⟩ : ∃ r : Nat, 2 ^ n = r := ⟨_, rfl⟩
  rw [hr]
  have HR : Hid (2 ^ n = r) := hr
  clear hr
  go_enter Tryz.func123, Tryz.ntmps123
  go_wp2
  go_loop [0, 3] (fun i v => ∃ k : Nat, k ≤ n ∧ i = .int .i64 ((n - k : Nat) : Int) ∧ v = .int .i64 ((2 ^ k : Nat) : Int)) (fun i _ => (intOf i).toNat)
  case atStart => exact ⟨0, Nat.zero_le _, rfl, rfl⟩
  case round =>
    obtain ⟨k, hk, rfl, rfl⟩ := hrel
    have hp : 2 ^ k ≤ 2 ^ 60 := Nat.pow_le_pow_right (by decide) (by omega)
    have HS : Hid (2 ^ (k + 1) = 2 * 2 ^ k) := by show _ = _; rw [Nat.pow_succ, Nat.mul_comm]
    by_cases hlt : k < n
    · obtain ⟨d, hd⟩ : ∃ d, n - k = d + 1 := ⟨n - k - 1, by omega⟩
      have HD : Hid (n - (k + 1) = d) := by show _ = _; omega
      rw [hd]
      generalize 2 ^ k = p at hp HS
      have hpi : (p : Int) ≤ 1152921504606846976 := by omega
      have hdi : (d : Int) ≤ 60 := by omega
      clear hp hd
      go_wp2
      refine ⟨⟨k + 1, by omega, ?_, ?_⟩, by simp [intOf]⟩
      · rw [HD.out]
      · rw [HS.out]; go_num
    · have HE : Hid (r = 2 ^ k) := by show _ = _; rw [← HR.out, show n = k by omega]
      have hz : n - k = 0 := by omega
      rw [hz]
      generalize 2 ^ k = p at HE
      go_wp2
      go_ret
      exact ⟨by rw [HE.out]; rfl, rfl⟩
end Go.Proofs.YtcdgdmhlbgbklaaGreatDoor

/- The document's own Wrap, And and Right, of numbers of 32 bits. -/
namespace Go.Proofs.YtcdgdmhlbgbklaaGreatDoor
open Go.RowKit

set_option maxHeartbeats 1000000 in
set_option maxRecDepth 100000 in
theorem Wrap_any (n : Nat) (w : World) :
    Calls Tryz.prog 128 #[.int .i64 n] w fun e w' => e = .returned (.int .i64 ((n % 4294967296 : Nat) : Int)) ∧ w' = w := by
  obtain ⟨r, hr⟩ : ∃ r, n % 4294967296 = r := ⟨_, rfl⟩
  rw [hr]
  have h1 : (n : Int) % 4294967296 = (r : Int) := by omega
  clear hr
  go_enter Tryz.func128, Tryz.ntmps128
  go_wp2
  go_ret
  exact ⟨by simp; exact h1, rfl⟩

set_option maxHeartbeats 1000000 in
theorem And_any (a b : Nat) (w : World) (ha : a < 2 ^ 32) (hb : b < 2 ^ 32) :
    Calls Tryz.prog 129 #[.int .i64 a, .int .i64 b] w fun e w' => e = .returned (.int .i64 ((a &&& b : Nat) : Int)) ∧ w' = w := by
  have HB : Hid (Calls Tryz.prog 176 #[.int .i64 a, .int .i64 b, .func (.func 178) #[] #[]] w fun e w' => e = .returned (.int .i64 ((a &&& b : Nat) : Int)) ∧ w' = w) := bits_and a b w ha hb
  generalize a &&& b = r at HB
  clear ha hb
  go_enter Tryz.func129, Tryz.ntmps129
  go_wp2_with fail
  refine HB.out.mono ?_
  rintro e w' ⟨rfl, rfl⟩
  go_wp2
  go_ret
  exact ⟨rfl, rfl⟩

/-- A number of 32 bits, turned right. -/
def rightN (x n : Nat) : Nat := x / 2 ^ n + x % 2 ^ n * 2 ^ (32 - n)
theorem wr62 (n : Nat) (h : n < 4294967296) : IntKind.i64.wrap (n : Int) = (n : Int) := by rw [IntKind.wrap_i64]; omega
theorem wr63 (n : Nat) (h : n < 4294967296) : wrap64 (n : Int) = (n : Int) := by unfold wrap64; omega
theorem tdivN (a b : Nat) : (a : Int).tdiv (b : Int) = ((a / b : Nat) : Int) := rfl
theorem tmodN (a b : Nat) : (a : Int).tmod (b : Int) = ((a % b : Nat) : Int) := rfl
theorem right_lt (x n : Nat) (hx : x < 2 ^ 32) (h2 : n ≤ 31) : x % 2 ^ n * 2 ^ (32 - n) < 2 ^ 32 ∧ rightN x n < 2 ^ 32 := by
  have h1 : x % 2 ^ n < 2 ^ n := Nat.mod_lt _ (Nat.two_pow_pos n)
  have h3 : 2 ^ n * 2 ^ (32 - n) = 2 ^ 32 := by rw [← Nat.pow_add]; congr 1; omega
  have h4 : x % 2 ^ n * 2 ^ (32 - n) ≤ (2 ^ n - 1) * 2 ^ (32 - n) := Nat.mul_le_mul_right _ (by omega)
  have h5 : (2 ^ n - 1) * 2 ^ (32 - n) = 2 ^ 32 - 2 ^ (32 - n) := by rw [Nat.sub_mul, h3, Nat.one_mul]
  have h6 : x / 2 ^ n < 2 ^ (32 - n) := by rw [Nat.div_lt_iff_lt_mul (Nat.two_pow_pos n), Nat.mul_comm, h3]; exact hx
  have h7 := Nat.two_pow_pos (32 - n)
  have h8 : 2 ^ (32 - n) ≤ 2 ^ 32 := Nat.pow_le_pow_right (by decide) (by omega)
  unfold rightN
  omega

set_option maxHeartbeats 4000000 in
set_option maxRecDepth 100000 in
theorem Right_any (x n : Nat) (w : World) (hx : x < 2 ^ 32) (h1 : 1 ≤ n) (h2 : n ≤ 31) :
    Calls Tryz.prog 127 #[.int .i64 x, .int .i64 n] w fun e w' => e = .returned (.int .i64 (rightN x n : Nat)) ∧ ∃ m, w' = w.drewN m := by
  obtain ⟨hl1, hl2⟩ := right_lt x n hx h2
  have HR : Hid (rightN x n = x / 2 ^ n + x % 2 ^ n * 2 ^ (32 - n)) := rfl
  have HP1 : Hid (∀ w, Calls Tryz.prog 123 #[.int .i64 n] w fun e w' => e = .returned (.int .i64 ((2 ^ n : Nat) : Int)) ∧ w' = w) := fun w => Pow2_any n w (by omega)
  have HP2 : Hid (∀ w, Calls Tryz.prog 123 #[.int .i64 ((32 - n : Nat) : Int)] w fun e w' => e = .returned (.int .i64 ((2 ^ (32 - n) : Nat) : Int)) ∧ w' = w) := fun w => Pow2_any (32 - n) w (by omega)
  have hm : (32 : Int) - (n : Int) = ((32 - n : Nat) : Int) := by omega
  have hpb : 2 ^ n ≤ 4294967296 := Nat.pow_le_pow_right (n := 2) (by decide) (show n ≤ 32 by omega)
  have hpp := Nat.two_pow_pos n
  generalize rightN x n = r at hl2 HR
  generalize 2 ^ n = p at hl1 HR HP1 hpb hpp
  generalize 2 ^ (32 - n) = q at hl1 HR HP2
  generalize 32 - n = m at hm HP2
  obtain ⟨d, hd⟩ : ∃ d, x / p = d := ⟨_, rfl⟩
  obtain ⟨e0, he⟩ : ∃ e0, x % p = e0 := ⟨_, rfl⟩
  obtain ⟨z, hz⟩ : ∃ z, e0 * q = z := ⟨_, rfl⟩
  rw [he] at hl1
  have hdi : (x : Int) / (p : Int) = (d : Int) := by rw [← hd]; push_cast; rfl
  have hei : (x : Int) % (p : Int) = (e0 : Int) := by rw [← he]; push_cast; rfl
  have hzi : (e0 : Int) * (q : Int) = (z : Int) := by rw [← hz]; push_cast; rfl
  have HR2 : Hid (r = d + z) := by show _ = _; rw [HR.out, hd, he, hz]
  have hp0 : ((p : Int) == 0) = false := beq_eq_false_iff_ne.2 (by omega)
  have hpn : ¬ (p : Int) = 0 := by omega
  have hpm : ¬ p = 0 := by omega
  have hdl : d < 4294967296 := Nat.lt_of_le_of_lt (by rw [← hd]; exact Nat.div_le_self _ _) hx
  have hdz : (d : Int) + (z : Int) = (r : Int) := by have := HR2.out; omega
  have hzl : z < 4294967296 := by rw [← hz]; exact hl1
  have hmi : (m : Int) ≤ 31 := by omega
  have hn0 : (0 : Int) ≤ (n : Int) := by omega
  have f1 := wr62 d hdl
  have f2 := wr62 z hzl
  have f3 := wr62 r hl2
  have f4 := wr62 m (by omega)
  have f5 : (x : Int).tdiv (p : Int) = (d : Int) := by rw [← hd]; exact tdivN x p
  have f6 : (x : Int).tmod (p : Int) = (e0 : Int) := by rw [← he]; exact tmodN x p
  clear hd he hz hl1 hpb hpp hx h1 h2 HR hl2 hdl hzl
  go_enter Tryz.func127, Tryz.ntmps127
  go_wp2
  go_region_with (first | (go_at_call_of 123 (Value.int IntKind.i64 (n : Int)); refine (HP1.out _).mono ?_; rintro e w' ⟨rfl, rfl⟩) | (go_at_call_of 123 (Value.int IntKind.i64 (m : Int)); refine (HP2.out _).mono ?_; rintro e w' ⟨rfl, rfl⟩) | fail)
  all_goals go_wp2
  all_goals go_ret
  all_goals exact ⟨rfl, 1, rfl⟩
end Go.Proofs.YtcdgdmhlbgbklaaGreatDoor

/- The digest's own words and mixing, of numbers that are not negative: what they are as plain numbers, as the document reckons them. -/
namespace Go.Proofs.YtcdgdmhlbgbklaaGreatDoor
open Go.RowKit

theorem or_u32 (a b : Nat) (ha : a < 2 ^ 32) (hb : b < 2 ^ 32) : bits .or .u32 (a : Int) (b : Int) = ((a ||| b : Nat) : Int) := (bits_nat .u32 32 (by decide) wraps_u32 a b ha hb).2
theorem and_u32 (a b : Nat) (ha : a < 2 ^ 32) (hb : b < 2 ^ 32) : bits .and .u32 (a : Int) (b : Int) = ((a &&& b : Nat) : Int) := (bits_nat .u32 32 (by decide) wraps_u32 a b ha hb).1
theorem rot_nat (x n : Nat) (hx : x < 2 ^ 32) (h1 : 1 ≤ n) (h2 : n ≤ 31) : rotR (x : Int) n = (rightN x n : Int) := by
  obtain ⟨hl1, hl2⟩ := right_lt x n hx h2
  have h3 : 2 ^ 32 = 2 ^ n * 2 ^ (32 - n) := by rw [← Nat.pow_add]; congr 1; omega
  have e1 : IntKind.u32.wrap ((x : Int) * 2 ^ (32 - n)) = ((x % 2 ^ n * 2 ^ (32 - n) : Nat) : Int) := by
    rw [show (x : Int) * 2 ^ (32 - n) = ((x * 2 ^ (32 - n) : Nat) : Int) from by push_cast; rfl, IntKind.wrap_u32, show (4294967296 : Int) = ((2 ^ 32 : Nat) : Int) from rfl, ← Int.natCast_emod, h3, Nat.mul_mod_mul_right]
  have e2 : (x : Int) / 2 ^ n = ((x / 2 ^ n : Nat) : Int) := by push_cast; rfl
  have h6 : x / 2 ^ n < 2 ^ (32 - n) := by rw [Nat.div_lt_iff_lt_mul (Nat.two_pow_pos n), Nat.mul_comm, ← h3]; exact hx
  have h8 : 2 ^ (32 - n) ≤ 2 ^ 32 := Nat.pow_le_pow_right (by decide) (by omega)
  unfold rotR
  rw [e1, e2, or_u32 _ _ hl1 (by omega), Nat.mul_comm (x % 2 ^ n), ← Nat.two_pow_add_eq_or_of_lt h6]
  unfold rightN
  congr 1
  rw [Nat.mul_comm (x % 2 ^ n)]
  omega

def sig0N (x : Nat) : Nat := rightN x 7 ^^^ rightN x 18 ^^^ x / 8
def sig1N (x : Nat) : Nat := rightN x 17 ^^^ rightN x 19 ^^^ x / 1024
def big0N (x : Nat) : Nat := rightN x 2 ^^^ rightN x 13 ^^^ rightN x 22
def big1N (x : Nat) : Nat := rightN x 6 ^^^ rightN x 11 ^^^ rightN x 25
def chN (e f g : Nat) : Nat := (e &&& f) ^^^ ((4294967295 - e) &&& g)
def majN (a b c : Nat) : Nat := (a &&& b) ^^^ (a &&& c) ^^^ (b &&& c)
theorem xor3 (a b c : Nat) (ha : a < 2 ^ 32) (hb : b < 2 ^ 32) (hc : c < 2 ^ 32) : bits .xor .u32 (bits .xor .u32 (a : Int) (b : Int)) (c : Int) = ((a ^^^ b ^^^ c : Nat) : Int) ∧ a ^^^ b ^^^ c < 2 ^ 32 := by
  rw [xor_u32 a b ha hb, xor_u32 _ c (Nat.xor_lt_two_pow ha hb) hc]
  exact ⟨rfl, Nat.xor_lt_two_pow (Nat.xor_lt_two_pow ha hb) hc⟩
theorem sig0_nat (x : Nat) (hx : x < 2 ^ 32) : sig0 (x : Int) = (sig0N x : Int) ∧ sig0N x < 2 ^ 32 := by
  unfold sig0 sig0N
  rw [rot_nat x 7 hx (by decide) (by decide), rot_nat x 18 hx (by decide) (by decide), show (x : Int) / 8 = ((x / 8 : Nat) : Int) from by omega]
  exact xor3 _ _ _ (right_lt x 7 hx (by decide)).2 (right_lt x 18 hx (by decide)).2 (by omega)
theorem sig1_nat (x : Nat) (hx : x < 2 ^ 32) : sig1 (x : Int) = (sig1N x : Int) ∧ sig1N x < 2 ^ 32 := by
  unfold sig1 sig1N
  rw [rot_nat x 17 hx (by decide) (by decide), rot_nat x 19 hx (by decide) (by decide), show (x : Int) / 1024 = ((x / 1024 : Nat) : Int) from by omega]
  exact xor3 _ _ _ (right_lt x 17 hx (by decide)).2 (right_lt x 19 hx (by decide)).2 (by omega)
theorem big0_nat (x : Nat) (hx : x < 2 ^ 32) : big0 (x : Int) = (big0N x : Int) ∧ big0N x < 2 ^ 32 := by
  unfold big0 big0N
  rw [rot_nat x 2 hx (by decide) (by decide), rot_nat x 13 hx (by decide) (by decide), rot_nat x 22 hx (by decide) (by decide)]
  exact xor3 _ _ _ (right_lt x 2 hx (by decide)).2 (right_lt x 13 hx (by decide)).2 (right_lt x 22 hx (by decide)).2
theorem big1_nat (x : Nat) (hx : x < 2 ^ 32) : big1 (x : Int) = (big1N x : Int) ∧ big1N x < 2 ^ 32 := by
  unfold big1 big1N
  rw [rot_nat x 6 hx (by decide) (by decide), rot_nat x 11 hx (by decide) (by decide), rot_nat x 25 hx (by decide) (by decide)]
  exact xor3 _ _ _ (right_lt x 6 hx (by decide)).2 (right_lt x 11 hx (by decide)).2 (right_lt x 25 hx (by decide)).2
theorem ch_nat (e f g : Nat) (he : e < 2 ^ 32) (hf : f < 2 ^ 32) (hg : g < 2 ^ 32) : ch (e : Int) (f : Int) (g : Int) = (chN e f g : Int) ∧ chN e f g < 2 ^ 32 := by
  have h1 : bits .xor .u32 IntKind.u32.max (e : Int) = ((4294967295 - e : Nat) : Int) := not_u32 e he
  have a1 : e &&& f < 2 ^ 32 := Nat.and_lt_two_pow _ hf
  have a2 : (4294967295 - e) &&& g < 2 ^ 32 := Nat.and_lt_two_pow _ hg
  unfold ch chN
  rw [h1, and_u32 e f he hf, and_u32 _ g (by omega) hg, xor_u32 _ _ a1 a2]
  exact ⟨rfl, Nat.xor_lt_two_pow a1 a2⟩
theorem maj_nat (a b c : Nat) (ha : a < 2 ^ 32) (hb : b < 2 ^ 32) (hc : c < 2 ^ 32) : maj (a : Int) (b : Int) (c : Int) = (majN a b c : Int) ∧ majN a b c < 2 ^ 32 := by
  unfold maj majN
  rw [and_u32 a b ha hb, and_u32 a c ha hc, and_u32 b c hb hc]
  exact xor3 _ _ _ (Nat.and_lt_two_pow _ hb) (Nat.and_lt_two_pow _ hc) (Nat.and_lt_two_pow _ hc)

/-- Four bytes, the greatest first. -/
def be4N (a b c d : Nat) : Nat := ((a * 256 + b) * 256 + c) * 256 + d
theorem be4_nat (a b c d : Nat) (ha : a < 256) (hb : b < 256) (hc : c < 256) (hd : d < 256) : be4 (a : Int) (b : Int) (c : Int) (d : Int) = (be4N a b c d : Int) ∧ be4N a b c d < 2 ^ 32 := by
  have e1 : (a : Int) % 4294967296 * 16777216 % 4294967296 = ((2 ^ 24 * a : Nat) : Int) := by omega
  have e2 : (b : Int) % 4294967296 * 65536 % 4294967296 = ((2 ^ 16 * b : Nat) : Int) := by omega
  have e3 : (c : Int) % 4294967296 * 256 % 4294967296 = ((2 ^ 8 * c : Nat) : Int) := by omega
  have e4 : (d : Int) % 4294967296 = ((d : Nat) : Int) := by omega
  have o1 := Nat.two_pow_add_eq_or_of_lt (i := 24) (b := 2 ^ 16 * b) (by omega) a
  have o2 : 2 ^ 24 * a + 2 ^ 16 * b = 2 ^ 16 * (2 ^ 8 * a + b) := by omega
  have o3 := Nat.two_pow_add_eq_or_of_lt (i := 16) (b := 2 ^ 8 * c) (by omega) (2 ^ 8 * a + b)
  have o4 : 2 ^ 16 * (2 ^ 8 * a + b) + 2 ^ 8 * c = 2 ^ 8 * (2 ^ 16 * a + 2 ^ 8 * b + c) := by omega
  have o5 := Nat.two_pow_add_eq_or_of_lt (i := 8) (b := d) (by omega) (2 ^ 16 * a + 2 ^ 8 * b + c)
  unfold be4 be4N
  rw [e1, e2, e3, e4, or_u32 _ _ (by omega) (by omega), ← o1, o2, or_u32 _ _ (by omega) (by omega), ← o3, o4, or_u32 _ _ (by omega) (by omega), ← o5]
  omega

def toI (l : List Nat) : List Int := l.map fun (n : Nat) => (n : Int)
theorem toI_get (l : List Nat) (i : Nat) : (toI l).getD i 0 = (l.getD i 0 : Int) := by
  unfold toI
  rw [List.getD_eq_getElem?_getD, List.getD_eq_getElem?_getD, List.getElem?_map]
  cases l[i]? <;> rfl
theorem get_lt (l : List Nat) (h : ∀ x ∈ l, x < 2 ^ 32) (i : Nat) : l.getD i 0 < 2 ^ 32 := by
  rw [List.getD_eq_getElem?_getD]
  cases e : l[i]? with
  | none => show 0 < 2 ^ 32; decide
  | some x => exact h x (List.mem_of_getElem? e)
def byteN (s : ByteArray) (k : Nat) : Nat := (s.data.toList.getD k 0).toNat
def wnextN (s : ByteArray) (l : List Nat) (k : Nat) : Nat :=
  if k < 16 then be4N (byteN s (4 * k)) (byteN s (4 * k + 1)) (byteN s (4 * k + 2)) (byteN s (4 * k + 3))
  else (l.getD (k - 16) 0 + sig0N (l.getD (k - 15) 0) + l.getD (k - 7) 0 + sig1N (l.getD (k - 2) 0)) % 4294967296
/-- The words of a block, as plain numbers. -/
def wsN (s : ByteArray) : Nat → List Nat
  | 0 => []
  | k + 1 => wsN s k ++ [wnextN s (wsN s k) k]
theorem wnext_nat (s : ByteArray) (l : List Nat) (k : Nat) (h : ∀ x ∈ l, x < 2 ^ 32) : wnext s (toI l) k = (wnextN s l k : Int) ∧ wnextN s l k < 2 ^ 32 := by
  unfold wnext wnextN
  by_cases hk : k < 16
  · rw [if_pos hk, if_pos hk]
    exact be4_nat _ _ _ _ (s.data.toList.getD (4 * k) 0).toNat_lt (s.data.toList.getD (4 * k + 1) 0).toNat_lt (s.data.toList.getD (4 * k + 2) 0).toNat_lt (s.data.toList.getD (4 * k + 3) 0).toNat_lt
  · rw [if_neg hk, if_neg hk, toI_get, toI_get, toI_get, toI_get]
    have h1 := sig0_nat _ (get_lt l h (k - 15))
    have h2 := sig1_nat _ (get_lt l h (k - 2))
    rw [h1.1, h2.1]
    exact ⟨by omega, Nat.mod_lt _ (by decide)⟩
theorem ws_nat (s : ByteArray) (k : Nat) : ws s k = toI (wsN s k) ∧ ∀ x ∈ wsN s k, x < 2 ^ 32 := by
  induction k with
  | zero => exact ⟨rfl, by simp [wsN]⟩
  | succ k ih =>
    obtain ⟨h1, h2⟩ := wnext_nat s (wsN s k) k ih.2
    refine ⟨?_, ?_⟩
    · show ws s k ++ [wnext s (ws s k) k] = _
      rw [ih.1, h1]
      simp [wsN, toI]
    · intro x hx
      rcases List.mem_append.1 hx with h | h
      · exact ih.2 x h
      · simp at h; rw [h]; exact h2

structure N8 where
  (a b c d e f g h : Nat)
def N8.ok (s : N8) : Prop := s.a < 2 ^ 32 ∧ s.b < 2 ^ 32 ∧ s.c < 2 ^ 32 ∧ s.d < 2 ^ 32 ∧ s.e < 2 ^ 32 ∧ s.f < 2 ^ 32 ∧ s.g < 2 ^ 32 ∧ s.h < 2 ^ 32
def N8.i (s : N8) : S8 := ⟨s.a, s.b, s.c, s.d, s.e, s.f, s.g, s.h⟩
def N8.u (s : N8) (k v : Nat) : Nat := (s.h + big1N s.e + chN s.e s.f s.g + k + v) % 4294967296
/-- One round, as plain numbers. -/
def N8.step (s : N8) (k v : Nat) : N8 := ⟨(s.u k v + (big0N s.a + majN s.a s.b s.c)) % 4294967296, s.a, s.b, s.c, (s.d + s.u k v) % 4294967296, s.e, s.f, s.g⟩
theorem step_nat (s : N8) (k v : Nat) (h : s.ok) : S8.step s.i k v = (s.step k v).i ∧ (s.step k v).ok := by
  obtain ⟨ha, hb, hc, hd, he, hf, hg, hh⟩ := h
  have h1 := big1_nat s.e he
  have h2 := ch_nat s.e s.f s.g he hf hg
  have h3 := big0_nat s.a ha
  have h4 := maj_nat s.a s.b s.c ha hb hc
  have hu : S8.u s.i k v = (s.u k v : Int) := by
    unfold S8.u N8.u N8.i
    simp only
    rw [h1.1, h2.1]
    omega
  have hul : s.u k v < 2 ^ 32 := Nat.mod_lt _ (by decide)
  refine ⟨?_, Nat.mod_lt _ (by decide), ha, hb, hc, Nat.mod_lt _ (by decide), he, hf, hg⟩
  unfold S8.step
  rw [hu]
  unfold N8.step N8.i
  simp only
  rw [h3.1, h4.1]
  congr 1
  all_goals omega
def roundsN (wl ks : List Nat) : Nat → N8 → N8
  | 0, s => s
  | n + 1, s => (roundsN wl ks n s).step (ks.getD n 0) (wl.getD n 0)
theorem rounds_nat (wl ks : List Nat) (n : Nat) (s : N8) (h : s.ok) : rounds8 (toI wl) (toI ks) n s.i = (roundsN wl ks n s).i ∧ (roundsN wl ks n s).ok := by
  induction n with
  | zero => exact ⟨rfl, h⟩
  | succ n ih =>
    obtain ⟨h1, h2⟩ := step_nat (roundsN wl ks n s) (ks.getD n 0) (wl.getD n 0) ih.2
    refine ⟨?_, h2⟩
    show (rounds8 (toI wl) (toI ks) n s.i).step ((toI ks).getD n 0) ((toI wl).getD n 0) = _
    rw [ih.1, toI_get, toI_get, h1]
    rfl
/-- The state behind a block, as plain numbers. -/
def mixN (q : N8) (s : ByteArray) (ks : List Nat) : N8 :=
  ⟨(q.a + (roundsN (wsN s 64) ks 64 q).a) % 4294967296, (q.b + (roundsN (wsN s 64) ks 64 q).b) % 4294967296, (q.c + (roundsN (wsN s 64) ks 64 q).c) % 4294967296, (q.d + (roundsN (wsN s 64) ks 64 q).d) % 4294967296, (q.e + (roundsN (wsN s 64) ks 64 q).e) % 4294967296, (q.f + (roundsN (wsN s 64) ks 64 q).f) % 4294967296, (q.g + (roundsN (wsN s 64) ks 64 q).g) % 4294967296, (q.h + (roundsN (wsN s 64) ks 64 q).h) % 4294967296⟩
theorem mix_nat (q : N8) (s : ByteArray) (ks : List Nat) (h : q.ok) : mixS q.i s (toI ks) = (mixN q s ks).i ∧ (mixN q s ks).ok := by
  have h1 := (rounds_nat (wsN s 64) ks 64 q h).1
  rw [← (ws_nat s 64).1] at h1
  refine ⟨?_, Nat.mod_lt _ (by decide), Nat.mod_lt _ (by decide), Nat.mod_lt _ (by decide), Nat.mod_lt _ (by decide), Nat.mod_lt _ (by decide), Nat.mod_lt _ (by decide), Nat.mod_lt _ (by decide), Nat.mod_lt _ (by decide)⟩
  unfold mixS
  rw [h1]
  unfold mixN N8.i
  simp only
  generalize roundsN (wsN s 64) ks 64 q = r
  congr 1
end Go.Proofs.YtcdgdmhlbgbklaaGreatDoor

/- The digest's sum as plain numbers: block by block of the text with its ending behind it. -/
namespace Go.Proofs.YtcdgdmhlbgbklaaGreatDoor
open Go.RowKit

/-- A block of a list of bytes. -/
def blk (P : List UInt8) (n : Nat) : ByteArray := ⟨((P.drop (64 * n)).take 64).toArray⟩
/-- The state behind so many blocks, from one of them on. -/
def stF (P : List UInt8) (ks : List Nat) (off : Nat) (q : N8) : Nat → N8
  | 0 => q
  | n + 1 => mixN (stF P ks off q n) (blk P (off + n)) ks
theorem stF_ok (P : List UInt8) (ks : List Nat) (off : Nat) (q : N8) (hq : q.ok) (n : Nat) : (stF P ks off q n).ok := by
  induction n with
  | zero => exact hq
  | succ n ih => exact (mix_nat _ _ ks ih).2
theorem stF_add (P : List UInt8) (ks : List Nat) (q : N8) (m n : Nat) : stF P ks m (stF P ks 0 q m) n = stF P ks 0 q (m + n) := by
  induction n with
  | zero => rfl
  | succ n ih =>
    show mixN (stF P ks m (stF P ks 0 q m) n) (blk P (m + n)) ks = mixN (stF P ks 0 q (m + n)) (blk P (0 + (m + n))) ks
    rw [ih, Nat.zero_add]
theorem blocks_nat (s : ByteArray) (P : List UInt8) (ks : List Nat) (off : Nat) (q : N8) (hq : q.ok) (n : Nat) (h : ∀ j, j < n → s.extract (64 * j) (64 * j + 64) = blk P (off + j)) : blocks s (toI ks) q.i n = (stF P ks off q n).i := by
  induction n with
  | zero => rfl
  | succ n ih =>
    show mixS (blocks s (toI ks) q.i n) (s.extract (64 * n) (64 * n + 64)) (toI ks) = _
    rw [ih fun j hj => h j (by omega), h n (by omega), (mix_nat _ _ ks (stF_ok P ks off q hq n)).1]
    rfl
theorem ex_data (s : ByteArray) (a b : Nat) : (s.extract a b).data.toList = (s.data.toList.take b).drop a := by rw [Lib.extract_data, List.drop_take]
theorem blk_ext {s : ByteArray} {P : List UInt8} {n a : Nat} (h : (s.data.toList.take (a + 64)).drop a = (P.drop (64 * n)).take 64) : s.extract a (a + 64) = blk P n := by
  have h1 := ex_data s a (a + 64)
  rw [h] at h1
  have hb : ∀ x : ByteArray, x = ⟨x.data.toList.toArray⟩ := fun x => by cases x; simp
  refine (hb _).trans ?_
  rw [h1]
  rfl
/-- A text with its ending behind it. -/
def padL (s : ByteArray) : List UInt8 := s.data.toList ++ endB s.size
theorem s_len (s : ByteArray) : s.data.toList.length = s.size := Array.length_toList
theorem tail_data (s : ByteArray) : (tailOf s).data.toList = (padL s).drop (64 * (s.size / 64)) := by
  have h := s_len s
  unfold tailOf padL
  rw [List.drop_append_of_le_length (by omega)]
  have e1 : (s.extract (s.size - s.size % 64) s.size ++ (⟨(endB s.size).toArray⟩ : ByteArray)).data.toList = (s.extract (s.size - s.size % 64) s.size).data.toList ++ endB s.size := by simp
  rw [e1, ex_data, List.take_of_length_le (by omega), show s.size - s.size % 64 = 64 * (s.size / 64) from by omega]
theorem pad_len (s : ByteArray) : (padL s).length = 64 * (s.size / 64) + (tailOf s).size ∧ (tailOf s).size % 64 = 0 := by
  have h := s_len s
  have h1 := tail_size s
  have h2 := endB_len s.size
  refine ⟨?_, ?_⟩
  · unfold padL
    rw [List.length_append, h, h2]
    omega
  · rw [h1]
    unfold endQ
    omega
theorem sumS_nat (s : ByteArray) (ks : List Nat) (q : N8) (hq : q.ok) : sumS s q.i (toI ks) = (stF (padL s) ks 0 q ((padL s).length / 64)).i := by
  have h := s_len s
  obtain ⟨hp, hp2⟩ := pad_len s
  have e1 : blocks s (toI ks) q.i (s.size / 64) = (stF (padL s) ks 0 q (s.size / 64)).i := by
    refine blocks_nat s (padL s) ks 0 q hq _ fun j hj => ?_
    rw [Nat.zero_add]
    refine blk_ext ?_
    unfold padL
    rw [List.drop_append_of_le_length (by omega), List.take_append_of_le_length (by rw [List.length_drop]; omega), List.drop_take]
    congr 1
    omega
  have e2 : blocks (tailOf s) (toI ks) (stF (padL s) ks 0 q (s.size / 64)).i ((tailOf s).size / 64) = (stF (padL s) ks (s.size / 64) (stF (padL s) ks 0 q (s.size / 64)) ((tailOf s).size / 64)).i := by
    refine blocks_nat (tailOf s) (padL s) ks (s.size / 64) _ (stF_ok _ _ _ _ hq _) _ fun j hj => ?_
    refine blk_ext ?_
    rw [tail_data, List.drop_take, List.drop_drop, show 64 * (s.size / 64) + 64 * j = 64 * (s.size / 64 + j) from by omega]
    congr 1
    omega
  unfold sumS
  rw [e1, e2, stF_add]
  congr 2
  omega

/-- Digit j of a number, the greatest first, as plain numbers. -/
def digN (x j : Nat) : UInt8 := UInt8.ofNat (hexC (x / 2 ^ (28 - 4 * j) % 16))
theorem dgt_nat (x j : Nat) (hx : x < 2 ^ 32) : dgt (x : Int) j = digN x j := by
  have h1 : x / 2 ^ (28 - 4 * j) < 2 ^ 32 := Nat.lt_of_le_of_lt (Nat.div_le_self _ _) hx
  have h2 : nib (x : Int) (28 - 4 * j) = ((x / 2 ^ (28 - 4 * j) % 16 : Nat) : Int) := by
    unfold nib
    rw [show (x : Int) / 2 ^ (28 - 4 * j) = ((x / 2 ^ (28 - 4 * j) : Nat) : Int) from by push_cast; rfl]
    have := and_u32 (x / 2 ^ (28 - 4 * j)) 15 h1 (by decide)
    rw [show ((15 : Nat) : Int) = 15 from rfl] at this
    rw [this, show x / 2 ^ (28 - 4 * j) &&& 15 = x / 2 ^ (28 - 4 * j) % 16 from Nat.and_two_pow_sub_one_eq_mod _ 4]
  unfold dgt digN
  rw [h2, Int.toNat_natCast]
/-- The digits of a state, as plain numbers. -/
def digsN (q : N8) : List UInt8 := [q.a, q.b, q.c, q.d, q.e, q.f, q.g, q.h].flatMap fun x => (List.range 8).map (digN x)
theorem dgs_nat (q : N8) (h : q.ok) : dgs q.i.l = digsN q := by
  obtain ⟨ha, hb, hc, hd, he, hf, hg, hh⟩ := h
  have e : ∀ x : Nat, x < 2 ^ 32 → dg (x : Int) 8 = (List.range 8).map (digN x) := fun x hx => List.map_congr_left fun j _ => dgt_nat x j hx
  unfold dgs digsN N8.i S8.l
  simp only [List.flatMap_cons, List.flatMap_nil]
  rw [e _ ha, e _ hb, e _ hc, e _ hd, e _ he, e _ hf, e _ hg, e _ hh]
/-- What the digest sums to: the digits of the state behind all blocks of the text with its ending behind it. -/
theorem sumB_nat (s : ByteArray) (ks : List Nat) (q : N8) (hq : q.ok) : sumB s q.i (toI ks) = ⟨(digsN (stF (padL s) ks 0 q ((padL s).length / 64))).toArray⟩ := by
  unfold sumB
  rw [sumS_nat s ks q hq, dgs_nat _ (stF_ok _ _ _ _ hq _)]
end Go.Proofs.YtcdgdmhlbgbklaaGreatDoor

/- The document's own Firsts and Constants: the numbers that the digest's variables are laid with. -/
namespace Go.Proofs.YtcdgdmhlbgbklaaGreatDoor
open Go.RowKit

def sqN : List Nat := sqL.map Int.toNat
def cuN : List Nat := cuL.map Int.toNat
theorem sqN_i : toI sqN = sqL := by kernel_rfl
theorem cuN_i : toI cuN = cuL := by kernel_rfl
def q0 : N8 := ⟨sqN.getD 0 0, sqN.getD 1 0, sqN.getD 2 0, sqN.getD 3 0, sqN.getD 4 0, sqN.getD 5 0, sqN.getD 6 0, sqN.getD 7 0⟩
theorem q0_i : q0.i = sq8 := by kernel_rfl
theorem q0_ok : q0.ok := by
  have h : (decide (q0.a < 2 ^ 32) && decide (q0.b < 2 ^ 32) && decide (q0.c < 2 ^ 32) && decide (q0.d < 2 ^ 32) && decide (q0.e < 2 ^ 32) && decide (q0.f < 2 ^ 32) && decide (q0.g < 2 ^ 32) && decide (q0.h < 2 ^ 32)) = true := by kernel_rfl
  simp only [Bool.and_eq_true, decide_eq_true_eq] at h
  exact ⟨h.1.1.1.1.1.1.1, h.1.1.1.1.1.1.2, h.1.1.1.1.1.2, h.1.1.1.1.2, h.1.1.1.2, h.1.1.2, h.1.2, h.2⟩
theorem sum_plain (s : ByteArray) : sumB s sq8 cuL = ⟨(digsN (stF (padL s) cuN 0 q0 ((padL s).length / 64))).toArray⟩ := by
  rw [← q0_i, ← cuN_i]
  exact sumB_nat s cuN q0 q0_ok
/-- These numbers, as cells. -/
def intCells (l : List Nat) : Array Value := (l.map fun (n : Nat) => Value.int .i64 (n : Int)).toArray

set_option maxHeartbeats 2000000 in
set_option maxRecDepth 100000 in
theorem Firsts_any (w : World) :
    Calls Tryz.prog 125 #[] w fun e w' => e = .returned (.slice (some ⟨w.heap.size, 0, none⟩) 8 8) ∧ w' = w.alloc (.cells (intCells sqN) 3) := by
  have HC : Hid (intCells sqN = #[.int .i64 1779033703, .int .i64 3144134277, .int .i64 1013904242, .int .i64 2773480762, .int .i64 1359893119, .int .i64 2600822924, .int .i64 528734635, .int .i64 1541459225]) := by show _ = _; kernel_rfl
  rw [HC.out]
  go_enter Tryz.func125, Tryz.ntmps125
  go_wp2
  go_ret
  exact ⟨rfl, rfl⟩

set_option maxHeartbeats 4000000 in
set_option maxRecDepth 100000 in
theorem Constants_any (w : World) :
    Calls Tryz.prog 124 #[] w fun e w' => e = .returned (.slice (some ⟨w.heap.size, 0, none⟩) 64 64) ∧ w' = w.alloc (.cells (intCells cuN) 3) := by
  obtain ⟨C, hC⟩ : ∃ C, C = intCells cuN := ⟨_, rfl⟩
  rw [← hC]
  have HC : Hid (C = intCells cuN) := hC
  clear hC
  go_enter Tryz.func124, Tryz.ntmps124
  go_wp2
  go_ret
  refine ⟨rfl, ?_⟩
  rw [HC.out]
  exact congrArg (fun c => w.alloc (.cells c 3)) (by kernel_rfl)
end Go.Proofs.YtcdgdmhlbgbklaaGreatDoor

/- The document's own Sum, in parts: its loops, taken out of its text; what lies where. -/
namespace Go.Proofs.YtcdgdmhlbgbklaaGreatDoor
open Go.RowKit

/-- A part of a text, by the way that leads to it. -/
def subC : List Bool → Code → Code
  | [], c => c
  | false :: p, .seq a _ => subC p a
  | true :: p, .seq _ b => subC p b
  | _ :: p, .block _ c => subC p c
  | _ :: p, .loop c => subC p c
  | false :: p, .cond _ a _ => subC p a
  | true :: p, .cond _ _ b => subC p b
  | _ :: _, c => c
end Go.Proofs.YtcdgdmhlbgbklaaGreatDoor

/- The document's Directory: its names, one by one. -/
namespace Go.Proofs.YtcdgdmhlbgbklaaGreatDoor
open Go.RowKit Go.Shelf Go.Maps Go.WideMaps Go.Sort
attribute [local go_sem ↓] appS_eq

theorem insN_some (s : List UInt8) (l : List (List UInt8)) : insN s l ≠ [] := fun e => by
  have := (insN_mem s s l).2 (.inl rfl)
  rw [e] at this
  cases this
theorem parts_hd (f : Fl) : ∃ r, parts [] (pth f) = hdF f :: r := by
  unfold hdF
  rw [parts_sl]
  cases sl (pth f) with
  | none => exact ⟨[], rfl⟩
  | some x => exact ⟨_, rfl⟩
/-- Texts that rise, in memory: a row of one's own since B, nil where there is none. -/
structure RowT (B : Nat) (T : List (List UInt8)) (v : Value) (w : World) : Prop where
  own : w.ownsRow B 9 1 v T.length (T.map encStr)
  nil : T = [] → v = .slice none 0 0
  lo : B ≤ w.heap.size
theorem RowT.start {B : Nat} {w : World} (h : B ≤ w.heap.size) : RowT B [] (.slice none 0 0) w := ⟨World.ownsRow_nil _ _ _ _, fun _ => rfl, h⟩
theorem RowT.up {B : Nat} {T : List (List UInt8)} {v : Value} {w w' : World} (h : RowT B T v w) (hb : Below w.heap.size w w') : RowT B T v w' := ⟨row_heap h.own fun b hb2 => hb.block b (h.own.lt b hb2).2, h.nil, Nat.le_trans h.lo hb.size⟩
theorem RowT.keep {B : Nat} {T : List (List UInt8)} {v : Value} {w w' : World} (h : RowT B T v w) (hb : ∀ b, v.ownBlock = some b → w'.heap[b]? = w.heap[b]?) (hs : w.heap.size ≤ w'.heap.size) : RowT B T v w' := ⟨row_heap h.own hb, h.nil, Nat.le_trans h.lo hs⟩
/-- One text more. -/
def AtP (B : Nat) (v : Value) (T : List (List UInt8)) (s : ByteArray) (w : World) (e : Ending) (w' : World) : Prop := ∃ v', e = .returned v' ∧ RowT B (insN s.data.toList T) v' w' ∧ Below w.heap.size w w' ∧ ∀ g, v'.ownBlock = some g → v.ownBlock = some g ∨ w.heap.size ≤ g
theorem RowT.add {B : Nat} {T : List (List UInt8)} {v : Value} {w : World} (h : RowT B T v w) (s : ByteArray) (hn : T.length ≤ 1000000) :
    Calls Tryz.prog 33 #[v, .string s] w (AtP B v T s w) := by
  refine (AddText_any B v T s w h.own h.nil h.lo hn).mono ?_
  rintro e w' ⟨v', rfl, h1, h2, h3⟩
  exact ⟨v', rfl, ⟨h1, fun e => absurd e (insN_some _ _), Nat.le_trans h.lo h2.size⟩, h2, h3⟩
theorem dirName (f : Fl) (w : World) (hs : f.pa.size ≤ 100) :
    Calls Tryz.prog 77 #[.string f.pa] w fun e w' => ∃ g n c, e = .returned (.slice (some ⟨g, 0, none⟩) n c) ∧ 0 < n ∧ w'.cell? ⟨g, 0, none⟩ = some (.string ⟨(hdF f).toArray⟩) ∧ Below w.heap.size w w' := by
  refine (Parts_any f.pa w hs).mono ?_
  rintro e w' ⟨v, rfl, h1, h2⟩
  obtain ⟨r, hr⟩ := parts_hd f
  have hr2 : parts [] f.pa.data.toList = hdF f :: r := hr
  rw [hr2] at h1
  obtain ⟨g, c, rfl, _, _⟩ := h1.form (by simp)
  exact ⟨g, _, c, rfl, by simp, (h1.cellAt 0 (by simp)).trans rfl, h2⟩
theorem fl_le {L : List Fl} (h : okT L) {f : Fl} (hf : f ∈ L) : f.pa.size ≤ 100 := pathOk_size (flE_pa (h.2.1 f hf)).1
theorem cut_le (d : ByteArray) (f : Fl) : (cutP d f).pa.size ≤ f.pa.size := by
  show (f.pa.extract _ _).size ≤ _
  rw [ByteArray.size_extract]
  omega

/-- How it stands behind so many files. -/
def NmI (d : ByteArray) (L : List Fl) (w : World) (k : Nat) (v : Value) (wr : World) : Prop := RowT w.heap.size (hs (dv d (L.take k))) v wr ∧ Below w.heap.size w wr

set_option maxHeartbeats 8000000 in
set_option maxRecDepth 100000 in
theorem namesL (x2 x3 x4 x5 x8 x9 x10 x11 x12 x13 x14 x15 x16 x17 x18 x19 x20 x21 x22 x23 x24 x25 x26 x27 x28 x29 x30 x31 x32 x33 x34 x35 x36 x37 x38 x39 x40 x41 x42 x43 x44 x45 x46 x47 x48 x49 x50 x51 x52 x53 x54 x55 x56 x57 x58 x59 x60 x61 x62 x63 x64 x65 x66 x67 x68 x69 x70 x71 x72 x73 x74 x75 x76 x77 x78 x79 x80 x81 x82 x83 x84 x85 x86 x87 x88 x89 x90 x91 x92 x93 x94 x95 x96 x97 x98 x99 x100 x101 x102 x103 x104 x105 x106 x107 x108 x109 x110 x111 x112 x113 x114 x115 x116 x117 x118 x119 x120 x121 x122 x123 x124 x125 x126 x127 : Value) (ao : Option Addr) (cap : Nat) (L : List Fl) (d : ByteArray) (w : World) (hL : IsFl w ao L) (hok : okT L) (hd : d.size ≤ 1000) (Q0 : Exit → Act → World → Prop)
    (hexit : ∀ (u6 u7 u8 u19 u20 u21 u22 u23 u24 u25 u26 u27 u28 u29 u30 u31 u32 u33 u34 u35 u36 u37 u38 u39 u40 u41 u42 u43 u44 u45 u46 : Value) (w' : World), Hid (NmI d L w L.length u6 w') → Q0 (.exit 0) ⟨#[.slice ao L.length cap, .string d, x2, x3, x4, x5, u6, u7, u8, x9, x10, x11, x12, x13, x14, x15, x16, x17, x18, u19, u20, u21, u22, u23, u24, u25, u26, u27, u28, u29, u30, u31, u32, u33, u34, u35, u36, u37, u38, u39, u40, u41, u42, u43, u44, u45, u46, x47, x48, x49, x50, x51, x52, x53, x54, x55, x56, x57, x58, x59, x60, x61, x62, x63, x64, x65, x66, x67, x68, x69, x70, x71, x72, x73, x74, x75, x76, x77, x78, x79, x80, x81, x82, x83, x84, x85, x86, x87, x88, x89, x90, x91, x92, x93, x94, x95, x96, x97, x98, x99, x100, x101, x102, x103, x104, x105, x106, x107, x108, x109, x110, x111, x112, x113, x114, x115, x116, x117, x118, x119, x120, x121, x122, x123, x124, x125, x126, x127], []⟩ w') :
    Code.wp Tryz.prog (subC [true, true, false, true, false] (Tryz.f32.body.getD .skip)) Q0 ⟨#[.slice ao L.length cap, .string d, x2, x3, x4, x5, .slice none 0 0, .int .i64 0, x8, x9, x10, x11, x12, x13, x14, x15, x16, x17, x18, x19, x20, x21, x22, x23, x24, x25, x26, x27, x28, x29, x30, x31, x32, x33, x34, x35, x36, x37, x38, x39, x40, x41, x42, x43, x44, x45, x46, x47, x48, x49, x50, x51, x52, x53, x54, x55, x56, x57, x58, x59, x60, x61, x62, x63, x64, x65, x66, x67, x68, x69, x70, x71, x72, x73, x74, x75, x76, x77, x78, x79, x80, x81, x82, x83, x84, x85, x86, x87, x88, x89, x90, x91, x92, x93, x94, x95, x96, x97, x98, x99, x100, x101, x102, x103, x104, x105, x106, x107, x108, x109, x110, x111, x112, x113, x114, x115, x116, x117, x118, x119, x120, x121, x122, x123, x124, x125, x126, x127], []⟩ w := by
  have HX : Hid (∀ (u6 u7 u8 u19 u20 u21 u22 u23 u24 u25 u26 u27 u28 u29 u30 u31 u32 u33 u34 u35 u36 u37 u38 u39 u40 u41 u42 u43 u44 u45 u46 : Value) (w' : World), Hid (NmI d L w L.length u6 w') → Q0 (.exit 0) ⟨#[.slice ao L.length cap, .string d, x2, x3, x4, x5, u6, u7, u8, x9, x10, x11, x12, x13, x14, x15, x16, x17, x18, u19, u20, u21, u22, u23, u24, u25, u26, u27, u28, u29, u30, u31, u32, u33, u34, u35, u36, u37, u38, u39, u40, u41, u42, u43, u44, u45, u46, x47, x48, x49, x50, x51, x52, x53, x54, x55, x56, x57, x58, x59, x60, x61, x62, x63, x64, x65, x66, x67, x68, x69, x70, x71, x72, x73, x74, x75, x76, x77, x78, x79, x80, x81, x82, x83, x84, x85, x86, x87, x88, x89, x90, x91, x92, x93, x94, x95, x96, x97, x98, x99, x100, x101, x102, x103, x104, x105, x106, x107, x108, x109, x110, x111, x112, x113, x114, x115, x116, x117, x118, x119, x120, x121, x122, x123, x124, x125, x126, x127], []⟩ w') := hexit
  have HL : Hid (IsFl w ao L) := hL
  have HO : Hid (okT L) := hok
  have hn1 : (L.length : Int) ≤ 60 := by have := hok.1; omega
  have hd2 : (d.size : Int) ≤ 1000 := by omega
  have HIn : Hid (∀ (p : ByteArray) (W : World), Calls Tryz.prog 76 #[.string d, .string p] W fun e w' => e = .returned (.bool (inB p d)) ∧ w' = W) := fun p W => RIsInside_any p d W
  clear hexit hL hok
  conv => arg 2; whnf
  dsimp only
  go_loopw [6, 7] (fun v i wr => ∃ k : Nat, k ≤ L.length ∧ i = .int .i64 (k : Int) ∧ Hid (NmI d L w k v wr)) (fun _ i _ => L.length - (RowKit.intOf i).toNat)
  case atStart =>
    refine ⟨0, Nat.zero_le _, rfl, ⟨?_, Below.refl _ _⟩⟩
    have : hs (dv d (L.take 0)) = [] := by
      have e : dv d [] = [] := by unfold dv undF; split <;> rfl
      rw [List.take_zero, e]
      rfl
    rw [this]
    exact RowT.start (Nat.le_refl _)
  case round =>
    obtain ⟨k, hk, rfl, HI⟩ := hrel
    by_cases hlt : k < L.length
    · have hki : (k : Int) < (L.length : Int) := by omega
      rcases HL.out.below HI.out.2 (Nat.le_refl _) with h | ⟨g, o, rfl, hg, hc⟩
      · exfalso; rw [h] at hlt; exact absurd hlt (by simp)
      obtain ⟨c0, _, _⟩ := hc k hlt
      have hsz : (L[k]).pa.size ≤ 100 := fl_le HO.out (List.getElem_mem hlt)
      have HDv : Hid (dv d (L.take (k + 1)) = if d.data.toList = [] then L.take k ++ [L[k]] else if inB (L[k]).pa d = true then dv d (L.take k) ++ [cutP d L[k]] else dv d (L.take k)) := by
        show _ = _
        rw [List.take_succ_eq_append_getElem hlt, dv_snoc]
      have hhl : (hs (dv d (L.take k))).length ≤ 1000000 := by
        have h1 := hs_len (dv d (L.take k))
        have h2 : (dv d (L.take k)).length ≤ (L.take k).length := by
          unfold dv
          split
          · exact Nat.le_refl _
          · exact undF_len _ _
        rw [List.length_take] at h2
        omega
      obtain ⟨k1, hk1⟩ : ∃ k1, k1 = k + 1 := ⟨_, rfl⟩
      have ek1 : (k : Int) + 1 = (k1 : Int) := by omega
      have ek2 : IntKind.i64.wrap (k1 : Int) = (k1 : Int) := by rw [IntKind.wrap_i64]; omega
      have HK1 : Hid (k1 = k + 1 ∧ k < L.length) := ⟨hk1, hlt⟩
      -- a name more, of this file
      have tail : ∀ f : Fl, f.pa.size ≤ 100 → dv d (L.take (k + 1)) = dv d (L.take k) ++ [f] → ∀ W, W = wr →
          Calls Tryz.prog 77 #[.string f.pa] W fun e w1 => ∃ g n c, e = .returned (.slice (some ⟨g, 0, none⟩) n c) ∧ 0 < n ∧ w1.cell? ⟨g, 0, none⟩ = some (.string ⟨(hdF f).toArray⟩) ∧
            Hid (Calls Tryz.prog 33 #[u6, .string ⟨(hdF f).toArray⟩] w1 fun e w2 => ∃ v', e = .returned v' ∧ Hid (NmI d L w (k + 1) v' w2)) := by
        intro f hf he W hW
        subst hW
        refine (dirName f W hf).mono ?_
        rintro e w1 ⟨g, n, c, rfl, hn, hc1, hb1⟩
        refine ⟨g, n, c, rfl, hn, hc1, ?_⟩
        refine ((HI.out.1.up hb1).add ⟨(hdF f).toArray⟩ hhl).mono ?_
        rintro e w2 ⟨v', rfl, hr2, hb2, _⟩
        refine ⟨v', rfl, ?_, HI.out.2.trans ((hb1.trans (hb2.mono hb1.size)).mono HI.out.2.size)⟩
        rw [he, hs_snoc]
        exact hr2
      have HT : Hid (∀ f : Fl, f.pa.size ≤ 100 → dv d (L.take (k + 1)) = dv d (L.take k) ++ [f] → ∀ W, W = wr →
          Calls Tryz.prog 77 #[.string f.pa] W fun e w1 => ∃ g n c, e = .returned (.slice (some ⟨g, 0, none⟩) n c) ∧ 0 < n ∧ w1.cell? ⟨g, 0, none⟩ = some (.string ⟨(hdF f).toArray⟩) ∧
            Hid (Calls Tryz.prog 33 #[u6, .string ⟨(hdF f).toArray⟩] w1 fun e w2 => ∃ v', e = .returned v' ∧ Hid (NmI d L w (k + 1) v' w2))) := tail
      clear hc tail hhl hk1
      generalize L[k] = f at *
      by_cases hd0 : d.data.toList = []
      · obtain rfl : d = ⟨#[]⟩ := bytes_ext hd0
        have HP : Hid (Calls Tryz.prog 77 #[.string f.pa] wr fun e w1 => ∃ g n c, e = .returned (.slice (some ⟨g, 0, none⟩) n c) ∧ 0 < n ∧ w1.cell? ⟨g, 0, none⟩ = some (.string ⟨(hdF f).toArray⟩) ∧
            Hid (Calls Tryz.prog 33 #[u6, .string ⟨(hdF f).toArray⟩] w1 fun e w2 => ∃ v', e = .returned v' ∧ Hid (NmI ⟨#[]⟩ L w (k + 1) v' w2))) := HT.out f hsz (by rw [HDv.out, if_pos rfl, dv_none]) wr rfl
        generalize (⟨(hdF f).toArray⟩ : ByteArray) = nm at HP
        clear hd0 HDv HT hsz hk hlt
        go_wp2_with fail
        refine HP.out.mono ?_
        rintro e w1 ⟨g1, n1, b1, rfl, hn1', hc1, HA⟩
        have hni : (0 : Int) < (n1 : Int) := by omega
        clear hn1'
        go_wp2_with fail
        refine HA.out.mono ?_
        rintro e w2 ⟨v', rfl, HN⟩
        clear HA HP hc1
        go_wp2
        refine ⟨⟨k1, by have := HK1.out; omega, rfl, by rw [HK1.out.1]; exact HN⟩, ?_⟩
        have := HK1.out
        simp [RowKit.intOf]; omega
      · have HI2 : Hid (Calls Tryz.prog 76 #[.string d, .string f.pa] wr fun e w' => e = .returned (.bool (inB f.pa d)) ∧ w' = wr) := HIn.out f.pa wr
        have hdn : (d.toList == []) = false := by rw [Lib.toList_data]; simpa using hd0
        have hde : ¬ d.toList = [] := by rw [Lib.toList_data]; exact hd0
        cases hin : inB f.pa d with
        | false =>
          rw [hin] at HI2
          have HN : Hid (NmI d L w (k + 1) u6 wr) := by
            refine ⟨?_, HI.out.2⟩
            rw [HDv.out, if_neg hd0, hin, if_neg (by decide)]
            exact HI.out.1
          clear hd0 HDv HT hsz hk hlt hin
          go_wp2_with fail
          refine HI2.out.mono ?_
          rintro e w1 ⟨rfl, rfl⟩
          go_wp2
          refine ⟨⟨k1, by have := HK1.out; omega, rfl, by rw [HK1.out.1]; exact HN⟩, ?_⟩
          have := HK1.out
          simp [RowKit.intOf]; omega
        | true =>
          rw [hin] at HI2
          have hdl := inB_lt hin
          have hdl2 : (d.size : Int) + 1 ≤ (f.pa.size : Int) := by omega
          have hsi : (f.pa.size : Int) ≤ 100 := by omega
          have HP : Hid (Calls Tryz.prog 77 #[.string (f.pa.extract (d.size + 1) f.pa.size)] wr fun e w1 => ∃ g n c, e = .returned (.slice (some ⟨g, 0, none⟩) n c) ∧ 0 < n ∧ w1.cell? ⟨g, 0, none⟩ = some (.string ⟨(hdF (cutP d f)).toArray⟩) ∧
            Hid (Calls Tryz.prog 33 #[u6, .string ⟨(hdF (cutP d f)).toArray⟩] w1 fun e w2 => ∃ v', e = .returned v' ∧ Hid (NmI d L w (k + 1) v' w2))) := HT.out (cutP d f) (Nat.le_trans (cut_le d f) hsz) (by rw [HDv.out, if_neg hd0, hin, if_pos rfl]) wr rfl
          generalize (⟨(hdF (cutP d f)).toArray⟩ : ByteArray) = nm at HP
          clear hd0 HDv HT hsz hk hlt hin
          go_wp2_with fail
          refine HI2.out.mono ?_
          rintro e w1 ⟨rfl, rfl⟩
          go_wp2_with fail
          refine HP.out.mono ?_
          rintro e w1 ⟨g1, n1, b1, rfl, hn1', hc1, HA⟩
          have hni : (0 : Int) < (n1 : Int) := by omega
          clear hn1'
          go_wp2_with fail
          refine HA.out.mono ?_
          rintro e w2 ⟨v', rfl, HN⟩
          clear HA HP hc1
          go_wp2
          refine ⟨⟨k1, by have := HK1.out; omega, rfl, by rw [HK1.out.1]; exact HN⟩, ?_⟩
          have := HK1.out
          simp [RowKit.intOf]; omega
    · obtain rfl : k = L.length := by omega
      have k2 : ¬ (L.length : Int) < (L.length : Int) := by omega
      clear hk hlt
      go_wp2
      exact HX.out _ _ _ _ _ _ _ _ _ _ _ _ _ _ _ _ _ _ _ _ _ _ _ _ _ _ _ _ _ _ _ _ HI
end Go.Proofs.YtcdgdmhlbgbklaaGreatDoor

/- The document's Directory: the file with a path; texts of a directory further in. -/
namespace Go.Proofs.YtcdgdmhlbgbklaaGreatDoor
open Go.RowKit Go.Shelf Go.Maps Go.WideMaps Go.Sort
attribute [local go_sem ↓] appS_eq

/-- A node in a block of its own; nothing else has changed. -/
structure FB (nm : ByteArray) (kd : Int) (dg : ByteArray) (Nb : Nat) (w wr : World) : Prop where
  blk : wr.heap[Nb]? = some (.cells #[.string nm, .int .i64 kd, .string dg] 108 (0, 0))
  os : wr.os = w.os
  tape : wr.tape = w.tape
  output : wr.output = w.output
  size : wr.heap.size = w.heap.size
  oth : ∀ b, b ≠ Nb → wr.heap[b]? = w.heap[b]?
section
variable {nm dg : ByteArray} {kd : Int} {Nb : Nat} {w wr : World}
theorem FB.c0 (h : FB nm kd dg Nb w wr) : wr.cell? ⟨Nb, 0, none⟩ = some (.string nm) := by rw [Lib.cell_of_heap h.blk]; rfl
theorem FB.c1 (h : FB nm kd dg Nb w wr) : wr.cell? ⟨Nb, 1, none⟩ = some (.int .i64 kd) := by rw [Lib.cell_of_heap h.blk]; rfl
theorem FB.c2 (h : FB nm kd dg Nb w wr) : wr.cell? ⟨Nb, 2, none⟩ = some (.string dg) := by rw [Lib.cell_of_heap h.blk]; rfl
theorem FB.fz (h : FB nm kd dg Nb w wr) (j : Nat) : wr.frozen? ⟨Nb, j, none⟩ = false := by simp only [World.frozen?]; rw [h.blk]; simp
theorem FB.drew (h : FB nm kd dg Nb w wr) : FB nm kd dg Nb w wr.drew := ⟨h.blk, h.os, h.tape, h.output, h.size, h.oth⟩
theorem FB.set1 (h : FB nm kd dg Nb w wr) (k2 : Int) : FB nm k2 dg Nb w (wr.setCell ⟨Nb, 1, none⟩ (.int .i64 k2)) := by
  refine ⟨?_, h.os, h.tape, h.output, ?_, fun b hb => (Below.heap_setCell _ _ _ _ hb).trans (h.oth b hb)⟩
  · simp only [World.setCell, Array.getElem?_modify, h.blk]
    rfl
  · rw [← h.size]
    simp [World.setCell]
theorem FB.set2 (h : FB nm kd dg Nb w wr) (d2 : ByteArray) : FB nm kd d2 Nb w (wr.setCell ⟨Nb, 2, none⟩ (.string d2)) := by
  refine ⟨?_, h.os, h.tape, h.output, ?_, fun b hb => (Below.heap_setCell _ _ _ _ hb).trans (h.oth b hb)⟩
  · simp only [World.setCell, Array.getElem?_modify, h.blk]
    rfl
  · rw [← h.size]
    simp [World.setCell]
theorem FB.fl {ao : Option Addr} {L : List Fl} (h : FB nm kd dg Nb w wr) (hl : IsFl w ao L) (hn : ∀ g o, ao = some ⟨g, o, none⟩ → L ≠ [] → g ≠ Nb) : IsFl wr ao L := by
  by_cases h0 : L = []
  · exact .inl h0
  rcases hl with h1 | ⟨g, o, h1, h2, h3⟩
  · exact .inl h1
  · refine .inr ⟨g, o, h1, by rw [h.size]; exact h2, fun k hk => ?_⟩
    have e := h.oth g (hn g o h1 h0)
    obtain ⟨x0, x1, x2⟩ := h3 k hk
    exact ⟨(World.cell?_of_block (w := w) e).trans x0, (World.cell?_of_block (w := w) e).trans x1, (World.cell?_of_block (w := w) e).trans x2⟩
end

set_option maxHeartbeats 8000000 in
set_option maxRecDepth 100000 in
theorem findL2 (x1 x2 x3 x4 x5 x6 x7 x8 x9 x10 x11 x16 x17 x18 x19 x20 x21 x22 x23 x24 x25 x26 x27 x28 x29 x30 x31 x32 x33 x34 x35 x36 x37 x38 x39 x40 x41 x42 x43 x44 x45 x46 x47 x48 x49 x50 x51 x52 x53 x54 x55 x56 x57 x58 x59 x60 x61 x62 x63 x64 x65 x66 x67 x68 x69 x70 x71 x72 x73 x74 x75 x76 x77 x78 x79 x80 x81 x82 x83 x84 x85 x86 x87 x88 x89 x90 x91 x92 x93 x94 x95 x96 x97 x98 x99 x100 x101 x102 x103 x104 x105 x106 x107 x108 x109 x110 x111 x112 x113 x114 x115 x116 x117 x118 x119 x120 x121 x122 x123 x124 x125 x126 x127 : Value) (ao : Option Addr) (cap : Nat) (L : List Fl) (p nm : ByteArray) (Nb : Nat) (w : World) (hL : IsFl w ao L) (hl : L.length ≤ 60) (hne : ∀ g o, ao = some ⟨g, o, none⟩ → L ≠ [] → g ≠ Nb) (hB : FB nm 3 ⟨#[]⟩ Nb w w) (Q0 : Exit → Act → World → Prop)
    (hexit : ∀ (u15 u68 u69 u70 u71 u72 u73 u74 u75 u76 u77 u78 u79 u80 u81 u82 u83 u84 u85 u86 u87 u88 u89 u90 u91 u92 : Value) (w' : World), Hid (FB nm (ktF L p.data.toList).1 ⟨#[]⟩ Nb w w') → Q0 (.exit 4) ⟨#[.slice ao L.length cap, x1, x2, x3, x4, x5, x6, x7, x8, x9, x10, x11, .string p, .pointer (some ⟨Nb, 0, none⟩), .string (ktF L p.data.toList).2, u15, x16, x17, x18, x19, x20, x21, x22, x23, x24, x25, x26, x27, x28, x29, x30, x31, x32, x33, x34, x35, x36, x37, x38, x39, x40, x41, x42, x43, x44, x45, x46, x47, x48, x49, x50, x51, x52, x53, x54, x55, x56, x57, x58, x59, x60, x61, x62, x63, x64, x65, x66, x67, u68, u69, u70, u71, u72, u73, u74, u75, u76, u77, u78, u79, u80, u81, u82, u83, u84, u85, u86, u87, u88, u89, u90, u91, u92, x93, x94, x95, x96, x97, x98, x99, x100, x101, x102, x103, x104, x105, x106, x107, x108, x109, x110, x111, x112, x113, x114, x115, x116, x117, x118, x119, x120, x121, x122, x123, x124, x125, x126, x127], []⟩ w') :
    Code.wp Tryz.prog (subC [true, true, true, true, true, false, true, false, false, true, false, false, true, true, true, true, false, true, false] (Tryz.f32.body.getD .skip)) Q0 ⟨#[.slice ao L.length cap, x1, x2, x3, x4, x5, x6, x7, x8, x9, x10, x11, .string p, .pointer (some ⟨Nb, 0, none⟩), .string ⟨#[]⟩, .int .i64 0, x16, x17, x18, x19, x20, x21, x22, x23, x24, x25, x26, x27, x28, x29, x30, x31, x32, x33, x34, x35, x36, x37, x38, x39, x40, x41, x42, x43, x44, x45, x46, x47, x48, x49, x50, x51, x52, x53, x54, x55, x56, x57, x58, x59, x60, x61, x62, x63, x64, x65, x66, x67, x68, x69, x70, x71, x72, x73, x74, x75, x76, x77, x78, x79, x80, x81, x82, x83, x84, x85, x86, x87, x88, x89, x90, x91, x92, x93, x94, x95, x96, x97, x98, x99, x100, x101, x102, x103, x104, x105, x106, x107, x108, x109, x110, x111, x112, x113, x114, x115, x116, x117, x118, x119, x120, x121, x122, x123, x124, x125, x126, x127], []⟩ w := by
  have HX : Hid (∀ (u15 u68 u69 u70 u71 u72 u73 u74 u75 u76 u77 u78 u79 u80 u81 u82 u83 u84 u85 u86 u87 u88 u89 u90 u91 u92 : Value) (w' : World), Hid (FB nm (ktF L p.data.toList).1 ⟨#[]⟩ Nb w w') → Q0 (.exit 4) ⟨#[.slice ao L.length cap, x1, x2, x3, x4, x5, x6, x7, x8, x9, x10, x11, .string p, .pointer (some ⟨Nb, 0, none⟩), .string (ktF L p.data.toList).2, u15, x16, x17, x18, x19, x20, x21, x22, x23, x24, x25, x26, x27, x28, x29, x30, x31, x32, x33, x34, x35, x36, x37, x38, x39, x40, x41, x42, x43, x44, x45, x46, x47, x48, x49, x50, x51, x52, x53, x54, x55, x56, x57, x58, x59, x60, x61, x62, x63, x64, x65, x66, x67, u68, u69, u70, u71, u72, u73, u74, u75, u76, u77, u78, u79, u80, u81, u82, u83, u84, u85, u86, u87, u88, u89, u90, u91, u92, x93, x94, x95, x96, x97, x98, x99, x100, x101, x102, x103, x104, x105, x106, x107, x108, x109, x110, x111, x112, x113, x114, x115, x116, x117, x118, x119, x120, x121, x122, x123, x124, x125, x126, x127], []⟩ w') := hexit
  have HL : Hid (∀ kd W, FB nm kd ⟨#[]⟩ Nb w W → IsFl W ao L) := fun kd W h => h.fl hL hne
  have HB0 : Hid (FB nm 3 ⟨#[]⟩ Nb w w) := hB
  have hn1 : (L.length : Int) ≤ 60 := by omega
  clear hexit hL hne hB
  conv => arg 2; whnf
  dsimp only
  go_loopw [14, 15] (fun v i wr => ∃ k : Nat, k ≤ L.length ∧ i = .int .i64 (k : Int) ∧ v = .string (ktF (L.take k) p.data.toList).2 ∧ Hid (FB nm (ktF (L.take k) p.data.toList).1 ⟨#[]⟩ Nb w wr)) (fun _ i _ => L.length - (RowKit.intOf i).toNat)
  case atStart => exact ⟨0, Nat.zero_le _, rfl, rfl, HB0⟩
  case round =>
    obtain ⟨k, hk, rfl, rfl, HI⟩ := hrel
    by_cases hlt : k < L.length
    · have hki : (k : Int) < (L.length : Int) := by omega
      obtain ⟨k1, hk1⟩ : ∃ k1, k1 = k + 1 := ⟨_, rfl⟩
      have ek1 : (k : Int) + 1 = (k1 : Int) := by omega
      have ek2 : IntKind.i64.wrap (k1 : Int) = (k1 : Int) := by rw [IntKind.wrap_i64]; omega
      have HK1 : Hid (k1 = k + 1 ∧ k < L.length) := ⟨hk1, hlt⟩
      have HKt : Hid (ktF (L.take (k + 1)) p.data.toList = if pth L[k] = p.data.toList then (kdF (L[k]).rn, (L[k]).tx) else ktF (L.take k) p.data.toList) := by
        show _ = _
        rw [List.take_succ_eq_append_getElem hlt, ktF_snoc]
      have hF := HI.out
      obtain ⟨kt, hkt⟩ : ∃ kt, kt = ktF (L.take k) p.data.toList := ⟨_, rfl⟩
      rw [← hkt] at hF HI HKt ⊢
      clear hkt
      obtain ⟨kd0, tx0⟩ := kt
      simp only at hF HI ⊢
      have hI0 := HL.out _ _ hF
      have hF1 := hF.set1 1
      have hI1 := HL.out _ _ hF1
      have hF2 := hF1.drew
      have hI2 := HL.out _ _ hF2
      have hF3 := hF2.set1 2
      rcases hI0 with h | ⟨g, o, rfl, hg, hc⟩
      · exfalso; rw [h] at hlt; exact absurd hlt (by simp)
      obtain ⟨c0, c1, c2⟩ := hc k hlt
      rcases hI1 with h | ⟨g', o', e', _, hc'⟩
      · exfalso; rw [h] at hlt; exact absurd hlt (by simp)
      cases e'
      obtain ⟨d0, d1, d2⟩ := hc' k hlt
      rcases hI2 with h | ⟨g', o', e', _, hc2⟩
      · exfalso; rw [h] at hlt; exact absurd hlt (by simp)
      cases e'
      obtain ⟨b0, b1, b2⟩ := hc2 k hlt
      have n1 := hF.c1
      have z1 := hF.fz 1
      have m1 := hF2.c1
      have y1 := hF2.fz 1
      have heq : (L[k].pa.toList == p.toList) = decide (pth L[k] = p.data.toList) := eqL _ _
      have H1 : Hid (FB nm 1 ⟨#[]⟩ Nb w ((wr.setCell ⟨Nb, 1, none⟩ (.int .i64 1)).drew)) := hF2
      have H2 : Hid (FB nm 2 ⟨#[]⟩ Nb w (((wr.setCell ⟨Nb, 1, none⟩ (.int .i64 1)).drew).setCell ⟨Nb, 1, none⟩ (.int .i64 2))) := hF3
      clear hc hc' hc2 hF hF1 hF2 hF3 hk1
      generalize L[k] = f at *
      obtain ⟨fp, ft, fr⟩ := f
      simp only at c0 c1 c2 d0 d1 d2 b0 b1 b2 heq HKt
      by_cases hp : pth ⟨fp, ft, fr⟩ = p.data.toList
      · rw [decide_eq_true hp] at heq
        rw [if_pos hp] at HKt
        clear hp
        cases fr with
        | true =>
          go_wp2
          go_region
          all_goals
            go_wp2
            refine ⟨⟨k1, by have := HK1.out; omega, rfl, ?_, ?_⟩, ?_⟩
            · rw [HK1.out.1, HKt.out]
            · rw [HK1.out.1, HKt.out]; exact H2
            · have := HK1.out
              simp [RowKit.intOf]; omega
        | false =>
          go_wp2
          go_region
          all_goals
            go_wp2
            refine ⟨⟨k1, by have := HK1.out; omega, rfl, ?_, ?_⟩, ?_⟩
            · rw [HK1.out.1, HKt.out]
            · rw [HK1.out.1, HKt.out]; exact H1
            · have := HK1.out
              simp [RowKit.intOf]; omega
      · rw [decide_eq_false hp] at heq
        rw [if_neg hp] at HKt
        clear hp
        go_wp2
        refine ⟨⟨k1, by have := HK1.out; omega, rfl, ?_, ?_⟩, ?_⟩
        · rw [HK1.out.1, HKt.out]
        · rw [HK1.out.1, HKt.out]; exact HI
        · have := HK1.out
          simp [RowKit.intOf]; omega
    · obtain rfl : k = L.length := by omega
      have k2 : ¬ (L.length : Int) < (L.length : Int) := by omega
      rw [List.take_length] at HI ⊢
      clear hk hlt
      go_wp2
      exact HX.out _ _ _ _ _ _ _ _ _ _ _ _ _ _ _ _ _ _ _ _ _ _ _ _ _ _ _ HI

/-- How it stands behind so many texts of a directory further in. -/
def MrI (B : Nat) (A M : List (List UInt8)) (w : World) (k : Nat) (v0 v : Value) (wr : World) : Prop := RowT B (addAll (A ++ M.take k)) v wr ∧ Below w.heap.size w wr ∧ ∀ g, v.ownBlock = some g → v0.ownBlock = some g ∨ w.heap.size ≤ g

set_option maxHeartbeats 8000000 in
set_option maxRecDepth 100000 in
theorem moreL (x0 x1 x2 x3 x4 x5 x6 x7 x8 x9 x11 x12 x13 x14 x15 x16 x19 x20 x21 x22 x23 x24 x25 x26 x27 x28 x29 x30 x31 x32 x33 x34 x35 x36 x37 x38 x39 x40 x41 x42 x43 x44 x45 x46 x47 x48 x49 x50 x51 x52 x53 x54 x55 x56 x57 x58 x59 x60 x61 x62 x63 x64 x65 x66 x67 x68 x69 x70 x71 x72 x73 x74 x75 x76 x77 x78 x79 x80 x81 x82 x83 x84 x85 x86 x87 x88 x89 x90 x91 x92 x93 x94 x95 x96 x97 x98 x99 x100 x101 x102 x103 x104 x105 x106 x107 x108 x109 x110 x111 x112 x113 x114 x115 x116 x117 x118 x119 x120 x121 x122 x123 x124 x125 x126 x127 : Value) (B B2 : Nat) (A M : List (List UInt8)) (v0 : Value) (mo : Option Addr) (mc : Nat) (w : World) (hA : RowT B (addAll A) v0 w) (hM : w.ownsRow B2 9 1 (.slice mo M.length mc) M.length (M.map encStr)) (hl : A.length + M.length ≤ 1000000) (Q0 : Exit → Act → World → Prop)
    (hexit : ∀ (u10 u18 u103 u104 u105 u106 u107 u108 u109 u110 u111 u112 u113 u114 : Value) (w' : World), Hid (MrI B A M w M.length v0 u10 w') → Q0 (.exit 6) ⟨#[x0, x1, x2, x3, x4, x5, x6, x7, x8, x9, u10, x11, x12, x13, x14, x15, x16, .slice mo M.length mc, u18, x19, x20, x21, x22, x23, x24, x25, x26, x27, x28, x29, x30, x31, x32, x33, x34, x35, x36, x37, x38, x39, x40, x41, x42, x43, x44, x45, x46, x47, x48, x49, x50, x51, x52, x53, x54, x55, x56, x57, x58, x59, x60, x61, x62, x63, x64, x65, x66, x67, x68, x69, x70, x71, x72, x73, x74, x75, x76, x77, x78, x79, x80, x81, x82, x83, x84, x85, x86, x87, x88, x89, x90, x91, x92, x93, x94, x95, x96, x97, x98, x99, x100, x101, x102, u103, u104, u105, u106, u107, u108, u109, u110, u111, u112, u113, u114, x115, x116, x117, x118, x119, x120, x121, x122, x123, x124, x125, x126, x127], []⟩ w') :
    Code.wp Tryz.prog (subC [true, true, true, true, true, false, true, false, false, true, false, false, true, true, true, true, true, false, true, false, true, true, true, false] (Tryz.f32.body.getD .skip)) Q0 ⟨#[x0, x1, x2, x3, x4, x5, x6, x7, x8, x9, v0, x11, x12, x13, x14, x15, x16, .slice mo M.length mc, .int .i64 0, x19, x20, x21, x22, x23, x24, x25, x26, x27, x28, x29, x30, x31, x32, x33, x34, x35, x36, x37, x38, x39, x40, x41, x42, x43, x44, x45, x46, x47, x48, x49, x50, x51, x52, x53, x54, x55, x56, x57, x58, x59, x60, x61, x62, x63, x64, x65, x66, x67, x68, x69, x70, x71, x72, x73, x74, x75, x76, x77, x78, x79, x80, x81, x82, x83, x84, x85, x86, x87, x88, x89, x90, x91, x92, x93, x94, x95, x96, x97, x98, x99, x100, x101, x102, x103, x104, x105, x106, x107, x108, x109, x110, x111, x112, x113, x114, x115, x116, x117, x118, x119, x120, x121, x122, x123, x124, x125, x126, x127], []⟩ w := by
  have HX : Hid (∀ (u10 u18 u103 u104 u105 u106 u107 u108 u109 u110 u111 u112 u113 u114 : Value) (w' : World), Hid (MrI B A M w M.length v0 u10 w') → Q0 (.exit 6) ⟨#[x0, x1, x2, x3, x4, x5, x6, x7, x8, x9, u10, x11, x12, x13, x14, x15, x16, .slice mo M.length mc, u18, x19, x20, x21, x22, x23, x24, x25, x26, x27, x28, x29, x30, x31, x32, x33, x34, x35, x36, x37, x38, x39, x40, x41, x42, x43, x44, x45, x46, x47, x48, x49, x50, x51, x52, x53, x54, x55, x56, x57, x58, x59, x60, x61, x62, x63, x64, x65, x66, x67, x68, x69, x70, x71, x72, x73, x74, x75, x76, x77, x78, x79, x80, x81, x82, x83, x84, x85, x86, x87, x88, x89, x90, x91, x92, x93, x94, x95, x96, x97, x98, x99, x100, x101, x102, u103, u104, u105, u106, u107, u108, u109, u110, u111, u112, u113, u114, x115, x116, x117, x118, x119, x120, x121, x122, x123, x124, x125, x126, x127], []⟩ w') := hexit
  have HS : Hid (MrI B A M w 0 v0 v0 w) := ⟨by rw [List.take_zero, List.append_nil]; exact hA, Below.refl _ _, fun g hg => .inl hg⟩
  have HM : Hid (∀ W, Below w.heap.size w W → W.ownsRow B2 9 1 (.slice mo M.length mc) M.length (M.map encStr)) := fun W hW => row_heap hM fun b hb => hW.block b (hM.lt b hb).2
  have hn1 : (M.length : Int) ≤ 1000000 := by omega
  clear hexit hA hM
  conv => arg 2; whnf
  dsimp only
  go_loopw [10, 18] (fun v i wr => ∃ k : Nat, k ≤ M.length ∧ i = .int .i64 (k : Int) ∧ Hid (MrI B A M w k v0 v wr)) (fun _ i _ => M.length - (RowKit.intOf i).toNat)
  case atStart => exact ⟨0, Nat.zero_le _, rfl, HS⟩
  case round =>
    obtain ⟨k, hk, rfl, HI⟩ := hrel
    by_cases hlt : k < M.length
    · have hki : (k : Int) < (M.length : Int) := by omega
      obtain ⟨k1, hk1⟩ : ∃ k1, k1 = k + 1 := ⟨_, rfl⟩
      have ek1 : (k : Int) + 1 = (k1 : Int) := by omega
      have ek2 : IntKind.i64.wrap (k1 : Int) = (k1 : Int) := by rw [IntKind.wrap_i64]; omega
      have HK1 : Hid (k1 = k + 1 ∧ k < M.length) := ⟨hk1, hlt⟩
      have hrow := HM.out _ HI.out.2.1
      obtain ⟨g, c', hv, _, _⟩ := hrow.form (by omega)
      cases hv
      have c0 : wr.cell? ⟨g, k, none⟩ = some (.string ⟨(M[k]).toArray⟩) := by
        refine (hrow.cellAt k (by omega)).trans ?_
        rw [List.getElem?_map, List.getElem?_eq_getElem hlt]
        rfl
      have hal : (addAll (A ++ M.take k)).length ≤ 1000000 := by
        have h1 := addAll_len (A ++ M.take k)
        rw [List.length_append, List.length_take] at h1
        omega
      have HAd : Hid (Calls Tryz.prog 33 #[u10, .string ⟨(M[k]).toArray⟩] wr fun e w2 => ∃ v', e = .returned v' ∧ Hid (MrI B A M w (k + 1) v0 v' w2)) := by
        refine (HI.out.1.add ⟨(M[k]).toArray⟩ hal).mono ?_
        rintro e w2 ⟨v', rfl, hr2, hb2, hg2⟩
        refine ⟨v', rfl, ?_, HI.out.2.1.trans (hb2.mono HI.out.2.1.size), fun g hg => ?_⟩
        · rw [List.take_succ_eq_append_getElem hlt, ← List.append_assoc, addAll_snoc]
          exact hr2
        · rcases hg2 g hg with h1 | h1
          · exact HI.out.2.2 g h1
          · exact .inr (Nat.le_trans HI.out.2.1.size h1)
      generalize (⟨(M[k]).toArray⟩ : ByteArray) = s at c0 HAd
      clear hrow hal hk1 hk hlt
      go_wp2_with fail
      refine HAd.out.mono ?_
      rintro e w2 ⟨v', rfl, HN⟩
      clear HAd c0
      go_wp2
      refine ⟨⟨k1, by have := HK1.out; omega, rfl, by rw [HK1.out.1]; exact HN⟩, ?_⟩
      have := HK1.out
      simp [RowKit.intOf]; omega
    · obtain rfl : k = M.length := by omega
      have k2 : ¬ (M.length : Int) < (M.length : Int) := by omega
      clear hk hlt
      go_wp2
      exact HX.out _ _ _ _ _ _ _ _ _ _ _ _ _ _ _ HI
end Go.Proofs.YtcdgdmhlbgbklaaGreatDoor
