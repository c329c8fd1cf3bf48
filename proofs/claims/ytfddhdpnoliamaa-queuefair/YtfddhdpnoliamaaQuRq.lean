/- The document's ring: Put, whole. -/
import Derived.Test.YtfddhdpnoliamaaQuRp
namespace Go.Proofs.Ytfddhdpnoliamaa
open Go.RowKit Go.Shelf

theorem jat_ge (l : List Jb) (p : Jb → Bool) : -1 ≤ jat l p := by
  unfold jat
  cases l.findIdx? p with
  | none => simp
  | some i => exact (show (-1 : Int) ≤ (i : Int) by omega)

def rputQ (r : Rg) (x : Int) (s : ByteArray) (y : Int) : Rg := if rE r x s y = 0 then rput r ⟨x.toNat, s, y.toNat⟩ else r

theorem rPut_any {B P : Nat} {tv cv jv : Value} {w : World} {r : Rg} (h : RS B P tv cv jv w r) (x : Int) (s : ByteArray) (y : Int) (hs : s.size ≤ maxLen) (hn : r.jobs.length ≤ 200) (ht : r.tens.length ≤ 1000) (hc : r.creds.length = r.tens.length) :
    Calls Try.prog 11 #[.pointer (some ⟨P, 0, none⟩), .agg #[.int .i64 x, .string s, .int .i64 y]] w fun e w' => e = .returned (.int .i64 (rE r x s y)) ∧ ∃ tv' cv' jv', RS B P tv' cv' jv' w' (rputQ r x s y) ∧ Upd (rids P tv cv jv) (rids P tv' cv' jv') w w' := by
  by_cases hE : rE r x s y = 0
  · have hQ : rputQ r x s y = rput r ⟨x.toNat, s, y.toNat⟩ := if_pos hE
    rw [hE, hQ]
    have hj0 : jobE x s y = 0 := by
      by_cases e : jobE x s y = 0
      · exact e
      · unfold rE at hE; rw [if_pos e] at hE; exact absurd hE e
    have hj1 : ¬ 0 ≤ jat r.jobs (fun j => eqN j.name s) := fun e => by
      unfold rE at hE
      rw [hj0, if_neg (by decide), if_pos e] at hE
      exact absurd hE (by decide)
    have hl : ¬ r.jobs.length = 200 := fun e => by
      unfold rE at hE
      rw [hj0, if_neg (by decide), if_neg hj1, if_pos e] at hE
      exact absurd hE (by decide)
    have hrg : ¬ (x < 1 ∨ 20 < x ∨ y < 1 ∨ 1000 < y) := fun e => by
      unfold jobE at hj0
      rw [if_pos e] at hj0
      exact absurd hj0 (by decide)
    have hnm : nameOk s = true := by
      cases e : nameOk s with
      | true => rfl
      | false =>
        unfold jobE at hj0
        rw [if_neg hrg, if_pos e] at hj0
        exact absurd hj0 (by decide)
    have hx : ((x.toNat : Nat) : Int) = x := by omega
    have hy : ((y.toNat : Nat) : Int) = y := by omega
    have hjm : jat r.jobs (fun j => eqN j.name s) = -1 := by have := jat_ge r.jobs (fun j => eqN j.name s); omega
    have ex : (Value.int .i64 x) = Value.int .i64 ((⟨x.toNat, s, y.toNat⟩ : Jb).ten : Int) := by show _ = Value.int .i64 ((x.toNat : Nat) : Int); rw [hx]
    have ey : (Value.int .i64 y) = Value.int .i64 ((⟨x.toNat, s, y.toNat⟩ : Jb).cost : Int) := by show _ = Value.int .i64 ((y.toNat : Nat) : Int); rw [hy]
    rw [ex, ey]
    have g1 : ¬ ((⟨x.toNat, s, y.toNat⟩ : Jb).ten : Int) < 1 := by show ¬ ((x.toNat : Nat) : Int) < 1; omega
    have g2 : ¬ 20 < ((⟨x.toNat, s, y.toNat⟩ : Jb).ten : Int) := by show ¬ 20 < ((x.toNat : Nat) : Int); omega
    have g3 : ¬ ((⟨x.toNat, s, y.toNat⟩ : Jb).cost : Int) < 1 := by show ¬ ((y.toNat : Nat) : Int) < 1; omega
    have g4 : ¬ 1000 < ((⟨x.toNat, s, y.toNat⟩ : Jb).cost : Int) := by show ¬ 1000 < ((y.toNat : Nat) : Int); omega
    by_cases hf : jat r.jobs (fun z => decide ((z.ten : Int) = ((⟨x.toNat, s, y.toNat⟩ : Jb).ten : Int))) < 0
    · have hf1 : jat r.jobs (fun z => decide ((z.ten : Int) = ((⟨x.toNat, s, y.toNat⟩ : Jb).ten : Int))) = -1 := by have := jat_ge r.jobs (fun z => decide ((z.ten : Int) = ((⟨x.toNat, s, y.toNat⟩ : Jb).ten : Int))); omega
      have hp : rput r ⟨x.toNat, s, y.toNat⟩ = { r with tens := r.tens ++ [x.toNat], creds := r.creds ++ [0], jobs := r.jobs ++ [⟨x.toNat, s, y.toNat⟩] } := by
        unfold rput
        rw [if_pos hf, if_pos hf]
      rw [hp]
      exact rPut_new h ⟨x.toNat, s, y.toNat⟩ hs (by omega) ht hc g1 g2 g3 g4 hnm hjm hf1
    · have hp : rput r ⟨x.toNat, s, y.toNat⟩ = { r with jobs := r.jobs ++ [⟨x.toNat, s, y.toNat⟩] } := by
        unfold rput
        rw [if_neg hf, if_neg hf]
      rw [hp]
      exact (rPut_old h ⟨x.toNat, s, y.toNat⟩ hs (by omega) g1 g2 g3 g4 hnm hjm (by omega)).mono fun e w' ⟨a, jv', b, c⟩ => ⟨a, tv, cv, jv', b, c⟩
  · have hQ : rputQ r x s y = r := if_neg hE
    rw [hQ]
    exact (rPut_no h x s y hs hn hE).mono fun e w' ⟨a, b⟩ => ⟨a, tv, cv, jv, h.up b, Upd.of_below b⟩
end Go.Proofs.Ytfddhdpnoliamaa
