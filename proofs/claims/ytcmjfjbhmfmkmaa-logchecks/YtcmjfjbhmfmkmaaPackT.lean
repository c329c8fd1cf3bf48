/- What wire's packer does with texts, and Texts. -/
import Derived.Test.YtcmjfjbhmfmkmaaSame
namespace Go.Proofs.Ytcmjfjbhmfmkmaa
open Go.RowKit Go.Shelf

def pkT (s : ByteArray) : List UInt8 := pk s.size ++ s.data.toList
def pkSS : List ByteArray → List UInt8
  | [] => []
  | s :: l => pkT s ++ pkSS l
theorem pkSS_append (l m : List ByteArray) : pkSS (l ++ m) = pkSS l ++ pkSS m := by
  induction l with
  | nil => rfl
  | cons s l ih => simp only [List.cons_append, pkSS, ih, List.append_assoc]
theorem pkSS_all (l : List (List UInt8)) : pkSS (l.map fun t => ⟨t.toArray⟩) = pkAll l := by
  induction l with
  | nil => rfl
  | cons t l ih =>
    simp only [List.map_cons, pkSS, pkAll, ih, pkT]
    rw [show (⟨t.toArray⟩ : ByteArray).size = t.length from size_of rfl]
    simp
theorem byteCells_app (a b : List UInt8) : Lib.byteCells (a ++ b) = Lib.byteCells a ++ Lib.byteCells b := by simp [Lib.byteCells]
end Go.Proofs.Ytcmjfjbhmfmkmaa
