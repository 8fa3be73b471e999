/-
  Fits as the document's answer has it.
-/
import Derived.Test.YtkbfihnoohhojaaDoorQLFits
namespace Go.Proofs.YtkbfihnoohhojaaDoor.Lea
open Go.RowKit

theorem sealL_length (l : List Nat) : (sealL l).length = l.length + 4 := by simp [sealL, four]

theorem fitsB_of {l : List Nat} (h4 : 4 ≤ l.length) (h : l = sealL (l.take (l.length - 4))) : fitsB l = true := by
  unfold fitsB
  rw [Bool.and_eq_true]
  exact ⟨by simpa using h4, by simpa using h⟩

theorem fitsB_not {l : List Nat} (h : l ≠ sealL (l.take (l.length - 4))) : fitsB l = false := by
  unfold fitsB
  rw [Bool.and_eq_false_iff]
  right; simpa using h

end Go.Proofs.YtkbfihnoohhojaaDoor.Lea
