/-
  The document's side: All.
-/
import Derived.Test.YtkbfihnoohhojaaDoorQFRefG
namespace Go.Proofs.YtkbfihnoohhojaaDoor.Fla
open Go.RowKit

/-- The first pages that are not blank. -/
def rallN (r : Rf) (n : Nat) : List (Int × List Nat) := (List.range n).filterMap fun (a : Nat) => if isBlank (rlook r (a : Int)) = true then none else some ((a : Int), rlook r (a : Int))
theorem clL_snoc (l : List Cl) (a : Int) (u : Value) (q : List Nat) : clL (l ++ [(a, u, q)]) = clL l ++ [.int .i64 a, u] := by simp [clL]
theorem rallN_succ (r : Rf) (n : Nat) : rallN r (n + 1) = rallN r n ++ (if isBlank (rlook r (n : Int)) = true then [] else [((n : Int), rlook r (n : Int))]) := by
  unfold rallN
  rw [List.range_succ, List.filterMap_append]
  congr 1
  simp only [List.filterMap_cons, List.filterMap_nil]
  split <;> simp_all

end Go.Proofs.YtkbfihnoohhojaaDoor.Fla
