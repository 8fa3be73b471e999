/-
  An act, both ways: the acts that end in regions that draw their order.
-/
import Derived.Test.YtkbfihnoohhojaaGreatDoorQFDoA
namespace Go.Proofs.YtkbfihnoohhojaaGreatDoor.Fla
open Go.RowKit
theorem all6 {x0 x1 x2 x3 x4 x5 : Value} (h : x0.oneCell' = true ∧ x1.oneCell' = true ∧ x2.oneCell' = true ∧ x3.oneCell' = true ∧ x4.oneCell' = true ∧ x5.oneCell' = true) : ∀ u ∈ (#[x0, x1, x2, x3, x4, x5] : Array Value).toList, u.oneCell' = true := by
  obtain ⟨e0, e1, e2, e3, e4, e5⟩ := h
  intro u hu
  simp at hu
  rcases hu with rfl | rfl | rfl | rfl | rfl | rfl <;> assumption
theorem RfAt.parts {w : World} {rv : Value} {r : Rf} {N : Nat} (h : RfAt w rv r N) : ∃ x0 x1 x2 x3 x4 x5, rv = .agg #[x0, x1, x2, x3, x4, x5] ∧ (x0.oneCell' = true ∧ x1.oneCell' = true ∧ x2.oneCell' = true ∧ x3.oneCell' = true ∧ x4.oneCell' = true ∧ x5.oneCell' = true) := by
  obtain ⟨cp, cc, lp, lc, cs, lo, h1, _⟩ := h
  exact ⟨_, _, _, _, _, _, h1, rfl, rfl, rfl, rfl, rfl, rfl⟩

end Go.Proofs.YtkbfihnoohhojaaGreatDoor.Fla
