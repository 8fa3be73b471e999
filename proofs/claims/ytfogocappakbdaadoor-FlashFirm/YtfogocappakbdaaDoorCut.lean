/-
  What stands behind a place of a slice.
-/
import Derived.Test.YtfogocappakbdaaDoorRefC
namespace Go.Proofs.YtfogocappakbdaaDoor
open Go.RowKit
/-- The address of a slice's rest. -/
def tl (cp : Option Addr) (j cap size : Nat) : Option Addr := if cap = j then cp else cp.map fun a => a.add (j * size)
theorem sl30 (cp : Option Addr) (n cap j : Nat) (hj : j ≤ n) (w : World) : (Instr.sliceAt 30 (.slice cp n cap) (some (.int .i64 (j : Int))) none none).run Tryd.prog w = .ok (.slice (tl cp j cap 2) (n - j) (cap - j)) w := by
  obtain ⟨ii, hi1, _, hi2, _⟩ := info_of Tryd.info89m
  have h1 : (j : Int) ≤ n := by omega
  simp [Instr.sliceAt, Instr.slice, run_underlying Tryd.underlying30, Instr.sliceBounds, go_sem, Result.andThen, sizeOf, typeInfo, hi1, hi2, h1, tl]
theorem clL_drop (cs : List Cl) (k : Nat) : (clL cs).drop (k * 2) = clL (cs.drop k) := by
  induction cs generalizing k with
  | nil => simp [clL]
  | cons x r ih =>
    cases k with
    | zero => simp
    | succ k =>
      simp only [clL, List.flatMap_cons] at ih ⊢
      rw [show (k + 1) * 2 = 2 + k * 2 by omega, List.drop_append]
      simp [← ih k]
theorem tail_ok {w : World} {cp : Option Addr} {cap : Nat} {cs : List Cl} (h : CellsAt w (.slice cp cs.length cap) cs) (hcn : cp = none → cap = 0) {j : Nat} (_hj : j ≤ cs.length) :
    (tl cp j cap 2 = none → cs.length - j = 0 ∧ cap - j = 0) ∧ (0 < cs.length - j → ∃ ad, tl cp j cap 2 = some ad ∧ ∀ i u, (clL (cs.drop j))[i]? = some u → w.cell? (ad.add i) = some u) := by
  obtain ⟨p, cap', e, h2, h3, h4, h5⟩ := h.1.each
  cases e
  refine ⟨fun ht => ?_, fun hp => ?_⟩
  · have : cp = none := by
      unfold tl at ht
      split at ht
      · exact ht
      · simpa using ht
    have := hcn this
    omega
  · obtain ⟨x, hx⟩ : ∃ x, cs[j]? = some x := ⟨_, List.getElem?_eq_getElem (by omega)⟩
    obtain ⟨b, off, rfl, _, _⟩ := h5 _ _ (clL_at hx).1
    refine ⟨⟨b, off + j * 2, none⟩, ?_, fun i u hu => ?_⟩
    · unfold tl
      rw [if_neg (by omega)]
      simp [Addr.add_mid]
    · rw [Addr.add_mid]
      rw [← clL_drop, List.getElem?_drop] at hu
      obtain ⟨b', off', e', _, hc⟩ := h5 _ _ hu
      cases e'
      rw [Nat.add_assoc]
      exact hc
end Go.Proofs.YtfogocappakbdaaDoor
