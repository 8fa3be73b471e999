/-
  An act, both ways: Write and Read.
-/
import Derived.Test.YtkbfihnoohhojaaGreatDoorQFDoB
namespace Go.Proofs.YtkbfihnoohhojaaGreatDoor.Fla
open Go.RowKit
theorem row5 {w : World} {b : Nat} {l : List Nat} (h : w.heap[b]? = some (.cells (pgV l) 5 (0, 0))) {n : Nat} (hl : l.length = 256) (hn : n ≤ 256) : BAt w (.slice (some ⟨b, 0, none⟩) n 256) (l.take n) := by
  have e : (l.take n).length = n := by rw [List.length_take]; omega
  refine ⟨some ⟨b, 0, none⟩, 256, by rw [e], by rw [e]; exact hn, by unfold maxLen; omega, by rw [U_length, Nat.mul_one], .inr ⟨b, 0, pgV l, rfl, ⟨5, (0, 0), h, by decide, by decide, by decide, by decide⟩, fun k u hk => ?_⟩⟩
  rw [← U_take, List.getElem?_take] at hk
  split at hk
  · simpa [pgV] using hk
  · cases hk
theorem sl46 (a : Addr) (w : World) : (Instr.sliceAt 42 (.slice (some a) 256 256) none (some (.int .i64 255)) none).run Tryz.prog w = .ok (.slice (some a) 255 256) w := by
  obtain ⟨ii, hi1, _, _, _⟩ := info_of Tryz.info5m
  simp [Instr.sliceAt, Instr.slice, run_underlying Tryz.underlying42, Instr.sliceBounds, go_sem, Result.andThen, sizeOf, typeInfo, hi1, Addr.add]
theorem take256 {l : List Nat} (h : l.length = 256) : l.take 256 = l := List.take_of_length_le (by omega)

end Go.Proofs.YtkbfihnoohhojaaGreatDoor.Fla
