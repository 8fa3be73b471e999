/-
  A slice of a page.
-/
import Derived.Test.YtfogocappakbdaaDoorOps
namespace Go.Proofs.YtfogocappakbdaaDoor
open Go.RowKit
set_option maxRecDepth 10000 in
theorem sl79 (a : Addr) (k : Nat) (hk : k ≤ 256) (w : World) : (Instr.sliceAt 79 (.pointer (some a)) none (some (.int .i64 (k : Int))) none).run Tryd.prog w = .ok (.slice (some a) k 256) w := by
  obtain ⟨ii, hi1, _, _, _⟩ := info_of Tryd.info5m
  have h2 : (k : Int) ≤ 256 := by omega
  simp [Instr.sliceAt, run_underlying Tryd.underlying79, Instr.sureAddr, Instr.sliceBounds, go_sem, Result.andThen, sizeOf, typeInfo, hi1, h2, Addr.add]
set_option maxRecDepth 10000 in
theorem sl79all (a : Addr) (w : World) : (Instr.sliceAt 79 (.pointer (some a)) none none none).run Tryd.prog w = .ok (.slice (some a) 256 256) w := by
  obtain ⟨ii, hi1, _, _, _⟩ := info_of Tryd.info5m
  simp [Instr.sliceAt, run_underlying Tryd.underlying79, Instr.sureAddr, Instr.sliceBounds, go_sem, Result.andThen, sizeOf, typeInfo, hi1, Addr.add]
end Go.Proofs.YtfogocappakbdaaDoor
