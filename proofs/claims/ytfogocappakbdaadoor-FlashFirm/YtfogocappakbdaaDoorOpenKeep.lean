/-
  A slice of numbers that came in as a parameter, opened.
-/
import Derived.Test.YtfogocappakbdaaDoorOpen
namespace Go.Proofs.YtfogocappakbdaaDoor
open Go.ChangeShapes Go.WideShapes Go.ChangeAt Go.WideMaps Go.WideElems Go.RowKit Go.Deep

theorem open_keeps {H : Type} {enc : TypeId × Value → H} {W : World} {v : Value} {d : DataW H} {p : List MemPlace} (h : DataW.Trod enc Tryd.prog W 0 (fun _ => true) true 40 v d p) (hv : ∃ a len cap, v = .slice a len cap) :
    ∃ ks, KLow W W.heap.size v ks := by
  obtain ⟨a0, len0, cap0, rfl⟩ := hv
  obtain ⟨fuel, hf⟩ := h
  exact open_keep (x := (d, p)) (by simpa [Value.cells] using hf)
end Go.Proofs.YtfogocappakbdaaDoor
