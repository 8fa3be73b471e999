/-
  errors.As called, at this seat: of no error, of a fault, of two errors together.
-/
import Derived.Test.YtibplphpbbajhaaDoorAs
namespace Go.Proofs.YtibplphpbbajhaaDoor
open Go.RowKit Go.Extern.Stop Go.Stop Go.Extern

/-- errors.As of no error. -/
theorem As_nil (t : Value) (w : World) : Calls Tryd.prog 44 #[.nilIface, t] w fun e w' => e = .returned (.bool false) ∧ w' = w := by
  go_enter Tryd.func44, Tryd.ntmps44
  go_wp2
  go_ret
  exact ⟨rfl, rfl⟩

/-- The variable errors.errorType holds the handle of the type error. -/
abbrev ErrT (w : World) : Prop := w.cell? ⟨0, 0, none⟩ = some (.iface 96 (.agg #[.pointer (some ⟨1, 26, none⟩)]))

set_option maxHeartbeats 2000000 in
/-- errors.As, if errors.as sets the target. -/
theorem As_of (x e t : Addr) (T : TypeId) (old : Value) (w : World) (hg : ErrT w) (ht0 : w.cell? t = some old) (hf0 : w.frozen? t = false)
    (has : ∀ (va : Addr) (W : World), Below w.heap.size w W → W.cell? va = some (.pointer (some t)) → W.cell? t = some old → W.frozen? t = false →
      Calls Tryd.prog 48 #[.iface T (.pointer (some x)), .iface 82 (.pointer (some t)), valP va, typF] W fun ev w' => ev = .returned (.bool true) ∧ ∃ w2, Below W.heap.size W w2 ∧ w' = w2.setCell t (.pointer (some e))) :
    Calls Tryd.prog 44 #[.iface T (.pointer (some x)), .iface 82 (.pointer (some t))] w fun ev w' => ev = .returned (.bool true) ∧ ∃ w2, Below w.heap.size w w2 ∧ w' = w2.setCell t (.pointer (some e)) := by
  have hlt : 0 < w.heap.size := lt_of_cell hg
  have hb1 : Below w.heap.size w ((w.alloc (.cells #[.pointer (some t)] 82)).alloc (.cells #[.pointer (some ⟨1, 82, none⟩), .pointer (some ⟨w.heap.size, 0, none⟩), .int .u64 150] 86)) := by go_grown
  have fP := Tryd.valueOfP
  have tP := Tryd.typeP
  have kP := Tryd.kindP
  have kF := Tryd.kindF
  have eP := Tryd.elemP
  have iF := Tryd.implementsF
  have mK := Tryd.methodKind
  have mE := Tryd.methodElem
  have mI := Tryd.methodImplements
  have hc0 : ((w.alloc (.cells #[.pointer (some t)] 82)).alloc (.cells #[.pointer (some ⟨1, 82, none⟩), .pointer (some ⟨w.heap.size, 0, none⟩), .int .u64 150] 86)).cell? ⟨w.heap.size, 0, none⟩ = some (.pointer (some t)) := by simp
  have nP := Tryd.isNilP ⟨w.heap.size, 0, none⟩ t _ hc0
  have hg1 : ((w.alloc (.cells #[.pointer (some t)] 82)).alloc (.cells #[.pointer (some ⟨1, 82, none⟩), .pointer (some ⟨w.heap.size, 0, none⟩), .int .u64 150] 86)).cell? ⟨0, 0, none⟩ = some (.iface 96 (.agg #[.pointer (some ⟨1, 26, none⟩)])) := (hb1.cell (p := ⟨0, 0, none⟩) hlt).trans hg
  have HA := has ⟨w.heap.size, 0, none⟩ _ hb1 hc0 ((hb1.cell (lt_of_cell ht0)).trans ht0) ((hb1.frozen (lt_of_cell ht0)).trans hf0)
  clear has
  go_enter Tryd.func44, Tryd.ntmps44
  go_wp2_with (first
    | (go_at_call 48; refine HA.mono ?_; rintro ev w' ⟨rfl, w2, hb2, rfl⟩)
    | (go_at_call 45; go_in) | (go_at_call 46; go_in) | (go_at_call 47; go_in) | (go_at_call 66; go_in) | (go_at_call 77; go_in) | (go_at_call 78; go_in))
  go_ret
  exact ⟨rfl, w2, hb1.trans (hb2.mono hb1.size), rfl⟩

/-- errors.As of a fault. -/
theorem As_fault (e t : Addr) (old : Value) (w : World) (hg : ErrT w) (ht0 : w.cell? t = some old) (hf0 : w.frozen? t = false) :
    Calls Tryd.prog 44 #[.iface 72 (.pointer (some e)), .iface 82 (.pointer (some t))] w fun ev w' => ev = .returned (.bool true) ∧ ∃ w2, Below w.heap.size w w2 ∧ w' = w2.setCell t (.pointer (some e)) :=
  As_of e e t 72 old w hg ht0 hf0 fun va W _ h1 h2 h3 => as_fault e t va old W h1 h2 h3

end Go.Proofs.YtibplphpbbajhaaDoor
