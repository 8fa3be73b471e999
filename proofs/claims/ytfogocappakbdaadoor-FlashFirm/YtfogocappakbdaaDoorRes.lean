/-
  The document's device stored whole, and as a result.
-/
import Derived.Test.YtfogocappakbdaaDoorOver
namespace Go.Proofs.YtfogocappakbdaaDoor
open Go.RowKit
theorem Tryd.info33m : (Tryd.prog.info? 33).map (fun i => (i.zero, i.size, i.bytes)) = some (some (.agg #[.int .i64 0, .slice none 0 0, .slice none 0 0, .int .i64 0, .bool false, .int .i64 0]), 6, 80) := by kernel_rfl
theorem Tryd.und33 : ∃ fs, Tryd.prog.underlying 33 = some (.struct fs) := ⟨Tryd.prog.fieldsOf 33, by kernel_rfl⟩
section
variable {ops : Array Oper} {rest : List Oper} {op : Oper} {a : Act} {w : World} {Q : Exit → Act → World → Prop}
theorem st33 (hgd : op.guard = none) (x y : Operand) (ho : op.op = .store 33 x y) (b : Nat) (hx : a.eval x = .pointer (some ⟨b, 0, none⟩)) (c : Array Value) (x0 x1 x2 x3 x4 x5 : Value)
    (hw : w.heap[b]? = some (.cells c 33 (0, 0))) (hc : c.size = 6) (hy : a.eval y = .agg #[x0, x1, x2, x3, x4, x5]) (h1 : x0.oneCell' = true ∧ x1.oneCell' = true ∧ x2.oneCell' = true ∧ x3.oneCell' = true ∧ x4.oneCell' = true ∧ x5.oneCell' = true)
    (h : ∀ w', w'.heap[b]? = some (.cells #[x0, x1, x2, x3, x4, x5] 33 (0, 0)) → w.grownBy w' (some b) → wpList Tryd.prog ops Q rest (a.put op.dst undef) w') : wpList Tryd.prog ops Q (op :: rest) a w :=
  stB 33 6 (size_of Tryd.info33m) hgd x y ho b hx c _ hw hy hc rfl (by
    obtain ⟨e0, e1, e2, e3, e4, e5⟩ := h1
    intro u hu
    simp at hu
    rcases hu with rfl | rfl | rfl | rfl | rfl | rfl <;> assumption) h
end
theorem load33 (w : World) (b : Nat) (x0 x1 x2 x3 x4 x5 : Value) (t : TypeId) (fr : Nat × Nat) (hc : w.heap[b]? = some (.cells #[x0, x1, x2, x3, x4, x5] t fr)) : (loadVar 33 ⟨b, 0, none⟩).run Tryd.prog w = .ok (.agg #[x0, x1, x2, x3, x4, x5]) w := by
  obtain ⟨fs, hu⟩ := Tryd.und33
  exact run_loadVar_row (P := Tryd.prog) w b t 33 _ fr _ hc hu rfl (size_of Tryd.info33m)
theorem results33 {fn : Func} {p u : Tmp} (h : fn.results = #[.cell p 33, .tmp u]) (tmps : Array Value) (w : World) (b : Nat) (ht : tmps.getD p undef = .pointer (some ⟨b, 0, none⟩)) (x0 x1 x2 x3 x4 x5 : Value) (t : TypeId) (fr : Nat × Nat)
    (hc : w.heap[b]? = some (.cells #[x0, x1, x2, x3, x4, x5] t fr)) (y : Value) (hy : tmps.getD u undef = y) : (results fn tmps).run Tryd.prog w = .ok (.tuple #[.agg #[x0, x1, x2, x3, x4, x5], y]) w := by
  rw [results_cell_tmp h, ht, hy]
  simp only [asAddr, Sem.run_pure, Result.andThen_ok, load33 w b x0 x1 x2 x3 x4 x5 t fr hc]
theorem result33 {fn : Func} {p : Tmp} (h : fn.results = #[.cell p 33]) (tmps : Array Value) (w : World) (b : Nat) (ht : tmps.getD p undef = .pointer (some ⟨b, 0, none⟩)) (x0 x1 x2 x3 x4 x5 : Value) (t : TypeId) (fr : Nat × Nat)
    (hc : w.heap[b]? = some (.cells #[x0, x1, x2, x3, x4, x5] t fr)) : (results fn tmps).run Tryd.prog w = .ok (.agg #[x0, x1, x2, x3, x4, x5]) w := by
  rw [results_cell h, ht]
  simp only [asAddr, Sem.run_pure, Result.andThen_ok, load33 w b x0 x1 x2 x3 x4 x5 t fr hc]
end Go.Proofs.YtfogocappakbdaaDoor
