/-
  The document's lists as a value of four cells: stored whole, loaded whole, as a result.
-/
import Derived.Test.YtibplphpbbajhaaDoorRef
import Derived.Laws.ResultCell
import Derived.Laws.Tables
import Derived.Laws.Rows
import Derived.Deep.RegionHeld3
import Derived.Deep.MidRow
namespace Go.Proofs.YtibplphpbbajhaaDoor
open Go.RowKit

theorem Tryd.size32 : (Tryd.prog.info? 32).map (·.size) = some 4 := by kernel_rfl
theorem Tryd.und32 : ∃ fs, Tryd.prog.underlying 32 = some (.struct fs) := ⟨Tryd.prog.fieldsOf 32, by kernel_rfl⟩
theorem grown_setRow (w : World) (g : Nat) (cs : Array Value) : w.grownBy (w.setRow g cs) (some g) :=
  ⟨rfl, rfl, rfl, by simp [World.setRow], fun k _ hk => setRow_other w g k cs (by intro e; exact hk (by rw [e]))⟩
theorem run_st32 {w : World} {b : Nat} {c : Array Value} {x0 x1 x2 x3 : Value} (hw : w.heap[b]? = some (.cells c 32 (0, 0))) (hc : c.size = 4) (h1 : x0.oneCell' = true ∧ x1.oneCell' = true ∧ x2.oneCell' = true ∧ x3.oneCell' = true) :
    (Instr.storeAt 32 (.pointer (some ⟨b, 0, none⟩)) (.agg #[x0, x1, x2, x3])).run Tryd.prog w = .ok () (w.setRow b #[x0, x1, x2, x3]) := by
  have h2 : (#[x0, x1, x2, x3] : Array Value).all (·.oneCell') = true := by simp [h1]
  simp only [Instr.storeAt, Instr.sureAddr, Sem.run_bind, Sem.run_pure, Result.andThen]
  exact run_storeVar_row _ _ 32 32 c _ hw Tryd.size32 hc h2
section
variable {ops : Array Oper} {rest : List Oper} {op : Oper} {a : Act} {w : World}
theorem st32 {Q : Exit → Act → World → Prop} (hgd : op.guard = none) (x y : Operand) (ho : op.op = .store 32 x y) (b : Nat) (hx : a.eval x = .pointer (some ⟨b, 0, none⟩)) (c : Array Value) (x0 x1 x2 x3 : Value)
    (hw : w.heap[b]? = some (.cells c 32 (0, 0))) (hc : c.size = 4) (hy : a.eval y = .agg #[x0, x1, x2, x3]) (h1 : x0.oneCell' = true ∧ x1.oneCell' = true ∧ x2.oneCell' = true ∧ x3.oneCell' = true)
    (h : ∀ w', w'.heap[b]? = some (.cells #[x0, x1, x2, x3] 32 (0, 0)) → w.grownBy w' (some b) → wpList Tryd.prog ops Q rest (a.put op.dst undef) w') : wpList Tryd.prog ops Q (op :: rest) a w := by
  refine wpList_plain hgd fun K hK => ?_
  unfold Oper.wp execOp
  simp only [ho, hx, hy, Sem.run_bind, run_st32 hw hc h1, Result.andThen_ok, Sem.run_pure]
  exact hK _ _ (h _ (setRow_heap w b c _ 32 (0, 0) hw) (grown_setRow w b _))
theorem step_st32 {K : Act → World → Prop} {Q : Exit → Act → World → Prop} {E : Prop} (hgd : op.guard = none) (x y : Operand) (ho : op.op = .store 32 x y) (b : Nat) (hx : a.eval x = .pointer (some ⟨b, 0, none⟩)) (c : Array Value) (x0 x1 x2 x3 : Value)
    (hw : w.heap[b]? = some (.cells c 32 (0, 0))) (hc : c.size = 4) (hy : a.eval y = .agg #[x0, x1, x2, x3]) (h1 : x0.oneCell' = true ∧ x1.oneCell' = true ∧ x2.oneCell' = true ∧ x3.oneCell' = true)
    (h : ∀ w', w'.heap[b]? = some (.cells #[x0, x1, x2, x3] 32 (0, 0)) → w.grownBy w' (some b) → K (a.put op.dst undef) w') :
    if Region.wanted op (yielded ops a.tmps) = true then Oper.wp Tryd.prog op a w K Q else E := by
  have hwt : Region.wanted op (yielded ops a.tmps) = true := by simp [Region.wanted, hgd]
  rw [if_pos hwt]
  unfold Oper.wp execOp
  simp only [ho, hx, hy, Sem.run_bind, run_st32 hw hc h1, Result.andThen_ok, Sem.run_pure]
  exact h _ (setRow_heap w b c _ 32 (0, 0) hw) (grown_setRow w b _)
end
theorem load32 (w : World) (b : Nat) (x0 x1 x2 x3 : Value) (t : TypeId) (fr : Nat × Nat) (hc : w.heap[b]? = some (.cells #[x0, x1, x2, x3] t fr)) : (loadVar 32 ⟨b, 0, none⟩).run Tryd.prog w = .ok (.agg #[x0, x1, x2, x3]) w := by
  obtain ⟨fs, hu⟩ := Tryd.und32
  exact run_loadVar_row (P := Tryd.prog) w b t 32 _ fr _ hc hu rfl Tryd.size32
theorem results32 {fn : Func} {p u : Tmp} (h : fn.results = #[.cell p 32, .tmp u]) (tmps : Array Value) (w : World) (b : Nat) (ht : tmps.getD p undef = .pointer (some ⟨b, 0, none⟩)) (x0 x1 x2 x3 : Value) (t : TypeId) (fr : Nat × Nat)
    (hc : w.heap[b]? = some (.cells #[x0, x1, x2, x3] t fr)) (y : Value) (hy : tmps.getD u undef = y) : (results fn tmps).run Tryd.prog w = .ok (.tuple #[.agg #[x0, x1, x2, x3], y]) w := by
  rw [results_cell_tmp h, ht, hy]
  simp only [asAddr, Sem.run_pure, Result.andThen_ok, load32 w b x0 x1 x2 x3 t fr hc]
theorem results_cell {fn : Func} {p : Tmp} {ty : TypeId} (h : fn.results = #[.cell p ty]) (tmps : Array Value) (P : Program) (w : World) :
    (results fn tmps).run P w = ((asAddr (tmps.getD p undef)).run P w).andThen fun a w₁ => (loadVar ty a).run P w₁ := by
  simp only [results, h]
  simp [Sem.run_bind, Result.andThen]
theorem results_cell_two {fn : Func} {p u v : Tmp} {ty : TypeId} (h : fn.results = #[.cell p ty, .tmp u, .tmp v]) (tmps : Array Value) (P : Program) (w : World) :
    (results fn tmps).run P w =
      ((asAddr (tmps.getD p undef)).run P w).andThen fun a w₁ => ((loadVar ty a).run P w₁).andThen fun x w₂ => .ok (.tuple #[x, tmps.getD u undef, tmps.getD v undef]) w₂ := by
  simp only [results, h]
  simp [Sem.run_bind, Result.andThen]
theorem results32c {fn : Func} {p u v : Tmp} (h : fn.results = #[.cell p 32, .tmp u, .tmp v]) (tmps : Array Value) (w : World) (b : Nat) (ht : tmps.getD p undef = .pointer (some ⟨b, 0, none⟩)) (x0 x1 x2 x3 : Value) (t : TypeId) (fr : Nat × Nat)
    (hc : w.heap[b]? = some (.cells #[x0, x1, x2, x3] t fr)) (y z : Value) (hy : tmps.getD u undef = y) (hz : tmps.getD v undef = z) : (results fn tmps).run Tryd.prog w = .ok (.tuple #[.agg #[x0, x1, x2, x3], y, z]) w := by
  rw [results_cell_two h, ht, hy, hz]
  simp only [asAddr, Sem.run_pure, Result.andThen_ok, load32 w b x0 x1 x2 x3 t fr hc]
theorem results32a {fn : Func} {p : Tmp} (h : fn.results = #[.cell p 32]) (tmps : Array Value) (w : World) (b : Nat) (ht : tmps.getD p undef = .pointer (some ⟨b, 0, none⟩)) (x0 x1 x2 x3 : Value) (t : TypeId) (fr : Nat × Nat)
    (hc : w.heap[b]? = some (.cells #[x0, x1, x2, x3] t fr)) : (results fn tmps).run Tryd.prog w = .ok (.agg #[x0, x1, x2, x3]) w := by
  rw [results_cell h, ht]
  simp only [asAddr, Sem.run_pure, Result.andThen_ok, load32 w b x0 x1 x2 x3 t fr hc]

/-- A block of four cells: lists, free ones, used ones, how many. -/
def Four (w : World) (b : Nat) (x y z : Value) (n : Int) : Prop := w.heap[b]? = some (.cells #[x, y, z, .int .i64 n] 32 (0, 0))
theorem Four.cells {w : World} {b : Nat} {x y z : Value} {n : Int} (h : Four w b x y z n) : b < w.heap.size ∧ w.cell? ⟨b, 0, none⟩ = some x ∧ w.cell? ⟨b, 1, none⟩ = some y ∧ w.cell? ⟨b, 2, none⟩ = some z ∧ w.cell? ⟨b, 3, none⟩ = some (.int .i64 n) ∧ ∀ o, w.frozen? ⟨b, o, none⟩ = false := by
  unfold Four at h
  refine ⟨lt_of_block h, ?_, ?_, ?_, ?_, fun o => ?_⟩
  · simp [World.cell?, h]
  · simp [World.cell?, h]
  · simp [World.cell?, h]
  · simp [World.cell?, h]
  · simp [World.frozen?, h]
theorem Four.stays {w w' : World} {b : Nat} {x y z : Value} {n : Int} (h : Four w b x y z n) (hb : Below w.heap.size w w') : Four w' b x y z n := heap_stays h hb
theorem Four.grown {w w' : World} {b : Nat} {row : Option Nat} {x y z : Value} {n : Int} (h : Four w b x y z n) (hg : w.grownBy w' row) (hr : some b ≠ row) : Four w' b x y z n := by
  unfold Four at h ⊢
  rw [hg.block b (lt_of_block h) hr]
  exact h
theorem Four.set0 {w : World} {b : Nat} {x y z : Value} {n : Int} (h : Four w b x y z n) (v : Value) : Four (w.setCell ⟨b, 0, none⟩ v) b v y z n := by
  unfold Four at h ⊢
  simp [World.setCell, Array.getElem?_modify, h]
theorem Four.set1 {w : World} {b : Nat} {x y z : Value} {n : Int} (h : Four w b x y z n) (v : Value) : Four (w.setCell ⟨b, 1, none⟩ v) b x v z n := by
  unfold Four at h ⊢
  simp [World.setCell, Array.getElem?_modify, h]
theorem Four.set2 {w : World} {b : Nat} {x y z : Value} {n : Int} (h : Four w b x y z n) (v : Value) : Four (w.setCell ⟨b, 2, none⟩ v) b x y v n := by
  unfold Four at h ⊢
  simp [World.setCell, Array.getElem?_modify, h]
theorem four_new (w : World) (x y z : Value) (n : Int) : Four (w.alloc (.cells #[x, y, z, .int .i64 n] 32)) w.heap.size x y z n := heap_alloc_new w _
end Go.Proofs.YtibplphpbbajhaaDoor
