/-
  An entry stored whole, loaded whole, and as a result.
-/
import Derived.Test.YtgmghekgelmmcaaDoorQIEqs
import Derived.Laws.ResultCell
import Derived.Laws.Tables
import Derived.Laws.Rows
namespace Go.Proofs.YtgmghekgelmmcaaDoor.Ite
open Go.RowKit

theorem Tryd.size24 : (Tryd.prog.info? 39).map (·.size) = some 5 := by kernel_rfl
theorem Tryd.und24 : ∃ fs, Tryd.prog.underlying 39 = some (.struct fs) := ⟨Tryd.prog.fieldsOf 39, by kernel_rfl⟩
theorem grown_setRow (w : World) (g : Nat) (cs : Array Value) : w.grownBy (w.setRow g cs) (some g) :=
  ⟨rfl, rfl, rfl, by simp [World.setRow], fun k _ hk => setRow_other w g k cs (by intro e; exact hk (by rw [e]))⟩
/-- An entry's five cells. -/
def eA (k : ByteArray) (v a e : Int) (sv : Value) : Array Value := #[.string k, .int .i64 v, .int .i64 a, .int .i64 e, sv]
theorem run_st24 {w : World} {b : Nat} {c : Array Value} {x0 x1 x2 x3 x4 : Value} (hw : w.heap[b]? = some (.cells c 39 (0, 0))) (hc : c.size = 5) (h1 : x0.oneCell' = true ∧ x1.oneCell' = true ∧ x2.oneCell' = true ∧ x3.oneCell' = true ∧ x4.oneCell' = true) :
    (Instr.storeAt 39 (.pointer (some ⟨b, 0, none⟩)) (.agg #[x0, x1, x2, x3, x4])).run Tryd.prog w = .ok () (w.setRow b #[x0, x1, x2, x3, x4]) := by
  have h2 : (#[x0, x1, x2, x3, x4] : Array Value).all (·.oneCell') = true := by simp [h1]
  simp only [Instr.storeAt, Instr.sureAddr, Sem.run_bind, Sem.run_pure, Result.andThen]
  exact run_storeVar_row _ _ 39 39 c _ hw Tryd.size24 hc h2
section
variable {ops : Array Oper} {rest : List Oper} {op : Oper} {a : Act} {w : World}
theorem st24 {Q : Exit → Act → World → Prop} (hgd : op.guard = none) (x y : Operand) (ho : op.op = .store 39 x y) (b : Nat) (hx : a.eval x = .pointer (some ⟨b, 0, none⟩)) (c : Array Value) (x0 x1 x2 x3 x4 : Value)
    (hw : w.heap[b]? = some (.cells c 39 (0, 0))) (hc : c.size = 5) (hy : a.eval y = .agg #[x0, x1, x2, x3, x4]) (h1 : x0.oneCell' = true ∧ x1.oneCell' = true ∧ x2.oneCell' = true ∧ x3.oneCell' = true ∧ x4.oneCell' = true)
    (h : ∀ w', w'.heap[b]? = some (.cells #[x0, x1, x2, x3, x4] 39 (0, 0)) → w.grownBy w' (some b) → wpList Tryd.prog ops Q rest (a.put op.dst undef) w') : wpList Tryd.prog ops Q (op :: rest) a w := by
  refine wpList_plain hgd fun K hK => ?_
  unfold Oper.wp execOp
  simp only [ho, hx, hy, Sem.run_bind, run_st24 hw hc h1, Result.andThen_ok, Sem.run_pure]
  exact hK _ _ (h _ (setRow_heap w b c _ 39 (0, 0) hw) (grown_setRow w b _))
theorem step_st24 {K : Act → World → Prop} {Q : Exit → Act → World → Prop} {E : Prop} (hgd : op.guard = none) (x y : Operand) (ho : op.op = .store 39 x y) (b : Nat) (hx : a.eval x = .pointer (some ⟨b, 0, none⟩)) (c : Array Value) (x0 x1 x2 x3 x4 : Value)
    (hw : w.heap[b]? = some (.cells c 39 (0, 0))) (hc : c.size = 5) (hy : a.eval y = .agg #[x0, x1, x2, x3, x4]) (h1 : x0.oneCell' = true ∧ x1.oneCell' = true ∧ x2.oneCell' = true ∧ x3.oneCell' = true ∧ x4.oneCell' = true)
    (h : ∀ w', w'.heap[b]? = some (.cells #[x0, x1, x2, x3, x4] 39 (0, 0)) → w.grownBy w' (some b) → K (a.put op.dst undef) w') :
    if Region.wanted op (yielded ops a.tmps) = true then Oper.wp Tryd.prog op a w K Q else E := by
  have hwt : Region.wanted op (yielded ops a.tmps) = true := by simp [Region.wanted, hgd]
  rw [if_pos hwt]
  unfold Oper.wp execOp
  simp only [ho, hx, hy, Sem.run_bind, run_st24 hw hc h1, Result.andThen_ok, Sem.run_pure]
  exact h _ (setRow_heap w b c _ 39 (0, 0) hw) (grown_setRow w b _)
end
theorem load24 (w : World) (b : Nat) (x0 x1 x2 x3 x4 : Value) (t : TypeId) (fr : Nat × Nat) (hc : w.heap[b]? = some (.cells #[x0, x1, x2, x3, x4] t fr)) : (loadVar 39 ⟨b, 0, none⟩).run Tryd.prog w = .ok (.agg #[x0, x1, x2, x3, x4]) w := by
  obtain ⟨fs, hu⟩ := Tryd.und24
  exact run_loadVar_row (P := Tryd.prog) w b t 39 _ fr _ hc hu rfl Tryd.size24

/-- What is the same of two entries. -/
def sameB (k k' : ByteArray) (v a e v' a' e' : Int) (l l' : List Int) : Bool := decide (k = k' ∧ v = v' ∧ a = a' ∧ e = e' ∧ l = l')
theorem sameB_self (k : ByteArray) (v a e : Int) (l : List Int) : sameB k k v a e v a e l l = true := by simp [sameB]

end Go.Proofs.YtgmghekgelmmcaaDoor.Ite
