/-
  Of of the program: the filter of keys.
-/
import Derived.Test.YtgmghekgelmmcaaDoorQBAdd
import Derived.Laws.ResultCell
import Derived.Laws.Tables
namespace Go.Proofs.YtgmghekgelmmcaaDoor.Blo
open Go.RowKit

theorem Tryd.size33 : (Tryd.prog.info? 52).map (·.size) = some 2 := by kernel_rfl
theorem grown_setRow (w : World) (g : Nat) (cs : Array Value) : w.grownBy (w.setRow g cs) (some g) :=
  ⟨rfl, rfl, rfl, by simp [World.setRow], fun k _ hk => setRow_other w g k cs (by intro e; exact hk (by rw [e]))⟩
theorem run_st33 {w : World} {b : Nat} {c : Array Value} {x0 x1 : Value} (hw : w.heap[b]? = some (.cells c 52 (0, 0))) (hc : c.size = 2) (h1 : x0.oneCell' = true ∧ x1.oneCell' = true) :
    (Instr.storeAt 52 (.pointer (some ⟨b, 0, none⟩)) (.agg #[x0, x1])).run Tryd.prog w = .ok () (w.setRow b #[x0, x1]) := by
  have h2 : (#[x0, x1] : Array Value).all (·.oneCell') = true := by simp [h1]
  simp only [Instr.storeAt, Instr.sureAddr, Sem.run_bind, Sem.run_pure, Result.andThen]
  exact run_storeVar_row _ _ 52 52 c _ hw Tryd.size33 hc h2
section
variable {ops : Array Oper} {rest : List Oper} {op : Oper} {a : Act} {w : World}
/-- A filter stored whole. -/
theorem st33 {Q : Exit → Act → World → Prop} (hgd : op.guard = none) (x y : Operand) (ho : op.op = .store 52 x y) (b : Nat) (hx : a.eval x = .pointer (some ⟨b, 0, none⟩)) (c : Array Value) (x0 x1 : Value)
    (hw : w.heap[b]? = some (.cells c 52 (0, 0))) (hc : c.size = 2) (hy : a.eval y = .agg #[x0, x1]) (h1 : x0.oneCell' = true ∧ x1.oneCell' = true)
    (h : ∀ w', w'.heap[b]? = some (.cells #[x0, x1] 52 (0, 0)) → w.grownBy w' (some b) → wpList Tryd.prog ops Q rest (a.put op.dst undef) w') : wpList Tryd.prog ops Q (op :: rest) a w := by
  refine wpList_plain hgd fun K hK => ?_
  unfold Oper.wp execOp
  simp only [ho, hx, hy, Sem.run_bind, run_st33 hw hc h1, Result.andThen_ok, Sem.run_pure]
  exact hK _ _ (h _ (setRow_heap w b c _ 52 (0, 0) hw) (grown_setRow w b _))
theorem step_st33 {K : Act → World → Prop} {Q : Exit → Act → World → Prop} {E : Prop} (hgd : op.guard = none) (x y : Operand) (ho : op.op = .store 52 x y) (b : Nat) (hx : a.eval x = .pointer (some ⟨b, 0, none⟩)) (c : Array Value) (x0 x1 : Value)
    (hw : w.heap[b]? = some (.cells c 52 (0, 0))) (hc : c.size = 2) (hy : a.eval y = .agg #[x0, x1]) (h1 : x0.oneCell' = true ∧ x1.oneCell' = true)
    (h : ∀ w', w'.heap[b]? = some (.cells #[x0, x1] 52 (0, 0)) → w.grownBy w' (some b) → K (a.put op.dst undef) w') :
    if Region.wanted op (yielded ops a.tmps) = true then Oper.wp Tryd.prog op a w K Q else E := by
  have hwt : Region.wanted op (yielded ops a.tmps) = true := by simp [Region.wanted, hgd]
  rw [if_pos hwt]
  unfold Oper.wp execOp
  simp only [ho, hx, hy, Sem.run_bind, run_st33 hw hc h1, Result.andThen_ok, Sem.run_pure]
  exact h _ (setRow_heap w b c _ 52 (0, 0) hw) (grown_setRow w b _)
end
/-- The hashes of keys. -/
def hs (l : List ByteArray) : List Nat := l.map fun s => hash (bl s)
theorem hs_snoc (l : List ByteArray) (x : ByteArray) : hs (l ++ [x]) = hs l ++ [hash (bl x)] := by simp [hs]
theorem hs_append (l m : List ByteArray) : hs (l ++ m) = hs l ++ hs m := by simp [hs]
theorem ofF_snoc (l : List Nat) (h : Nat) : ofF (l ++ [h]) = addF (ofF l) h := by unfold ofF; rw [List.foldl_append, List.foldl_cons, List.foldl_nil]
theorem addF_split (f : Nat × Nat) (h : Nat) : ∃ x y, addF f h = (x, y) := ⟨_, _, rfl⟩
theorem wide_add {f : Nat × Nat} (hf : Wide f) (h : Nat) : Wide (addF f h) := wide_putAll (fun _ hp => places_lt hp) hf
theorem load33 (w : World) (b : Nat) (x0 x1 : Value) (t : TypeId) (fr : Nat × Nat) (hc : w.heap[b]? = some (.cells #[x0, x1] t fr)) : w.cell? ⟨b, 0, none⟩ = some x0 ∧ w.cell? ⟨b, 1, none⟩ = some x1 := by
  constructor <;> simp [World.cell?, hc]

end Go.Proofs.YtgmghekgelmmcaaDoor.Blo
