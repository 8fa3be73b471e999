/-
  A leaf stored whole, and as a result; what Get leaves.
-/
import Derived.Test.YtcdcdlofgeoonaaDoorPuts
import Derived.Laws.ResultCell
import Derived.Laws.Tables
import Derived.Laws.Rows
namespace Go.Proofs.YtcdcdlofgeoonaaDoor
open Go.RowKit

theorem Tryd.size24 : (Tryd.prog.info? 24).map (·.size) = some 3 := by kernel_rfl
theorem Tryd.und24 : ∃ fs, Tryd.prog.underlying 24 = some (.struct fs) := ⟨Tryd.prog.fieldsOf 24, by kernel_rfl⟩
theorem grown_setRow (w : World) (g : Nat) (cs : Array Value) : w.grownBy (w.setRow g cs) (some g) :=
  ⟨rfl, rfl, rfl, by simp [World.setRow], fun k _ hk => setRow_other w g k cs (by intro e; exact hk (by rw [e]))⟩
theorem run_st24 {w : World} {b : Nat} {c : Array Value} {x0 x1 x2 : Value} (hw : w.heap[b]? = some (.cells c 24 (0, 0))) (hc : c.size = 3) (h1 : x0.oneCell' = true ∧ x1.oneCell' = true ∧ x2.oneCell' = true) :
    (Instr.storeAt 24 (.pointer (some ⟨b, 0, none⟩)) (.agg #[x0, x1, x2])).run Tryd.prog w = .ok () (w.setRow b #[x0, x1, x2]) := by
  have h2 : (#[x0, x1, x2] : Array Value).all (·.oneCell') = true := by simp [h1]
  simp only [Instr.storeAt, Instr.sureAddr, Sem.run_bind, Sem.run_pure, Result.andThen]
  exact run_storeVar_row _ _ 24 24 c _ hw Tryd.size24 hc h2
section
variable {ops : Array Oper} {rest : List Oper} {op : Oper} {a : Act} {w : World}
theorem st24 {Q : Exit → Act → World → Prop} (hgd : op.guard = none) (x y : Operand) (ho : op.op = .store 24 x y) (b : Nat) (hx : a.eval x = .pointer (some ⟨b, 0, none⟩)) (c : Array Value) (x0 x1 x2 : Value)
    (hw : w.heap[b]? = some (.cells c 24 (0, 0))) (hc : c.size = 3) (hy : a.eval y = .agg #[x0, x1, x2]) (h1 : x0.oneCell' = true ∧ x1.oneCell' = true ∧ x2.oneCell' = true)
    (h : ∀ w', w'.heap[b]? = some (.cells #[x0, x1, x2] 24 (0, 0)) → w.grownBy w' (some b) → wpList Tryd.prog ops Q rest (a.put op.dst undef) w') : wpList Tryd.prog ops Q (op :: rest) a w := by
  refine wpList_plain hgd fun K hK => ?_
  unfold Oper.wp execOp
  simp only [ho, hx, hy, Sem.run_bind, run_st24 hw hc h1, Result.andThen_ok, Sem.run_pure]
  exact hK _ _ (h _ (setRow_heap w b c _ 24 (0, 0) hw) (grown_setRow w b _))
theorem step_st24 {K : Act → World → Prop} {Q : Exit → Act → World → Prop} {E : Prop} (hgd : op.guard = none) (x y : Operand) (ho : op.op = .store 24 x y) (b : Nat) (hx : a.eval x = .pointer (some ⟨b, 0, none⟩)) (c : Array Value) (x0 x1 x2 : Value)
    (hw : w.heap[b]? = some (.cells c 24 (0, 0))) (hc : c.size = 3) (hy : a.eval y = .agg #[x0, x1, x2]) (h1 : x0.oneCell' = true ∧ x1.oneCell' = true ∧ x2.oneCell' = true)
    (h : ∀ w', w'.heap[b]? = some (.cells #[x0, x1, x2] 24 (0, 0)) → w.grownBy w' (some b) → K (a.put op.dst undef) w') :
    if Region.wanted op (yielded ops a.tmps) = true then Oper.wp Tryd.prog op a w K Q else E := by
  have hwt : Region.wanted op (yielded ops a.tmps) = true := by simp [Region.wanted, hgd]
  rw [if_pos hwt]
  unfold Oper.wp execOp
  simp only [ho, hx, hy, Sem.run_bind, run_st24 hw hc h1, Result.andThen_ok, Sem.run_pure]
  exact h _ (setRow_heap w b c _ 24 (0, 0) hw) (grown_setRow w b _)
end
theorem load24 (w : World) (b : Nat) (x0 x1 x2 : Value) (t : TypeId) (fr : Nat × Nat) (hc : w.heap[b]? = some (.cells #[x0, x1, x2] t fr)) : (loadVar 24 ⟨b, 0, none⟩).run Tryd.prog w = .ok (.agg #[x0, x1, x2]) w := by
  obtain ⟨fs, hu⟩ := Tryd.und24
  exact run_loadVar_row (P := Tryd.prog) w b t 24 _ fr _ hc hu rfl Tryd.size24
theorem results24 {fn : Func} {p u : Tmp} (h : fn.results = #[.cell p 24, .tmp u]) (tmps : Array Value) (w : World) (b : Nat) (ht : tmps.getD p undef = .pointer (some ⟨b, 0, none⟩)) (x0 x1 x2 : Value) (t : TypeId) (fr : Nat × Nat)
    (hc : w.heap[b]? = some (.cells #[x0, x1, x2] t fr)) (y : Value) (hy : tmps.getD u undef = y) : (results fn tmps).run Tryd.prog w = .ok (.tuple #[.agg #[x0, x1, x2], y]) w := by
  rw [results_cell_tmp h, ht, hy]
  simp only [asAddr, Sem.run_pure, Result.andThen_ok, load24 w b x0 x1 x2 t fr hc]

theorem Lk.box {w w' : World} {v : Value} {ls : List Lnk} {b : Nat} {c : Array Value} (h : Lk w v ls) (hb : w.heap[b]? = some (.cells c 24 (0, 0))) (hg : w.grownBy w' (some b)) : Lk w' v ls := by
  induction ls generalizing v with
  | nil => exact h
  | cons l r ih =>
    obtain ⟨op, a, cc⟩ := l
    obtain ⟨b1, u, h1, h2, h3⟩ := h
    refine ⟨b1, u, h1, ?_, ih h3⟩
    refine heap_grownBy h2 hg ?_
    intro e
    cases e
    rw [hb] at h2
    cases h2
theorem fault_box {w w' : World} {v : Value} {code : Int} {b : Nat} {c : Array Value} (h : Fault w v code) (hb : w.heap[b]? = some (.cells c 24 (0, 0))) (hg : w.grownBy w' (some b)) : Fault w' v code := by
  rcases h with h | ⟨h1, dn, op, a, p, h2, h3, h4⟩
  · exact .inl h
  · exact .inr ⟨h1, dn, op, a, p, h2.box hb hg, h3, h4⟩

/-- What Get leaves, and answers: a leaf, and an error of this code. -/
def GetAt (w w' : World) (v : Value) (r : Int × Nat × Nat × List Nat) : Prop :=
  ∃ b' p' cap' u, w.heap.size ≤ b' ∧ v = .tuple #[.agg #[.int .i64 (r.2.1 : Int), .int .i64 (r.2.2.1 : Int), .slice p' r.2.2.2.length cap'], u] ∧ SlAt w' b' (.slice p' r.2.2.2.length cap') (U r.2.2.2) ∧ Fault w' u r.1 ∧ Below w.heap.size w w'
theorem GetAt.err {w w1 w' : World} {u : Value} {code : Int} {c : Array Value} (hf : Fault w1 u code) (hb : Below w.heap.size w w1) (hx : w1.heap[w.heap.size]? = some (.cells c 24 (0, 0))) (hg : w1.grownBy w' (some w.heap.size)) :
    GetAt w w' (.tuple #[.agg #[.int .i64 0, .int .i64 0, .slice none 0 0], u]) (code, 0, 0, []) :=
  ⟨w.heap.size, none, 0, u, Nat.le_refl _, rfl, SlAt.nil _ _, fault_box hf hx hg, hb.grown hg hb.size (fun k hk => by cases hk; exact Nat.le_refl _)⟩
/-- The same of the document's Get. -/
def RGetAt (w w' : World) (v : Value) (r : Int × Nat × Nat × List Nat) : Prop :=
  ∃ b' p' cap', v = .tuple #[.agg #[.int .i64 (r.2.1 : Int), .int .i64 (r.2.2.1 : Int), .slice p' r.2.2.2.length cap'], .int .i64 r.1] ∧ SlAt w' b' (.slice p' r.2.2.2.length cap') (U r.2.2.2) ∧ Below w.heap.size w w'
theorem RGetAt.err {w w1 w' : World} {code : Int} (hb : Below w.heap.size w w1) (hg : w1.grownBy w' (some w.heap.size)) :
    RGetAt w w' (.tuple #[.agg #[.int .i64 0, .int .i64 0, .slice none 0 0], .int .i64 code]) (code, 0, 0, []) :=
  ⟨0, none, 0, rfl, SlAt.nil _ _, hb.grown hg hb.size (fun k hk => by cases hk; exact Nat.le_refl _)⟩
theorem or_i64 (n d : Int) (h0 : 0 ≤ n) (h1 : n ≤ 1000) (h2 : 0 ≤ d) (h3 : d < 256) : bits .or .i64 (n * 256) d = n * 256 + d :=
  bits_join .i64 63 (by decide) (fun x a b => by rw [IntKind.wrap_i64]; simp at b; omega) 8 (n * 256) d (by omega) (by simp) (by simp; omega) h2 (by simpa using h3) (by simp; omega)
theorem at_page {l : List Nat} (h : l.length = 256) (hb : Byt l) (i : Nat) (hi : i < 256) : ∃ x, l[i]? = some x ∧ l.getD i 0 = x ∧ x < 256 := by
  refine ⟨l[i]'(by omega), List.getElem?_eq_getElem _, ?_, hb _ (List.getElem_mem _)⟩
  rw [List.getD_eq_getElem?_getD, List.getElem?_eq_getElem (by omega)]; rfl
end Go.Proofs.YtcdcdlofgeoonaaDoor
