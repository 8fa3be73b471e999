/-
  Changes built, and laid into a row of their own.
-/
import Derived.Test.YtkbfihnoohhojaaDoorQFSmall
import Derived.Laws.CopyRow
namespace Go.Proofs.YtkbfihnoohhojaaDoor.Fla
open Go.RowKit

theorem foldl_set (vs : List Value) (off s : Nat) (cells : Array Value) (h : off + s + vs.length ≤ cells.size) :
    ((vs.zipIdx s).foldl (fun (cs : Array Value) (p : Value × Nat) => cs.setIfInBounds (off + p.2) p.1) cells).toList = cells.toList.take (off + s) ++ vs ++ cells.toList.drop (off + s + vs.length) := by
  induction vs generalizing s cells with
  | nil => simp
  | cons v r ih =>
    simp only [List.zipIdx_cons, List.foldl_cons]
    simp only [List.length_cons] at h
    rw [ih (s + 1) _ (by simp; omega), Array.toList_setIfInBounds]
    have := list_seg_step cells.toList (off + s) v r (by simpa using (by omega : off + s + (r.length + 1) ≤ cells.size))
    simpa [Nat.add_assoc] using this
theorem fill_put (v : Array Value) (off : Nat) (cells : Array Value) (h : off + v.size ≤ cells.size) :
    (v.zipIdx.foldl (fun (cs : Array Value) (p : Value × Nat) => cs.setIfInBounds (off + p.2) p.1) cells) = (cells.toList.take off ++ v.toList ++ cells.toList.drop (off + v.size)).toArray := by
  apply Array.ext'
  have := foldl_set v.toList off 0 cells (by simpa using h)
  rw [← Array.foldl_toList, Array.toList_zipIdx]
  simpa using this

theorem fill_cons {place : Nat → Option (Nat × Nat)} {cells : Array Value} {i off size : Nat} {v : Value} {rest : List (Nat × Value)} (hp : place i = some (off, size)) (hs : v.cells.size = size) (hl : off + size ≤ cells.size) :
    Instr.fill place cells ((i, v) :: rest) = Instr.fill place (cells.toList.take off ++ v.cells.toList ++ cells.toList.drop (off + size)).toArray rest := by
  subst hs
  rw [Instr.fill, hp]
  have hc : (decide (v.cells.size ≠ v.cells.size) || decide (off + v.cells.size > cells.size)) = false := by simp; omega
  simp only [hc, Bool.false_eq_true, if_false]
  rw [← fill_put v.cells off cells hl]

set_option maxRecDepth 10000 in
theorem bs63 (w : World) (c : Chg) (hc : c.p.length = 256) : (Instr.buildSlice 66 1 #[(0, .agg (chgV c))]).run Tryd.prog w = .ok (.slice (some ⟨w.heap.size, 0, none⟩) 1 1) (w.alloc (.cells (chgV c) 85)) := by
  obtain ⟨i, h1, h2, h3, h4⟩ := info_of Tryd.info81m
  have hz := Tryd.zero85
  have hsz : ∀ w, (sizeOf 85).run Tryd.prog w = .ok 258 w := fun w => by simp [sizeOf, typeInfo, h1, h3]
  have hf : ∀ Z : Array Value, Z.size = 258 → Instr.fill (fun i => some (i * 258, 258)) Z [(0, .agg (chgV c))] = some (chgV c) := by
    intro Z hZ
    rw [fill_cons (off := 0) (size := 258) rfl (by simp [Value.cells, chgV_size, hc]) (by omega), Instr.fill]
    have : Z.toList.drop 258 = [] := List.drop_eq_nil_of_le (by simp [hZ])
    simp [this, Value.cells]
  simp only [Instr.buildSlice, Sem.run_bind, run_underlying Tryd.underlying66, Result.andThen_ok, hsz]
  rw [if_neg (by decide), if_neg (by decide)]
  simp only [Sem.run_bind, hz, Result.andThen_ok, Sem.run_pure]
  rw [hf _ (by simp)]
  simp only [newRow, Sem.run_bind, Sem.run_pure]
  simp [go_sem, Result.andThen]

theorem Tryd.fields81 : (Tryd.prog.fieldsOf 85).map (fun f => (f.offset, f.type)) = #[(0, 3), (1, 4), (2, 83)] := by kernel_rfl
theorem Tryd.und81 : Tryd.prog.underlying 85 = some (.struct (Tryd.prog.fieldsOf 85)) := by kernel_rfl
theorem Tryd.info3m : (Tryd.prog.info? 3).map (fun i => (i.zero, i.size, i.bytes)) = some (some (.int .i64 0), 1, 8) := by kernel_rfl
theorem Tryd.info4m : (Tryd.prog.info? 4).map (fun i => (i.zero, i.size, i.bytes)) = some (some (.bool false), 1, 1) := by kernel_rfl
theorem size_run {t : TypeId} {z : Value} {s b : Nat} (h : (Tryd.prog.info? t).map (fun i => (i.zero, i.size, i.bytes)) = some (some z, s, b)) (w : World) : (sizeOf t).run Tryd.prog w = .ok s w := by
  obtain ⟨i, h1, h2, h3, h4⟩ := info_of h
  simp [sizeOf, typeInfo, h1, h3]
theorem places81 (w : World) : ((Tryd.prog.fieldsOf 85).mapM fun f => (do pure (f.offset, ← sizeOf f.type) : Sem (Nat × Nat))).run Tryd.prog w = .ok #[(0, 1), (1, 1), (2, 256)] w := by kernel_rfl
set_option maxRecDepth 10000 in
theorem bd81w (w : World) (k : Int) (p : List Nat) (hp : p.length = 256) : (Instr.build 85 #[(0, .int .i64 k), (2, .agg (pgV p))]).run Tryd.prog w = .ok (.agg (chgV ⟨k, false, p⟩)) w := by
  have hl : (chgV ⟨0, false, zeros⟩).size = 258 := by rw [chgV_size]; simp [zeros_length]
  have hf : Instr.fill (fun i => (#[(0, 1), (1, 1), (2, 256)] : Array (Nat × Nat))[i]?) (chgV ⟨0, false, zeros⟩) [(0, .int .i64 k), (2, .agg (pgV p))] = some (chgV ⟨k, false, p⟩) := by
    rw [fill_cons (off := 0) (size := 1) rfl rfl (by omega), fill_cons (off := 2) (size := 256) rfl (by simp [Value.cells, pgV_size, hp]) (by simp [Value.cells, hl]), Instr.fill]
    simp [chgV, chgL, Value.cells, pgV_toList]
    simp [U, zeros_length]
  simp only [Instr.build, Sem.run_bind, Tryd.zero85 w, Result.andThen_ok, run_underlying Tryd.und81 w, places81]
  rw [show (Value.agg (chgV ⟨0, false, zeros⟩)).cells = chgV ⟨0, false, zeros⟩ from rfl, hf]
  rfl
set_option maxRecDepth 10000 in
theorem bd81t (w : World) (k : Int) : (Instr.build 85 #[(0, .int .i64 k), (1, .bool true)]).run Tryd.prog w = .ok (.agg (chgV ⟨k, true, zeros⟩)) w := by
  have hl : (chgV ⟨0, false, zeros⟩).size = 258 := by rw [chgV_size]; simp [zeros_length]
  have hf : Instr.fill (fun i => (#[(0, 1), (1, 1), (2, 256)] : Array (Nat × Nat))[i]?) (chgV ⟨0, false, zeros⟩) [(0, .int .i64 k), (1, .bool true)] = some (chgV ⟨k, true, zeros⟩) := by
    rw [fill_cons (off := 0) (size := 1) rfl rfl (by omega), fill_cons (off := 1) (size := 1) rfl rfl (by simp [Value.cells, hl]), Instr.fill]
    simp [chgV, chgL, Value.cells]
  simp only [Instr.build, Sem.run_bind, Tryd.zero85 w, Result.andThen_ok, run_underlying Tryd.und81 w, places81]
  rw [show (Value.agg (chgV ⟨0, false, zeros⟩)).cells = chgV ⟨0, false, zeros⟩ from rfl, hf]
  rfl

section
variable {ops : Array Oper} {rest : List Oper} {op : Oper} {a : Act} {w : World} {Q : Exit → Act → World → Prop}
theorem wl_bd81w (hgd : op.guard = none) (x y : Operand) (ho : op.op = .build 85 #[(0, x), (2, y)]) (k : Int) (p : List Nat) (hp : p.length = 256) (hx : a.eval x = .int .i64 k) (hy : a.eval y = .agg (pgV p))
    (h : wpList Tryd.prog ops Q rest (a.put op.dst (.agg (chgV ⟨k, false, p⟩))) w) : wpList Tryd.prog ops Q (op :: rest) a w := by
  refine wpList_plain hgd fun K hK => ?_
  unfold Oper.wp execOp
  simp only [ho, List.map_toArray, List.map_cons, List.map_nil, hx, hy, Sem.run_bind, bd81w w k p hp, Result.andThen_ok, Sem.run_pure]
  exact hK _ _ h
theorem wl_bd81t (hgd : op.guard = none) (x : Operand) (ho : op.op = .build 85 #[(0, x), (1, .const (.bool true))]) (k : Int) (hx : a.eval x = .int .i64 k)
    (h : wpList Tryd.prog ops Q rest (a.put op.dst (.agg (chgV ⟨k, true, zeros⟩))) w) : wpList Tryd.prog ops Q (op :: rest) a w := by
  refine wpList_plain hgd fun K hK => ?_
  have hb : a.eval (.const (.bool true)) = .bool true := rfl
  unfold Oper.wp execOp
  simp only [ho, List.map_toArray, List.map_cons, List.map_nil, hx, hb, Sem.run_bind, bd81t w k, Result.andThen_ok, Sem.run_pure]
  exact hK _ _ h
end
/-- A change laid into a row of its own, as a step of a region that draws its order. -/
theorem step_bs63 {ops : Array Oper} {o : Oper} {a : Act} {w : World} {K : Act → World → Prop} {Q : Exit → Act → World → Prop} {E : Prop} (hgd : o.guard = none) (x : Operand) (ho : o.op = .buildSlice 66 1 #[(0, x)]) (c : Chg) (hc : c.p.length = 256) (hx : a.eval x = .agg (chgV c)) (b : Nat) (hb : w.heap.size = b)
    (h : K (a.put o.dst (.slice (some ⟨b, 0, none⟩) 1 1)) (w.alloc (.cells (chgV c) 85))) :
    if Region.wanted o (yielded ops a.tmps) = true then Oper.wp Tryd.prog o a w K Q else E := by
  have hw : Region.wanted o (yielded ops a.tmps) = true := by simp [Region.wanted, hgd]
  rw [if_pos hw]
  subst hb
  unfold Oper.wp execOp
  simp only [ho, List.map_toArray, List.map_cons, List.map_nil, hx, Sem.run_bind, bs63 w c hc, Result.andThen_ok, Sem.run_pure]
  exact h
end Go.Proofs.YtkbfihnoohhojaaDoor.Fla
