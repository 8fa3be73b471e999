/-
  Loads and stores of pages and changes, whole; two pages held against each other.
-/
import Derived.Test.YtfogocappakbdaaDoorMem
import Derived.Deep.WholeRow
import Derived.Laws.StructEq
namespace Go.Proofs.YtfogocappakbdaaDoor
open Go.RowKit

section
variable {ops : Array Oper} {rest : List Oper} {op : Oper} {a : Act} {w : World} {Q : Exit → Act → World → Prop}

theorem ld79 (hgd : op.guard = none) (x : Operand) (ho : op.op = .load 79 x) (b o : Nat) (hx : a.eval x = .pointer (some ⟨b, o, none⟩)) (p : List Nat) (hp : p.length = 256) (hc : w.rangeAt b o (U p))
    (h : wpList Tryd.prog ops Q rest (a.put op.dst (.agg (pgV p))) w) : wpList Tryd.prog ops Q (op :: rest) a w :=
  wpList_load_mid hgd 79 x ho b o hx (U p) _ hc Tryd.underlying79 rfl (by rw [U_length, hp]; exact Tryd.size79) h

theorem ld81 (hgd : op.guard = none) (x : Operand) (ho : op.op = .load 81 x) (b o : Nat) (hx : a.eval x = .pointer (some ⟨b, o, none⟩)) (c : Chg) (hp : c.p.length = 256) (hc : w.rangeAt b o (chgL c))
    (h : wpList Tryd.prog ops Q rest (a.put op.dst (.agg (chgV c))) w) : wpList Tryd.prog ops Q (op :: rest) a w :=
  wpList_load_mid hgd 81 x ho b o hx (chgL c) _ hc Tryd.underlying81 rfl (by rw [chgL_length, hp]; exact Tryd.size81) h

set_option maxRecDepth 10000 in
theorem st_new (w0 : World) (t : TypeId) (n : Nat) (hsz : (Tryd.prog.info? t).map (·.size) = some n) (hgd : op.guard = none) (x y : Operand) (ho : op.op = .store t x y) (b : Nat) (hx : a.eval x = .pointer (some ⟨b, 0, none⟩)) (hb : b = w0.heap.size)
    (c c' : Array Value) (hw : w = w0.alloc (.cells c t)) (hy : a.eval y = .agg c') (hn : c.size = n) (hn' : c'.size = n) (h1 : ∀ u ∈ c'.toList, u.oneCell' = true)
    (h : wpList Tryd.prog ops Q rest (a.put op.dst undef) (w0.alloc (.cells c' t))) : wpList Tryd.prog ops Q (op :: rest) a w := by
  subst hw hb
  refine wpList_plain hgd fun K hK => ?_
  unfold Oper.wp execOp
  have h2 : c'.all (·.oneCell') = true := Array.all_eq_true_iff_forall_mem.2 (fun v hv => h1 v (by simpa using hv))
  simp only [ho, hx, hy, Sem.run_bind, run_storeAt_new w0 t c c' (by rw [hsz, hn']) (by rw [hn, hn']) h2, Result.andThen_ok, Sem.run_pure]
  exact hK _ _ h

theorem st79 (w0 : World) (hgd : op.guard = none) (x y : Operand) (ho : op.op = .store 79 x y) (b : Nat) (hx : a.eval x = .pointer (some ⟨b, 0, none⟩)) (hb : b = w0.heap.size)
    (p q : List Nat) (hw : w = w0.alloc (.cells (pgV q) 79)) (hy : a.eval y = .agg (pgV p)) (hq : q.length = 256) (hp : p.length = 256)
    (h : wpList Tryd.prog ops Q rest (a.put op.dst undef) (w0.alloc (.cells (pgV p) 79))) : wpList Tryd.prog ops Q (op :: rest) a w :=
  st_new w0 79 256 Tryd.size79 hgd x y ho b hx hb _ _ hw hy (by rw [pgV_size, hq]) (by rw [pgV_size, hp]) (by rw [pgV_toList]; exact U_one p) h

theorem st81 (w0 : World) (hgd : op.guard = none) (x y : Operand) (ho : op.op = .store 81 x y) (b : Nat) (hx : a.eval x = .pointer (some ⟨b, 0, none⟩)) (hb : b = w0.heap.size)
    (c q : Chg) (hw : w = w0.alloc (.cells (chgV q) 81)) (hy : a.eval y = .agg (chgV c)) (hq : q.p.length = 256) (hp : c.p.length = 256)
    (h : wpList Tryd.prog ops Q rest (a.put op.dst undef) (w0.alloc (.cells (chgV c) 81))) : wpList Tryd.prog ops Q (op :: rest) a w :=
  st_new w0 81 258 Tryd.size81 hgd x y ho b hx hb _ _ hw hy (by rw [chgV_size, hq]) (by rw [chgV_size, hp]) (by simpa [chgV] using chgL_one c) h

set_option maxRecDepth 10000 in
/-- A page of noughts, built. -/
theorem bd79 (hgd : op.guard = none) (ho : op.op = .build 79 #[]) (h : wpList Tryd.prog ops Q rest (a.put op.dst (.agg (pgV zeros))) w) : wpList Tryd.prog ops Q (op :: rest) a w := by
  refine wpList_plain hgd fun K hK => ?_
  have hr : (Instr.build 79 #[]).run Tryd.prog w = .ok (.agg (pgV zeros)) w := by
    simp only [Instr.build, Sem.run_bind, Tryd.zero79 w, Result.andThen_ok, run_underlying Tryd.underlying79 w]
    simp [Instr.fill, Value.cells, sizeOf, typeInfo, Result.andThen]
    obtain ⟨i, h1, h2, h3, h4⟩ := info_of Tryd.info5m
    simp [h1]
  unfold Oper.wp execOp
  simp only [ho, List.map_toArray, List.map_nil, Sem.run_bind, hr, Result.andThen_ok, Sem.run_pure]
  exact hK _ _ h
end

theorem range_alloc (w : World) (cs : Array Value) (t : TypeId) : (w.alloc (.cells cs t)).rangeAt w.heap.size 0 cs.toList := by
  intro j v hv
  simp at hv ⊢
  exact hv

/-- A result that is a page. -/
theorem res79 (w : World) (b : Nat) (p : List Nat) (hp : p.length = 256) (hc : w.rangeAt b 0 (U p)) : (loadVar 79 ⟨b, 0, none⟩).run Tryd.prog w = .ok (.agg (pgV p)) w :=
  run_loadVar_mid w b 0 79 (U p) _ hc Tryd.underlying79 rfl (by rw [U_length, hp]; exact Tryd.size79)

theorem all_range (xs ys : List Nat) (h : xs.length = ys.length) : ((List.range xs.length).all fun i => xs.getD i 0 == ys.getD i 0) = decide (xs = ys) := by
  rw [Bool.eq_iff_iff]
  simp only [List.all_eq_true, List.mem_range, beq_iff_eq, decide_eq_true_eq]
  constructor
  · intro h1
    apply List.ext_getElem h
    intro i h2 h3
    have := h1 i h2
    simpa [List.getD, List.getElem?_eq_getElem h2, List.getElem?_eq_getElem h3] using this
  · rintro rfl i _
    rfl

set_option maxRecDepth 10000 in
theorem eq79 (w : World) (xs ys : List Nat) (hx : xs.length = 256) (hy : ys.length = 256) :
    (Op.equalIn 10000 79 (.agg (pgV xs)) (.agg (pgV ys))).run Tryd.prog w = .ok (decide (xs = ys)) w := by
  obtain ⟨ii, hi1, _, hi2, _⟩ := info_of Tryd.info5m
  have hsz : ∀ w, (sizeOf 5).run Tryd.prog w = .ok 1 w := fun w => by simp [sizeOf, typeInfo, hi1, hi2]
  rw [← all_range xs ys (hx.trans hy.symm), hx, List.range_eq_range', show (10000 : Nat) = 9999 + 1 from rfl, Op.equalIn]
  simp only [Sem.run_bind, run_underlying Tryd.underlying79, Result.andThen_ok, hsz, Std.Legacy.Range.forIn_eq_forIn_range', Std.Legacy.Range.size, Nat.sub_zero, Nat.add_sub_cancel, Nat.div_one]
  have hl : ∀ i ∈ List.range' 0 256 1, i < 256 := fun i hi => by simpa using (List.mem_range'_1.1 hi).2
  generalize List.range' 0 256 1 = l at hl ⊢
  induction l with
  | nil => simp
  | cons i l ih =>
    have hi : i < 256 := hl i (by simp)
    have px : ∀ zs : List Nat, zs.length = 256 → (part 5 (pgV zs) (i * 1)).run Tryd.prog w = .ok (.int .u8 (zs.getD i 0 : Nat)) w := fun zs hz => by
      simp [part, isAgg, run_underlying Tryd.underlying5, List.getD, pgV, U, List.getElem?_eq_getElem (show i < zs.length by omega)]
    have pe : (Op.equalIn 9999 5 (.int .u8 (xs.getD i 0 : Nat)) (.int .u8 (ys.getD i 0 : Nat))).run Tryd.prog w = .ok (xs.getD i 0 == ys.getD i 0) w := by
      rw [show (9999 : Nat) = 9998 + 1 from rfl, run_equalIn_int w 9998 5 .u8 .u8 _ _ Tryd.underlying5]
      congr 1
      rw [Bool.eq_iff_iff]
      simp
      omega
    simp only [List.forIn_cons, Sem.run_bind, px xs hx, px ys hy, pe, Result.andThen_ok, List.all_cons]
    cases hb : (xs.getD i 0 == ys.getD i 0)
    · simp
    · simp only [Bool.not_true, Bool.false_eq_true, if_false, Sem.run_pure, Result.andThen_ok, Bool.true_and]
      exact ih fun j hj => hl j (by simp [hj])
end Go.Proofs.YtfogocappakbdaaDoor
