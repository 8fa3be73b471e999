/-
  The map of pages: look up, put, delete.
-/
import Derived.Test.YtfogocappakbdaaDoorBlk
namespace Go.Proofs.YtfogocappakbdaaDoor
open Go.RowKit

theorem law3 : Maps.Keyed Tryd.prog 3 := Maps.int_keyed Tryd.underlying3
theorem wf64 {k : Int} (h0 : -9223372036854775808 ≤ k) (h1 : k ≤ 9223372036854775807) : (Lit.int .i64 k).wf = true := WalkArith.wf_i64 (by omega)
theorem key3 {k : Int} (h0 : -9223372036854775808 ≤ k) (h1 : k ≤ 9223372036854775807) : keyOf Tryd.prog 3 (.int .i64 k) = some (.int .i64 k) := Maps.keyOf_int_mk Tryd.underlying3 (wf64 h0 h1)

theorem MapAt.made (w : World) : MapAt (w.alloc (.map #[] 0)) w.heap.size 0 (fun _ => zeros) :=
  ⟨.map [], World.ownsMap_made _ _ _ _, fun k => ⟨by simp [DataW.atKey], by simp [Maps.has_eq]⟩⟩
theorem MapAt.mono {w : World} {m n n' : Nat} {pg : Pg} (h : MapAt w m n pg) (hn : n ≤ n') : MapAt w m n' pg := by
  obtain ⟨D, h1, h2⟩ := h
  exact ⟨D, h1.mono hn, h2⟩

theorem MapAt.look {w : World} {m n : Nat} {pg : Pg} (h : MapAt w m n pg) {k : Int} (h0 : -9223372036854775808 ≤ k) (h1 : k ≤ 9223372036854775807) :
    (Instr.lookup 62 (.map (some m)) (.int .i64 k) false).run Tryd.prog w = .ok (.agg (pgV (pg k))) w := by
  obtain ⟨D, h2, h3⟩ := h
  obtain ⟨v, ps, hr, hv⟩ := h2.lookup law3 Tryd.underlying62 (Tryd.zero79 w) (zd := .held (.agg (pgV zeros))) (zp := []) rfl (key3 h0 h1)
  rw [(h3 k).1] at hv
  simp only [Rv, Option.some.injEq, Prod.mk.injEq, DataW.held.injEq] at hv
  rw [hr, hv.1]
theorem MapAt.lookok {w : World} {m n : Nat} {pg : Pg} (h : MapAt w m n pg) {k : Int} (h0 : -9223372036854775808 ≤ k) (h1 : k ≤ 9223372036854775807) :
    (Instr.lookup 62 (.map (some m)) (.int .i64 k) true).run Tryd.prog w = .ok (.tuple #[.agg (pgV (pg k)), .bool (!(decide (pg k = zeros)))]) w := by
  obtain ⟨D, h2, h3⟩ := h
  obtain ⟨v, ps, hr, hv⟩ := h2.look_ok law3 Tryd.underlying62 (Tryd.zero79 w) (zd := .held (.agg (pgV zeros))) (zp := []) rfl (key3 h0 h1)
  rw [(h3 k).1] at hv
  simp only [Rv, Option.some.injEq, Prod.mk.injEq, DataW.held.injEq] at hv
  rw [hr, hv.1, (h3 k).2]
theorem lit_ne {j k : Int} (h : j ≠ k) : (Lit.int .i64 j) ≠ (Lit.int .i64 k) := by intro e; cases e; exact h rfl
theorem MapAt.store {w : World} {m n : Nat} {pg : Pg} (h : MapAt w m n pg) {k : Int} (h0 : -9223372036854775808 ≤ k) (h1 : k ≤ 9223372036854775807) (hn : n ≤ 1000) (p : List Nat) (hp : p ≠ zeros) :
    ∃ w', (Instr.mapUpdate 62 (.map (some m)) (.int .i64 k) (.agg (pgV p))).run Tryd.prog w = .ok () w' ∧ MapAt w' m (n + 1) (upd pg k p) ∧ w.grownBy w' (some m) := by
  obtain ⟨D, h2, h3⟩ := h
  obtain ⟨w', hr, ho, ht⟩ := h2.store law3 Tryd.underlying62 (by unfold maxLen; omega) (d := .held (.agg (pgV p))) (ps := []) (key3 h0 h1) rfl
  refine ⟨w', hr, ⟨_, ho, fun j => ?_⟩, ht.grown⟩
  by_cases hj : j = k
  · subst hj
    rw [upd_same]
    exact ⟨Maps.atKey_put_same h2.isMap (by trivial) _ _, by rw [Maps.has_put_same h2.isMap (by trivial)]; simp [hp]⟩
  · rw [upd_other _ _ _ hj, Maps.atKey_put_other (lit_ne hj), Maps.has_put_other (lit_ne hj)]
    exact h3 j
theorem MapAt.drop {w : World} {m n : Nat} {pg : Pg} (h : MapAt w m n pg) {k : Int} (h0 : -9223372036854775808 ≤ k) (h1 : k ≤ 9223372036854775807) (ty : TypeId) :
    ∃ w', (Builtin.delete_ #[62, 3] ty #[.map (some m), .int .i64 k]).run Tryd.prog w = .ok (.tuple #[]) w' ∧ MapAt w' m n (upd pg k zeros) ∧ w.grownBy w' (some m) := by
  obtain ⟨D, h2, h3⟩ := h
  obtain ⟨w', hr, ho, ht⟩ := h2.drop law3 Tryd.underlying62 (key3 h0 h1) ty
  refine ⟨w', hr, ⟨_, ho, fun j => ?_⟩, ht.grown⟩
  by_cases hj : j = k
  · subst hj
    rw [upd_same]
    exact ⟨Maps.atKey_del_same _, by rw [Maps.has_del_same]; simp⟩
  · rw [upd_other _ _ _ hj, Maps.atKey_del_other (lit_ne hj), Maps.has_del_other (lit_ne hj)]
    exact h3 j

section
variable {ops : Array Oper} {rest : List Oper} {op : Oper} {a : Act} {w : World} {Q : Exit → Act → World → Prop}
theorem wl_look (hg : op.guard = none) (x y : Operand) (ho : op.op = Op.lookup 62 x y false) (m n : Nat) (pg : Pg) (hm : MapAt w m n pg) (k : Int) (h0 : -9223372036854775808 ≤ k) (h1 : k ≤ 9223372036854775807)
    (hx : a.eval x = .map (some m)) (hy : a.eval y = .int .i64 k) (h : wpList Tryd.prog ops Q rest (a.put op.dst (.agg (pgV (pg k)))) w) : wpList Tryd.prog ops Q (op :: rest) a w := by
  refine wpList_plain hg fun K hK => ?_
  unfold Oper.wp
  simp [execOp, ho, hx, hy, hm.look h0 h1, Result.andThen]
  exact hK _ _ h
theorem wl_lookok (hg : op.guard = none) (x y : Operand) (ho : op.op = Op.lookup 62 x y true) (m n : Nat) (pg : Pg) (hm : MapAt w m n pg) (k : Int) (h0 : -9223372036854775808 ≤ k) (h1 : k ≤ 9223372036854775807)
    (hx : a.eval x = .map (some m)) (hy : a.eval y = .int .i64 k) (h : wpList Tryd.prog ops Q rest (a.put op.dst (.tuple #[.agg (pgV (pg k)), .bool (!(decide (pg k = zeros)))])) w) : wpList Tryd.prog ops Q (op :: rest) a w := by
  refine wpList_plain hg fun K hK => ?_
  unfold Oper.wp
  simp only [execOp, ho, hx, hy, Sem.run_bind, hm.lookok h0 h1, Result.andThen, Sem.run_pure]
  exact hK _ _ h
theorem wl_put (hg : op.guard = none) (x y z : Operand) (ho : op.op = Op.mapUpdate 62 x y z) (m n : Nat) (pg : Pg) (hm : MapAt w m n pg) (k : Int) (h0 : -9223372036854775808 ≤ k) (h1 : k ≤ 9223372036854775807) (hn : n ≤ 1000) (p : List Nat) (hp : p ≠ zeros)
    (hx : a.eval x = .map (some m)) (hy : a.eval y = .int .i64 k) (hz : a.eval z = .agg (pgV p)) (h : ∀ w', MapAt w' m (n + 1) (upd pg k p) → w.grownBy w' (some m) → wpList Tryd.prog ops Q rest (a.put op.dst undef) w') : wpList Tryd.prog ops Q (op :: rest) a w := by
  refine wpList_plain hg fun K hK => ?_
  obtain ⟨w', hr, h2, h3⟩ := hm.store h0 h1 hn p hp
  unfold Oper.wp
  simp [execOp, ho, hx, hy, hz, hr, Result.andThen]
  exact hK _ _ (h w' h2 h3)
theorem wl_del (hg : op.guard = none) (x y : Operand) (ho : op.op = Op.call { callee := Callee.builtin Builtin.delete, args := #[x, y], argTypes := #[62, 3] }) (m n : Nat) (pg : Pg) (hm : MapAt w m n pg) (k : Int) (h0 : -9223372036854775808 ≤ k) (h1 : k ≤ 9223372036854775807)
    (hx : a.eval x = .map (some m)) (hy : a.eval y = .int .i64 k) (h : ∀ w', MapAt w' m n (upd pg k zeros) → w.grownBy w' (some m) → wpList Tryd.prog ops Q rest (a.put op.dst (.tuple #[])) w') : wpList Tryd.prog ops Q (op :: rest) a w := by
  refine wpList_plain hg fun K hK => ?_
  obtain ⟨w', hr, h2, h3⟩ := hm.drop h0 h1 op.type
  unfold Oper.wp
  simp [execOp, ho, resolve, invoke, builtin, hx, hy, hr, Result.andThen]
  exact hK _ _ (h w' h2 h3)
end
end Go.Proofs.YtfogocappakbdaaDoor
