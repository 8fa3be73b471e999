/-
  A change put over the pages of a map.
-/
import Derived.Test.YtkbfihnoohhojaaDoorQFSmall
import Derived.Test.YtkbfihnoohhojaaDoorQFOver
namespace Go.Proofs.YtkbfihnoohhojaaDoor.Fla
open Go.RowKit

theorem law3 : Maps.Keyed Tryd.prog 3 := Maps.int_keyed Tryd.underlying3
theorem wf64 {k : Int} (h0 : -9223372036854775808 ≤ k) (h1 : k ≤ 9223372036854775807) : (Lit.int .i64 k).wf = true := WalkArith.wf_i64 (by omega)
theorem key3 {k : Int} (h0 : -9223372036854775808 ≤ k) (h1 : k ≤ 9223372036854775807) : keyOf Tryd.prog 3 (.int .i64 k) = some (.int .i64 k) := Maps.keyOf_int_mk Tryd.underlying3 (wf64 h0 h1)

theorem MapAt.made (w : World) : MapAt (w.alloc (.map #[] 0)) w.heap.size 0 (fun _ => zeros) :=
  ⟨.map [], World.ownsMap_made _ _ _ _, fun k => ⟨by simp [DataW.atKey], by simp [Maps.has_eq]⟩⟩
theorem MapAt.mono {w : World} {m n n' : Nat} {pg : Pg} (h : MapAt w m n pg) (hn : n ≤ n') : MapAt w m n' pg := by
  obtain ⟨D, h1, h2⟩ := h
  exact ⟨D, h1.mono hn, h2⟩

theorem MapAt.look {w : World} {m n : Nat} {pg : Pg} (h : MapAt w m n pg) {k : Int} (h0 : -9223372036854775808 ≤ k) (h1 : k ≤ 9223372036854775807) :
    (Instr.lookup 65 (.map (some m)) (.int .i64 k) false).run Tryd.prog w = .ok (.agg (pgV (pg k))) w := by
  obtain ⟨D, h2, h3⟩ := h
  obtain ⟨v, ps, hr, hv⟩ := h2.lookup law3 Tryd.underlying65 (Tryd.zero83 w) (zd := .held (.agg (pgV zeros))) (zp := []) rfl (key3 h0 h1)
  rw [(h3 k).1] at hv
  simp only [Rv, Option.some.injEq, Prod.mk.injEq, DataW.held.injEq] at hv
  rw [hr, hv.1]
theorem MapAt.lookok {w : World} {m n : Nat} {pg : Pg} (h : MapAt w m n pg) {k : Int} (h0 : -9223372036854775808 ≤ k) (h1 : k ≤ 9223372036854775807) :
    (Instr.lookup 65 (.map (some m)) (.int .i64 k) true).run Tryd.prog w = .ok (.tuple #[.agg (pgV (pg k)), .bool (!(decide (pg k = zeros)))]) w := by
  obtain ⟨D, h2, h3⟩ := h
  obtain ⟨v, ps, hr, hv⟩ := h2.look_ok law3 Tryd.underlying65 (Tryd.zero83 w) (zd := .held (.agg (pgV zeros))) (zp := []) rfl (key3 h0 h1)
  rw [(h3 k).1] at hv
  simp only [Rv, Option.some.injEq, Prod.mk.injEq, DataW.held.injEq] at hv
  rw [hr, hv.1, (h3 k).2]
theorem lit_ne {j k : Int} (h : j ≠ k) : (Lit.int .i64 j) ≠ (Lit.int .i64 k) := by intro e; cases e; exact h rfl
theorem MapAt.store {w : World} {m n : Nat} {pg : Pg} (h : MapAt w m n pg) {k : Int} (h0 : -9223372036854775808 ≤ k) (h1 : k ≤ 9223372036854775807) (hn : n ≤ 1000) (p : List Nat) (hp : p ≠ zeros) :
    ∃ w', (Instr.mapUpdate 65 (.map (some m)) (.int .i64 k) (.agg (pgV p))).run Tryd.prog w = .ok () w' ∧ MapAt w' m (n + 1) (upd pg k p) ∧ w.grownBy w' (some m) := by
  obtain ⟨D, h2, h3⟩ := h
  obtain ⟨w', hr, ho, ht⟩ := h2.store law3 Tryd.underlying65 (by unfold maxLen; omega) (d := .held (.agg (pgV p))) (ps := []) (key3 h0 h1) rfl
  refine ⟨w', hr, ⟨_, ho, fun j => ?_⟩, ht.grown⟩
  by_cases hj : j = k
  · subst hj
    rw [upd_same]
    exact ⟨Maps.atKey_put_same h2.isMap (by trivial) _ _, by rw [Maps.has_put_same h2.isMap (by trivial)]; simp [hp]⟩
  · rw [upd_other _ _ _ hj, Maps.atKey_put_other (lit_ne hj), Maps.has_put_other (lit_ne hj)]
    exact h3 j
theorem MapAt.drop {w : World} {m n : Nat} {pg : Pg} (h : MapAt w m n pg) {k : Int} (h0 : -9223372036854775808 ≤ k) (h1 : k ≤ 9223372036854775807) (ty : TypeId) :
    ∃ w', (Builtin.delete_ #[65, 3] ty #[.map (some m), .int .i64 k]).run Tryd.prog w = .ok (.tuple #[]) w' ∧ MapAt w' m n (upd pg k zeros) ∧ w.grownBy w' (some m) := by
  obtain ⟨D, h2, h3⟩ := h
  obtain ⟨w', hr, ho, ht⟩ := h2.drop law3 Tryd.underlying65 (key3 h0 h1) ty
  refine ⟨w', hr, ⟨_, ho, fun j => ?_⟩, ht.grown⟩
  by_cases hj : j = k
  · subst hj
    rw [upd_same]
    exact ⟨Maps.atKey_del_same _, by rw [Maps.has_del_same]; simp⟩
  · rw [upd_other _ _ _ hj, Maps.atKey_del_other (lit_ne hj), Maps.has_del_other (lit_ne hj)]
    exact h3 j

section
variable {ops : Array Oper} {rest : List Oper} {op : Oper} {a : Act} {w : World} {Q : Exit → Act → World → Prop}
theorem wl_look (hg : op.guard = none) (x y : Operand) (ho : op.op = Op.lookup 65 x y false) (m n : Nat) (pg : Pg) (hm : MapAt w m n pg) (k : Int) (h0 : -9223372036854775808 ≤ k) (h1 : k ≤ 9223372036854775807)
    (hx : a.eval x = .map (some m)) (hy : a.eval y = .int .i64 k) (h : wpList Tryd.prog ops Q rest (a.put op.dst (.agg (pgV (pg k)))) w) : wpList Tryd.prog ops Q (op :: rest) a w := by
  refine wpList_plain hg fun K hK => ?_
  unfold Oper.wp
  simp [execOp, ho, hx, hy, hm.look h0 h1, Result.andThen]
  exact hK _ _ h
theorem wl_lookok (hg : op.guard = none) (x y : Operand) (ho : op.op = Op.lookup 65 x y true) (m n : Nat) (pg : Pg) (hm : MapAt w m n pg) (k : Int) (h0 : -9223372036854775808 ≤ k) (h1 : k ≤ 9223372036854775807)
    (hx : a.eval x = .map (some m)) (hy : a.eval y = .int .i64 k) (h : wpList Tryd.prog ops Q rest (a.put op.dst (.tuple #[.agg (pgV (pg k)), .bool (!(decide (pg k = zeros)))])) w) : wpList Tryd.prog ops Q (op :: rest) a w := by
  refine wpList_plain hg fun K hK => ?_
  unfold Oper.wp
  simp only [execOp, ho, hx, hy, Sem.run_bind, hm.lookok h0 h1, Result.andThen, Sem.run_pure]
  exact hK _ _ h
theorem wl_put (hg : op.guard = none) (x y z : Operand) (ho : op.op = Op.mapUpdate 65 x y z) (m n : Nat) (pg : Pg) (hm : MapAt w m n pg) (k : Int) (h0 : -9223372036854775808 ≤ k) (h1 : k ≤ 9223372036854775807) (hn : n ≤ 1000) (p : List Nat) (hp : p ≠ zeros)
    (hx : a.eval x = .map (some m)) (hy : a.eval y = .int .i64 k) (hz : a.eval z = .agg (pgV p)) (h : ∀ w', MapAt w' m (n + 1) (upd pg k p) → w.grownBy w' (some m) → wpList Tryd.prog ops Q rest (a.put op.dst undef) w') : wpList Tryd.prog ops Q (op :: rest) a w := by
  refine wpList_plain hg fun K hK => ?_
  obtain ⟨w', hr, h2, h3⟩ := hm.store h0 h1 hn p hp
  unfold Oper.wp
  simp [execOp, ho, hx, hy, hz, hr, Result.andThen]
  exact hK _ _ (h w' h2 h3)
theorem wl_del (hg : op.guard = none) (x y : Operand) (ho : op.op = Op.call { callee := Callee.builtin Builtin.delete, args := #[x, y], argTypes := #[65, 3] }) (m n : Nat) (pg : Pg) (hm : MapAt w m n pg) (k : Int) (h0 : -9223372036854775808 ≤ k) (h1 : k ≤ 9223372036854775807)
    (hx : a.eval x = .map (some m)) (hy : a.eval y = .int .i64 k) (h : ∀ w', MapAt w' m n (upd pg k zeros) → w.grownBy w' (some m) → wpList Tryd.prog ops Q rest (a.put op.dst (.tuple #[])) w') : wpList Tryd.prog ops Q (op :: rest) a w := by
  refine wpList_plain hg fun K hK => ?_
  obtain ⟨w', hr, h2, h3⟩ := hm.drop h0 h1 op.type
  unfold Oper.wp
  simp [execOp, ho, resolve, invoke, builtin, hx, hy, hr, Result.andThen]
  exact hK _ _ (h w' h2 h3)
end
end Go.Proofs.YtkbfihnoohhojaaDoor.Fla

namespace Go.Proofs.YtkbfihnoohhojaaDoor.Fla
open Go.RowKit
theorem Tryd.guard79 : Tryd.prog.eqGuardType Tryd.prog.depth 83 = false := by kernel_rfl

set_option maxHeartbeats 2000000 in
set_option maxRecDepth 10000 in
theorem lay_any {w : World} {m n : Nat} {pg : Pg} (c : Chg) (z : Int) (hm : MapAt w m n pg) (hc : c.p.length = 256) (hl : ∀ k, (pg k).length = 256) (h0 : 0 ≤ c.at_) (h1 : c.at_ < 4096) (hn : n ≤ 1000) :
    Calls Tryd.prog 34 #[.map (some m), .agg (chgV c), .int .i64 z] w fun e w' => e = .returned (.tuple #[]) ∧ MapAt w' m (n + 1) (layP pg c z) ∧ w.grownBy w' (some m) := by
  have hz := Tryd.zero83
  have hgd := Tryd.guard79
  have k0 := chgV_0 c
  have hlp := overP_length hc (hl c.at_) z
  have hq1 : w.heap.size < w.heap.size + 1 := by omega
  have hb1 : Below w.heap.size w (w.alloc (.cells (chgV c) 85)) := by go_grown
  have hm1 := hm.below hb1
  have hB1 : Hid ((w.alloc (.cells (chgV c) 85)).heap[w.heap.size]? = some (.cells (chgV c) 85 (0, 0))) := heap_alloc_last w _
  have HM1 : Hid (MapAt (w.alloc (.cells (chgV c) 85)) m n pg) := hm1
  have HM : Hid (MapAt w m n pg) := hm
  have HL : Hid (∀ k, (pg k).length = 256) := hl
  have HLP : Hid ((overP c (pg c.at_) z).length = 256) := hlp
  have hmlt := hm.lt
  have HC : Hid ((w.alloc (.cells (chgV c) 85)).cell? ⟨w.heap.size, 0, none⟩ = some (.int .i64 c.at_)) := by show _ = _; simp [k0]
  clear hm hl hm1 hlp
  have heq := fun w => eq79 w (overP c (pg c.at_) z) zeros HLP.out zeros_length
  by_cases hP : overP c (pg c.at_) z = zeros
  · have hd : decide (overP c (pg c.at_) z = zeros) = true := by simpa using hP
    simp only [hd] at heq
    have HE : Hid (layP pg c z = upd pg c.at_ zeros) := by show _ = _; unfold layP; rw [hP]
    clear hP hd
    go_enter Tryd.func34, Tryd.ntmps34
    go_wp2_with (first | (refine ldB81 rfl (.tmp 4) rfl w.heap.size rfl c hc 85 (0, 0) hB1.out ?_) | (at_lookup; refine wl_look rfl (.tmp 8) (.tmp 10) rfl m n pg HM1.out c.at_ (by omega) (by omega) rfl rfl ?_) | (go_at_call 55; refine (over_any c (pg c.at_) z _ hc (HL.out _)).mono ?_; rintro e w2 ⟨rfl, hb2⟩; have HM2 : Hid (MapAt w2 m n pg) := HM1.out.below hb2; have hcc : w2.cell? ⟨w.heap.size, 0, none⟩ = some (.int .i64 c.at_) := (hb2.cell (p := ⟨w.heap.size, 0, none⟩) (by simp)).trans HC.out; have hs2 : w.heap.size < w2.heap.size := by have := hb2.size; simp at this; omega) | (refine st79 w2 rfl (.tmp 6) (.tmp 13) rfl _ rfl rfl (overP c (pg c.at_) z) zeros rfl rfl zeros_length HLP.out ?_) | (refine ldB79 rfl (.tmp 6) rfl w2.heap.size rfl (overP c (pg c.at_) z) HLP.out 83 (0, 0) (heap_alloc_last _ _) ?_) | (refine bd79 rfl rfl ?_) | (at_delete; refine wl_del rfl (.tmp 17) (.tmp 19) rfl m n pg (HM2.out.below (by go_grown)) c.at_ (by omega) (by omega) rfl rfl ?_; intro w4 hm4 hg4) | fail)
    refine bodyPost_ret (v := .tuple #[]) (results_none rfl _ _ _) rfl ⟨rfl, ?_, ?_⟩
    · rw [HE.out]; exact hm4.mono (by omega)
    · exact grown_trans (grown_trans (below_grown hb1 _) (below_grown hb2 _)) (grown_trans (below_grown (by go_grown) _) hg4)
  · have hd : decide (overP c (pg c.at_) z = zeros) = false := by simpa using hP
    simp only [hd] at heq
    have HP : Hid (overP c (pg c.at_) z ≠ zeros) := hP
    clear hP hd
    go_enter Tryd.func34, Tryd.ntmps34
    go_wp2_with (first | (refine ldB81 rfl (.tmp 4) rfl w.heap.size rfl c hc 85 (0, 0) hB1.out ?_) | (at_lookup; refine wl_look rfl (.tmp 8) (.tmp 10) rfl m n pg HM1.out c.at_ (by omega) (by omega) rfl rfl ?_) | (go_at_call 55; refine (over_any c (pg c.at_) z _ hc (HL.out _)).mono ?_; rintro e w2 ⟨rfl, hb2⟩; have HM2 : Hid (MapAt w2 m n pg) := HM1.out.below hb2; have hcc : w2.cell? ⟨w.heap.size, 0, none⟩ = some (.int .i64 c.at_) := (hb2.cell (p := ⟨w.heap.size, 0, none⟩) (by simp)).trans HC.out; have hs2 : w.heap.size < w2.heap.size := by have := hb2.size; simp at this; omega) | (refine st79 w2 rfl (.tmp 6) (.tmp 13) rfl _ rfl rfl (overP c (pg c.at_) z) zeros rfl rfl zeros_length HLP.out ?_) | (refine ldB79 rfl (.tmp 6) rfl w2.heap.size rfl (overP c (pg c.at_) z) HLP.out 83 (0, 0) (heap_alloc_last _ _) ?_) | (refine bd79 rfl rfl ?_) | (at_mapUpdate; refine wl_put rfl (.tmp 20) (.tmp 22) (.tmp 23) rfl m n pg (HM2.out.below (by go_grown)) c.at_ (by omega) (by omega) (by omega) (overP c (pg c.at_) z) HP.out rfl rfl rfl ?_; intro w4 hm4 hg4) | fail)
    go_end0
    refine ⟨rfl, hm4, ?_⟩
    exact grown_trans (grown_trans (below_grown hb1 _) (below_grown hb2 _)) (grown_trans (below_grown (by go_grown) _) hg4)
end Go.Proofs.YtkbfihnoohhojaaDoor.Fla
