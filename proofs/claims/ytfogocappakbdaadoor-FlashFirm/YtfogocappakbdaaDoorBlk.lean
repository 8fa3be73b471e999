/-
  Whole blocks loaded and stored, in whatever world; copy into a block.
-/
import Derived.Test.YtfogocappakbdaaDoorSl
namespace Go.Proofs.YtfogocappakbdaaDoor
open Go.RowKit

theorem grown_setRow (w : World) (g : Nat) (cs : Array Value) : w.grownBy (w.setRow g cs) (some g) :=
  ⟨rfl, rfl, rfl, by simp [World.setRow], fun k _ hk => setRow_other w g k cs (by intro e; exact hk (by rw [e]))⟩
theorem grown_refl (w : World) (r : Option Nat) : w.grownBy w r := ⟨rfl, rfl, rfl, Nat.le_refl _, fun _ _ _ => rfl⟩
theorem grown_trans {w w1 w2 : World} {r : Option Nat} (h : w.grownBy w1 r) (k : w1.grownBy w2 r) : w.grownBy w2 r :=
  ⟨k.os.trans h.os, k.tape.trans h.tape, k.output.trans h.output, Nat.le_trans h.size k.size, fun i hi hr => (k.block i (Nat.lt_of_lt_of_le hi h.size) hr).trans (h.block i hi hr)⟩
theorem heap_grown {w w' : World} {r : Option Nat} {b : Nat} {o : Obj} (h : w.heap[b]? = some o) (hg : w.grownBy w' r) (hr : some b ≠ r) : w'.heap[b]? = some o := by
  rw [hg.block b (Array.getElem?_eq_some_iff.1 h).1 hr]; exact h
theorem grown_below {w w' : World} {b B : Nat} (h : w.grownBy w' (some b)) (hB : B ≤ b) (hs : B ≤ w.heap.size) : Below B w w' :=
  ⟨h.os, h.tape, h.output, h.size, fun k hk => h.block k (by omega) (by intro e; cases e; omega)⟩

section
variable {ops : Array Oper} {rest : List Oper} {op : Oper} {a : Act} {w : World} {Q : Exit → Act → World → Prop}
set_option maxRecDepth 10000 in
theorem stB (t : TypeId) (n : Nat) (hsz : (Tryd.prog.info? t).map (·.size) = some n) (hgd : op.guard = none) (x y : Operand) (ho : op.op = .store t x y) (b : Nat) (hx : a.eval x = .pointer (some ⟨b, 0, none⟩))
    (c c' : Array Value) (hw : w.heap[b]? = some (.cells c t (0, 0))) (hy : a.eval y = .agg c') (hn : c.size = n) (hn' : c'.size = n) (h1 : ∀ u ∈ c'.toList, u.oneCell' = true)
    (h : ∀ w', w'.heap[b]? = some (.cells c' t (0, 0)) → w.grownBy w' (some b) → wpList Tryd.prog ops Q rest (a.put op.dst undef) w') : wpList Tryd.prog ops Q (op :: rest) a w := by
  refine wpList_plain hgd fun K hK => ?_
  have h2 : c'.all (·.oneCell') = true := Array.all_eq_true_iff_forall_mem.2 (fun v hv => h1 v (by simpa using hv))
  have hr : (Instr.storeAt t (.pointer (some ⟨b, 0, none⟩)) (.agg c')).run Tryd.prog w = .ok () (w.setRow b c') := by
    simp only [Instr.storeAt, Instr.sureAddr, Sem.run_bind, Sem.run_pure, Result.andThen]
    exact run_storeVar_row _ _ t t c c' hw (by rw [hsz, hn']) (by rw [hn, hn']) h2
  unfold Oper.wp execOp
  simp only [ho, hx, hy, Sem.run_bind, hr, Result.andThen_ok, Sem.run_pure]
  exact hK _ _ (h _ (setRow_heap w b c c' t (0, 0) hw) (grown_setRow w b c'))
/-- A page into a block. -/
theorem stB79 (hgd : op.guard = none) (x y : Operand) (ho : op.op = .store 79 x y) (b : Nat) (hx : a.eval x = .pointer (some ⟨b, 0, none⟩))
    (p q : List Nat) (hw : w.heap[b]? = some (.cells (pgV q) 79 (0, 0))) (hy : a.eval y = .agg (pgV p)) (hq : q.length = 256) (hp : p.length = 256)
    (h : ∀ w', w'.heap[b]? = some (.cells (pgV p) 79 (0, 0)) → w.grownBy w' (some b) → wpList Tryd.prog ops Q rest (a.put op.dst undef) w') : wpList Tryd.prog ops Q (op :: rest) a w :=
  stB 79 256 Tryd.size79 hgd x y ho b hx _ _ hw hy (by rw [pgV_size, hq]) (by rw [pgV_size, hp]) (by rw [pgV_toList]; exact U_one p) h
theorem stB81 (hgd : op.guard = none) (x y : Operand) (ho : op.op = .store 81 x y) (b : Nat) (hx : a.eval x = .pointer (some ⟨b, 0, none⟩))
    (p q : Chg) (hw : w.heap[b]? = some (.cells (chgV q) 81 (0, 0))) (hy : a.eval y = .agg (chgV p)) (hq : q.p.length = 256) (hp : p.p.length = 256)
    (h : ∀ w', w'.heap[b]? = some (.cells (chgV p) 81 (0, 0)) → w.grownBy w' (some b) → wpList Tryd.prog ops Q rest (a.put op.dst undef) w') : wpList Tryd.prog ops Q (op :: rest) a w :=
  stB 81 258 Tryd.size81 hgd x y ho b hx _ _ hw hy (by rw [chgV_size, hq]) (by rw [chgV_size, hp]) (by simpa [chgV] using chgL_one p) h

theorem range_block {b : Nat} {c : Array Value} {t : TypeId} {fr : Nat × Nat} (hw : w.heap[b]? = some (.cells c t fr)) : w.rangeAt b 0 c.toList := by
  intro j v hv
  simp at hv
  simp [World.cell?, hw, hv]
theorem ldB79 (hgd : op.guard = none) (x : Operand) (ho : op.op = .load 79 x) (b : Nat) (hx : a.eval x = .pointer (some ⟨b, 0, none⟩)) (p : List Nat) (hp : p.length = 256) (t : TypeId) (fr : Nat × Nat) (hc : w.heap[b]? = some (.cells (pgV p) t fr))
    (h : wpList Tryd.prog ops Q rest (a.put op.dst (.agg (pgV p))) w) : wpList Tryd.prog ops Q (op :: rest) a w :=
  ld79 hgd x ho b 0 hx p hp (by simpa [pgV_toList] using range_block hc) h
theorem ldB81 (hgd : op.guard = none) (x : Operand) (ho : op.op = .load 81 x) (b : Nat) (hx : a.eval x = .pointer (some ⟨b, 0, none⟩)) (c : Chg) (hp : c.p.length = 256) (t : TypeId) (fr : Nat × Nat) (hc : w.heap[b]? = some (.cells (chgV c) t fr))
    (h : wpList Tryd.prog ops Q rest (a.put op.dst (.agg (chgV c))) w) : wpList Tryd.prog ops Q (op :: rest) a w :=
  ld81 hgd x ho b 0 hx c hp (by simpa [chgV] using range_block hc) h
theorem resB79 (b : Nat) (p : List Nat) (hp : p.length = 256) (t : TypeId) (fr : Nat × Nat) (hc : w.heap[b]? = some (.cells (pgV p) t fr)) : (loadVar 79 ⟨b, 0, none⟩).run Tryd.prog w = .ok (.agg (pgV p)) w :=
  res79 w b p hp (by simpa [pgV_toList] using range_block hc)
end

theorem step_copy_g {P : Program} {ops : Array Oper} {o : Oper} {a : Act} {w : World} {K : Act → World → Prop} {Q : Exit → Act → World → Prop} {E : Prop} (hgd : o.guard = none) (d s : Operand) (dT sT : TypeId)
    (ho : o.op = .call { callee := .builtin .copy, args := #[d, s], argTypes := #[dT, sT] }) (elem : TypeId) (hu : P.underlying dT = some (.slice elem)) (hsz : (P.info? elem).map (·.size) = some 1)
    (ad : Addr) (dLen dCap sLen sCap : Nat) (g off : Nat) (hd : a.eval d = .slice (some ⟨g, off, none⟩) dLen dCap) (hs : a.eval s = .slice (some ad) sLen sCap)
    (cur : List Value) (t : TypeId) (hg : w.heap[g]? = some (.cells cur.toArray t (0, 0))) (cs : List Value) (hn : cs.length = Nat.min sLen dLen)
    (hsrc : ∀ j v, cs[j]? = some v → w.cell? (ad.add j) = some v)
    (hfit : off + cs.length ≤ cur.length) (h1 : ∀ v ∈ cs, v.oneCell' = true)
    (h : ∀ w', w'.heap[g]? = some (.cells (splice cur off cs).toArray t (0, 0)) → w.grownBy w' (some g) → K (a.put o.dst (goInt cs.length)) w') :
    if Region.wanted o (yielded ops a.tmps) = true then Oper.wp P o a w K Q else E := by
  have hw : Region.wanted o (yielded ops a.tmps) = true := by simp [Region.wanted, hgd]
  rw [if_pos hw]
  have hrun := run_copy_row (P := P) w dT sT o.type elem g off dLen dCap ad sLen sCap cur.toArray t cs hu hsz hg hn hsrc (by simpa using hfit) h1
  unfold Oper.wp
  simp [execOp, ho, resolve, invoke, builtin, hd, hs, hrun, Result.andThen]
  exact h _ (show _ = _ by simpa [splice] using setRow_heap w g _ _ t _ hg) (grown_setRow _ _ _)
end Go.Proofs.YtfogocappakbdaaDoor
