/-
  The small calls of a device: refuses, burns, Fuse, Down, Loose, Done, Pages.
-/
import Derived.Test.YtkbfihnoohhojaaDoorQFMem
import Derived.Deep.WholeRow
import Derived.Laws.StructEq
namespace Go.Proofs.YtkbfihnoohhojaaDoor.Fla
open Go.RowKit

section
variable {ops : Array Oper} {rest : List Oper} {op : Oper} {a : Act} {w : World} {Q : Exit → Act → World → Prop}

theorem ld79 (hgd : op.guard = none) (x : Operand) (ho : op.op = .load 83 x) (b o : Nat) (hx : a.eval x = .pointer (some ⟨b, o, none⟩)) (p : List Nat) (hp : p.length = 256) (hc : w.rangeAt b o (U p))
    (h : wpList Tryd.prog ops Q rest (a.put op.dst (.agg (pgV p))) w) : wpList Tryd.prog ops Q (op :: rest) a w :=
  wpList_load_mid hgd 83 x ho b o hx (U p) _ hc Tryd.underlying83 rfl (by rw [U_length, hp]; exact Tryd.size79) h

theorem ld81 (hgd : op.guard = none) (x : Operand) (ho : op.op = .load 85 x) (b o : Nat) (hx : a.eval x = .pointer (some ⟨b, o, none⟩)) (c : Chg) (hp : c.p.length = 256) (hc : w.rangeAt b o (chgL c))
    (h : wpList Tryd.prog ops Q rest (a.put op.dst (.agg (chgV c))) w) : wpList Tryd.prog ops Q (op :: rest) a w :=
  wpList_load_mid hgd 85 x ho b o hx (chgL c) _ hc Tryd.underlying85 rfl (by rw [chgL_length, hp]; exact Tryd.size81) h

set_option maxRecDepth 10000 in
theorem st_new (w0 : World) (t : TypeId) (n : Nat) (hsz : (Tryd.prog.info? t).map (·.size) = some n) (hgd : op.guard = none) (x y : Operand) (ho : op.op = .store t x y) (b : Nat) (hx : a.eval x = .pointer (some ⟨b, 0, none⟩)) (hb : b = w0.heap.size)
    (c c' : Array Value) (hw : w = w0.alloc (.cells c t)) (hy : a.eval y = .agg c') (hn : c.size = n) (hn' : c'.size = n) (h1 : ∀ u ∈ c'.toList, u.oneCell' = true)
    (h : wpList Tryd.prog ops Q rest (a.put op.dst undef) (w0.alloc (.cells c' t))) : wpList Tryd.prog ops Q (op :: rest) a w := by
  subst hw hb
  refine wpList_plain hgd fun K hK => ?_
  unfold Oper.wp execOp
  have h2 : c'.all (·.oneCell') = true := Array.all_eq_true_iff_forall_mem.2 (fun v hv => h1 v (by simpa using hv))
  simp only [ho, hx, hy, Sem.run_bind, run_storeAt_new w0 t c c' (by rw [hsz, hn']) (by rw [hn, hn']) h2, Result.andThen_ok, Sem.run_pure]
  exact hK _ _ h

theorem st79 (w0 : World) (hgd : op.guard = none) (x y : Operand) (ho : op.op = .store 83 x y) (b : Nat) (hx : a.eval x = .pointer (some ⟨b, 0, none⟩)) (hb : b = w0.heap.size)
    (p q : List Nat) (hw : w = w0.alloc (.cells (pgV q) 83)) (hy : a.eval y = .agg (pgV p)) (hq : q.length = 256) (hp : p.length = 256)
    (h : wpList Tryd.prog ops Q rest (a.put op.dst undef) (w0.alloc (.cells (pgV p) 83))) : wpList Tryd.prog ops Q (op :: rest) a w :=
  st_new w0 83 256 Tryd.size79 hgd x y ho b hx hb _ _ hw hy (by rw [pgV_size, hq]) (by rw [pgV_size, hp]) (by rw [pgV_toList]; exact U_one p) h

theorem st81 (w0 : World) (hgd : op.guard = none) (x y : Operand) (ho : op.op = .store 85 x y) (b : Nat) (hx : a.eval x = .pointer (some ⟨b, 0, none⟩)) (hb : b = w0.heap.size)
    (c q : Chg) (hw : w = w0.alloc (.cells (chgV q) 85)) (hy : a.eval y = .agg (chgV c)) (hq : q.p.length = 256) (hp : c.p.length = 256)
    (h : wpList Tryd.prog ops Q rest (a.put op.dst undef) (w0.alloc (.cells (chgV c) 85))) : wpList Tryd.prog ops Q (op :: rest) a w :=
  st_new w0 85 258 Tryd.size81 hgd x y ho b hx hb _ _ hw hy (by rw [chgV_size, hq]) (by rw [chgV_size, hp]) (by simpa [chgV] using chgL_one c) h

set_option maxRecDepth 10000 in
/-- A page of noughts, built. -/
theorem bd79 (hgd : op.guard = none) (ho : op.op = .build 83 #[]) (h : wpList Tryd.prog ops Q rest (a.put op.dst (.agg (pgV zeros))) w) : wpList Tryd.prog ops Q (op :: rest) a w := by
  refine wpList_plain hgd fun K hK => ?_
  have hr : (Instr.build 83 #[]).run Tryd.prog w = .ok (.agg (pgV zeros)) w := by
    simp only [Instr.build, Sem.run_bind, Tryd.zero83 w, Result.andThen_ok, run_underlying Tryd.underlying83 w]
    simp [Instr.fill, Value.cells, sizeOf, typeInfo, Result.andThen]
    obtain ⟨i, h1, h2, h3, h4⟩ := info_of Tryd.info5m
    simp [h1]
  unfold Oper.wp execOp
  simp only [ho, List.map_toArray, List.map_nil, Sem.run_bind, hr, Result.andThen_ok, Sem.run_pure]
  exact hK _ _ h
end

theorem range_alloc (w : World) (cs : Array Value) (t : TypeId) : (w.alloc (.cells cs t)).rangeAt w.heap.size 0 cs.toList := by
  intro j v hv
  simp at hv ⊢
  exact hv

/-- A result that is a page. -/
theorem res79 (w : World) (b : Nat) (p : List Nat) (hp : p.length = 256) (hc : w.rangeAt b 0 (U p)) : (loadVar 83 ⟨b, 0, none⟩).run Tryd.prog w = .ok (.agg (pgV p)) w :=
  run_loadVar_mid w b 0 83 (U p) _ hc Tryd.underlying83 rfl (by rw [U_length, hp]; exact Tryd.size79)

theorem all_range (xs ys : List Nat) (h : xs.length = ys.length) : ((List.range xs.length).all fun i => xs.getD i 0 == ys.getD i 0) = decide (xs = ys) := by
  rw [Bool.eq_iff_iff]
  simp only [List.all_eq_true, List.mem_range, beq_iff_eq, decide_eq_true_eq]
  constructor
  · intro h1
    apply List.ext_getElem h
    intro i h2 h3
    have := h1 i h2
    simpa [List.getD, List.getElem?_eq_getElem h2, List.getElem?_eq_getElem h3] using this
  · rintro rfl i _
    rfl

set_option maxRecDepth 10000 in
theorem eq79 (w : World) (xs ys : List Nat) (hx : xs.length = 256) (hy : ys.length = 256) :
    (Op.equalIn 10000 83 (.agg (pgV xs)) (.agg (pgV ys))).run Tryd.prog w = .ok (decide (xs = ys)) w := by
  obtain ⟨ii, hi1, _, hi2, _⟩ := info_of Tryd.info5m
  have hsz : ∀ w, (sizeOf 5).run Tryd.prog w = .ok 1 w := fun w => by simp [sizeOf, typeInfo, hi1, hi2]
  rw [← all_range xs ys (hx.trans hy.symm), hx, List.range_eq_range', show (10000 : Nat) = 9999 + 1 from rfl, Op.equalIn]
  simp only [Sem.run_bind, run_underlying Tryd.underlying83, Result.andThen_ok, hsz, Std.Legacy.Range.forIn_eq_forIn_range', Std.Legacy.Range.size, Nat.sub_zero, Nat.add_sub_cancel, Nat.div_one]
  have hl : ∀ i ∈ List.range' 0 256 1, i < 256 := fun i hi => by simpa using (List.mem_range'_1.1 hi).2
  generalize List.range' 0 256 1 = l at hl ⊢
  induction l with
  | nil => simp
  | cons i l ih =>
    have hi : i < 256 := hl i (by simp)
    have px : ∀ zs : List Nat, zs.length = 256 → (part 5 (pgV zs) (i * 1)).run Tryd.prog w = .ok (.int .u8 (zs.getD i 0 : Nat)) w := fun zs hz => by
      simp [part, isAgg, run_underlying Tryd.underlying5, List.getD, pgV, U, List.getElem?_eq_getElem (show i < zs.length by omega)]
    have pe : (Op.equalIn 9999 5 (.int .u8 (xs.getD i 0 : Nat)) (.int .u8 (ys.getD i 0 : Nat))).run Tryd.prog w = .ok (xs.getD i 0 == ys.getD i 0) w := by
      rw [show (9999 : Nat) = 9998 + 1 from rfl, run_equalIn_int w 9998 5 .u8 .u8 _ _ Tryd.underlying5]
      congr 1
      rw [Bool.eq_iff_iff]
      simp
      omega
    simp only [List.forIn_cons, Sem.run_bind, px xs hx, px ys hy, pe, Result.andThen_ok, List.all_cons]
    cases hb : (xs.getD i 0 == ys.getD i 0)
    · simp
    · simp only [Bool.not_true, Bool.false_eq_true, if_false, Sem.run_pure, Result.andThen_ok, Bool.true_and]
      exact ih fun j hj => hl j (by simp [hj])
end Go.Proofs.YtkbfihnoohhojaaDoor.Fla

namespace Go.Proofs.YtkbfihnoohhojaaDoor.Fla
open Go.RowKit
set_option maxRecDepth 10000 in
theorem sl79 (a : Addr) (k : Nat) (hk : k ≤ 256) (w : World) : (Instr.sliceAt 83 (.pointer (some a)) none (some (.int .i64 (k : Int))) none).run Tryd.prog w = .ok (.slice (some a) k 256) w := by
  obtain ⟨ii, hi1, _, _, _⟩ := info_of Tryd.info5m
  have h2 : (k : Int) ≤ 256 := by omega
  simp [Instr.sliceAt, run_underlying Tryd.underlying83, Instr.sureAddr, Instr.sliceBounds, go_sem, Result.andThen, sizeOf, typeInfo, hi1, h2, Addr.add]
set_option maxRecDepth 10000 in
theorem sl79all (a : Addr) (w : World) : (Instr.sliceAt 83 (.pointer (some a)) none none none).run Tryd.prog w = .ok (.slice (some a) 256 256) w := by
  obtain ⟨ii, hi1, _, _, _⟩ := info_of Tryd.info5m
  simp [Instr.sliceAt, run_underlying Tryd.underlying83, Instr.sureAddr, Instr.sliceBounds, go_sem, Result.andThen, sizeOf, typeInfo, hi1, Addr.add]
end Go.Proofs.YtkbfihnoohhojaaDoor.Fla

namespace Go.Proofs.YtkbfihnoohhojaaDoor.Fla
open Go.RowKit

theorem grown_setRow (w : World) (g : Nat) (cs : Array Value) : w.grownBy (w.setRow g cs) (some g) :=
  ⟨rfl, rfl, rfl, by simp [World.setRow], fun k _ hk => setRow_other w g k cs (by intro e; exact hk (by rw [e]))⟩
theorem grown_refl (w : World) (r : Option Nat) : w.grownBy w r := ⟨rfl, rfl, rfl, Nat.le_refl _, fun _ _ _ => rfl⟩
theorem grown_trans {w w1 w2 : World} {r : Option Nat} (h : w.grownBy w1 r) (k : w1.grownBy w2 r) : w.grownBy w2 r :=
  ⟨k.os.trans h.os, k.tape.trans h.tape, k.output.trans h.output, Nat.le_trans h.size k.size, fun i hi hr => (k.block i (Nat.lt_of_lt_of_le hi h.size) hr).trans (h.block i hi hr)⟩
theorem heap_grown {w w' : World} {r : Option Nat} {b : Nat} {o : Obj} (h : w.heap[b]? = some o) (hg : w.grownBy w' r) (hr : some b ≠ r) : w'.heap[b]? = some o := by
  rw [hg.block b (Array.getElem?_eq_some_iff.1 h).1 hr]; exact h
theorem grown_below {w w' : World} {b B : Nat} (h : w.grownBy w' (some b)) (hB : B ≤ b) (hs : B ≤ w.heap.size) : Below B w w' :=
  ⟨h.os, h.tape, h.output, h.size, fun k hk => h.block k (by omega) (by intro e; cases e; omega)⟩

section
variable {ops : Array Oper} {rest : List Oper} {op : Oper} {a : Act} {w : World} {Q : Exit → Act → World → Prop}
set_option maxRecDepth 10000 in
theorem stB (t : TypeId) (n : Nat) (hsz : (Tryd.prog.info? t).map (·.size) = some n) (hgd : op.guard = none) (x y : Operand) (ho : op.op = .store t x y) (b : Nat) (hx : a.eval x = .pointer (some ⟨b, 0, none⟩))
    (c c' : Array Value) (hw : w.heap[b]? = some (.cells c t (0, 0))) (hy : a.eval y = .agg c') (hn : c.size = n) (hn' : c'.size = n) (h1 : ∀ u ∈ c'.toList, u.oneCell' = true)
    (h : ∀ w', w'.heap[b]? = some (.cells c' t (0, 0)) → w.grownBy w' (some b) → wpList Tryd.prog ops Q rest (a.put op.dst undef) w') : wpList Tryd.prog ops Q (op :: rest) a w := by
  refine wpList_plain hgd fun K hK => ?_
  have h2 : c'.all (·.oneCell') = true := Array.all_eq_true_iff_forall_mem.2 (fun v hv => h1 v (by simpa using hv))
  have hr : (Instr.storeAt t (.pointer (some ⟨b, 0, none⟩)) (.agg c')).run Tryd.prog w = .ok () (w.setRow b c') := by
    simp only [Instr.storeAt, Instr.sureAddr, Sem.run_bind, Sem.run_pure, Result.andThen]
    exact run_storeVar_row _ _ t t c c' hw (by rw [hsz, hn']) (by rw [hn, hn']) h2
  unfold Oper.wp execOp
  simp only [ho, hx, hy, Sem.run_bind, hr, Result.andThen_ok, Sem.run_pure]
  exact hK _ _ (h _ (setRow_heap w b c c' t (0, 0) hw) (grown_setRow w b c'))
/-- A page into a block. -/
theorem stB79 (hgd : op.guard = none) (x y : Operand) (ho : op.op = .store 83 x y) (b : Nat) (hx : a.eval x = .pointer (some ⟨b, 0, none⟩))
    (p q : List Nat) (hw : w.heap[b]? = some (.cells (pgV q) 83 (0, 0))) (hy : a.eval y = .agg (pgV p)) (hq : q.length = 256) (hp : p.length = 256)
    (h : ∀ w', w'.heap[b]? = some (.cells (pgV p) 83 (0, 0)) → w.grownBy w' (some b) → wpList Tryd.prog ops Q rest (a.put op.dst undef) w') : wpList Tryd.prog ops Q (op :: rest) a w :=
  stB 83 256 Tryd.size79 hgd x y ho b hx _ _ hw hy (by rw [pgV_size, hq]) (by rw [pgV_size, hp]) (by rw [pgV_toList]; exact U_one p) h
theorem stB81 (hgd : op.guard = none) (x y : Operand) (ho : op.op = .store 85 x y) (b : Nat) (hx : a.eval x = .pointer (some ⟨b, 0, none⟩))
    (p q : Chg) (hw : w.heap[b]? = some (.cells (chgV q) 85 (0, 0))) (hy : a.eval y = .agg (chgV p)) (hq : q.p.length = 256) (hp : p.p.length = 256)
    (h : ∀ w', w'.heap[b]? = some (.cells (chgV p) 85 (0, 0)) → w.grownBy w' (some b) → wpList Tryd.prog ops Q rest (a.put op.dst undef) w') : wpList Tryd.prog ops Q (op :: rest) a w :=
  stB 85 258 Tryd.size81 hgd x y ho b hx _ _ hw hy (by rw [chgV_size, hq]) (by rw [chgV_size, hp]) (by simpa [chgV] using chgL_one p) h

theorem range_block {b : Nat} {c : Array Value} {t : TypeId} {fr : Nat × Nat} (hw : w.heap[b]? = some (.cells c t fr)) : w.rangeAt b 0 c.toList := by
  intro j v hv
  simp at hv
  simp [World.cell?, hw, hv]
theorem ldB79 (hgd : op.guard = none) (x : Operand) (ho : op.op = .load 83 x) (b : Nat) (hx : a.eval x = .pointer (some ⟨b, 0, none⟩)) (p : List Nat) (hp : p.length = 256) (t : TypeId) (fr : Nat × Nat) (hc : w.heap[b]? = some (.cells (pgV p) t fr))
    (h : wpList Tryd.prog ops Q rest (a.put op.dst (.agg (pgV p))) w) : wpList Tryd.prog ops Q (op :: rest) a w :=
  ld79 hgd x ho b 0 hx p hp (by simpa [pgV_toList] using range_block hc) h
theorem ldB81 (hgd : op.guard = none) (x : Operand) (ho : op.op = .load 85 x) (b : Nat) (hx : a.eval x = .pointer (some ⟨b, 0, none⟩)) (c : Chg) (hp : c.p.length = 256) (t : TypeId) (fr : Nat × Nat) (hc : w.heap[b]? = some (.cells (chgV c) t fr))
    (h : wpList Tryd.prog ops Q rest (a.put op.dst (.agg (chgV c))) w) : wpList Tryd.prog ops Q (op :: rest) a w :=
  ld81 hgd x ho b 0 hx c hp (by simpa [chgV] using range_block hc) h
theorem resB79 (b : Nat) (p : List Nat) (hp : p.length = 256) (t : TypeId) (fr : Nat × Nat) (hc : w.heap[b]? = some (.cells (pgV p) t fr)) : (loadVar 83 ⟨b, 0, none⟩).run Tryd.prog w = .ok (.agg (pgV p)) w :=
  res79 w b p hp (by simpa [pgV_toList] using range_block hc)
end

theorem step_copy_g {P : Program} {ops : Array Oper} {o : Oper} {a : Act} {w : World} {K : Act → World → Prop} {Q : Exit → Act → World → Prop} {E : Prop} (hgd : o.guard = none) (d s : Operand) (dT sT : TypeId)
    (ho : o.op = .call { callee := .builtin .copy, args := #[d, s], argTypes := #[dT, sT] }) (elem : TypeId) (hu : P.underlying dT = some (.slice elem)) (hsz : (P.info? elem).map (·.size) = some 1)
    (ad : Addr) (dLen dCap sLen sCap : Nat) (g off : Nat) (hd : a.eval d = .slice (some ⟨g, off, none⟩) dLen dCap) (hs : a.eval s = .slice (some ad) sLen sCap)
    (cur : List Value) (t : TypeId) (hg : w.heap[g]? = some (.cells cur.toArray t (0, 0))) (cs : List Value) (hn : cs.length = Nat.min sLen dLen)
    (hsrc : ∀ j v, cs[j]? = some v → w.cell? (ad.add j) = some v)
    (hfit : off + cs.length ≤ cur.length) (h1 : ∀ v ∈ cs, v.oneCell' = true)
    (h : ∀ w', w'.heap[g]? = some (.cells (splice cur off cs).toArray t (0, 0)) → w.grownBy w' (some g) → K (a.put o.dst (goInt cs.length)) w') :
    if Region.wanted o (yielded ops a.tmps) = true then Oper.wp P o a w K Q else E := by
  have hw : Region.wanted o (yielded ops a.tmps) = true := by simp [Region.wanted, hgd]
  rw [if_pos hw]
  have hrun := run_copy_row (P := P) w dT sT o.type elem g off dLen dCap ad sLen sCap cur.toArray t cs hu hsz hg hn hsrc (by simpa using hfit) h1
  unfold Oper.wp
  simp [execOp, ho, resolve, invoke, builtin, hd, hs, hrun, Result.andThen]
  exact h _ (show _ = _ by simpa [splice] using setRow_heap w g _ _ t _ hg) (grown_setRow _ _ _)
end Go.Proofs.YtkbfihnoohhojaaDoor.Fla

namespace Go.Proofs.YtkbfihnoohhojaaDoor.Fla
open Go.RowKit

theorem six {w : World} {g : Nat} {x0 x1 x2 x3 x4 x5 : Value} (h : w.heap[g]? = some (.cells #[x0, x1, x2, x3, x4, x5] 68 (0, 0))) :
    (w.cell? ⟨g, 0, none⟩ = some x0 ∧ w.cell? ⟨g, 1, none⟩ = some x1 ∧ w.cell? ⟨g, 2, none⟩ = some x2 ∧ w.cell? ⟨g, 3, none⟩ = some x3 ∧ w.cell? ⟨g, 4, none⟩ = some x4 ∧ w.cell? ⟨g, 5, none⟩ = some x5) ∧
    ∀ o, w.frozen? ⟨g, o, none⟩ = false := by
  refine ⟨⟨?_, ?_, ?_, ?_, ?_, ?_⟩, ?_⟩ <;> simp [World.cell?, World.frozen?, h]
theorem setCell_heap {w : World} {g o : Nat} {cs : Array Value} {t : TypeId} {fr : Nat × Nat} (h : w.heap[g]? = some (.cells cs t fr)) (v : Value) : (w.setCell ⟨g, o, none⟩ v).heap[g]? = some (.cells (cs.setIfInBounds o v) t fr) := by
  rw [setCell_eq_setRow w g o cs t fr v h]
  exact setRow_heap w g cs _ t fr h
theorem setCell_grown {w : World} {g o : Nat} {cs : Array Value} {t : TypeId} {fr : Nat × Nat} (h : w.heap[g]? = some (.cells cs t fr)) (v : Value) : w.grownBy (w.setCell ⟨g, o, none⟩ v) (some g) := by
  rw [setCell_eq_setRow w g o cs t fr v h]
  exact grown_setRow w g _

/-- A device's block. -/
abbrev devC (pages : Int) (m : Nat) (wv : Value) (fuse : Int) (down : Bool) (done : Int) : Array Value := #[.int .i64 pages, .map (some m), wv, .int .i64 fuse, .bool down, .int .i64 done]

set_option maxHeartbeats 1000000 in
theorem refuses_any {w : World} {g m : Nat} {wv : Value} (d : Dev) (at_ : Int) (h : w.heap[g]? = some (.cells #[.int .i64 d.pages, .map (some m), wv, .int .i64 d.fuse, .bool d.down, .int .i64 d.done] 68 (0, 0))) :
    Calls Tryd.prog 38 #[.pointer (some ⟨g, 0, none⟩), .int .i64 at_] w fun e w' => e = .returned (.int .i64 (refusesP d at_)) ∧ w' = w := by
  obtain ⟨⟨c0, c1, c2, c3, c4, c5⟩, hf⟩ := six h
  clear h
  unfold refusesP
  cases hd : d.down
  · rw [hd] at c4
    by_cases h0 : at_ < 0
    · have e0 : decide (at_ < 0) = true := by simpa using h0
      go_enter Tryd.func38, Tryd.ntmps38
      go_wp2
      go_ret
      exact ⟨by simp, rfl⟩
    · have e0 : decide (at_ < 0) = false := by simpa using h0
      by_cases h1 : d.pages ≤ at_
      · go_enter Tryd.func38, Tryd.ntmps38
        go_wp2
        go_ret
        exact ⟨by simp, rfl⟩
      · have e1 : decide (d.pages ≤ at_) = false := by simpa using h1
        go_enter Tryd.func38, Tryd.ntmps38
        go_wp2
        go_ret
        exact ⟨by simp, rfl⟩
  · rw [hd] at c4
    go_enter Tryd.func38, Tryd.ntmps38
    go_wp2
    go_ret
    exact ⟨rfl, rfl⟩

set_option maxHeartbeats 1000000 in
theorem burns_any {w : World} {g m : Nat} {wv : Value} (d : Dev) (h : w.heap[g]? = some (.cells #[.int .i64 d.pages, .map (some m), wv, .int .i64 d.fuse, .bool d.down, .int .i64 d.done] 68 (0, 0))) (h0 : 0 ≤ d.done) (h1 : d.done ≤ 1000)
    (f0 : -9223372036854775808 ≤ d.fuse) (f1 : d.fuse ≤ 9223372036854775807) :
    Calls Tryd.prog 54 #[.pointer (some ⟨g, 0, none⟩)] w fun e w' => e = .returned (.bool (burnsP d).down) ∧ w.grownBy w' (some g) ∧
      w'.heap[g]? = some (.cells #[.int .i64 d.pages, .map (some m), wv, .int .i64 (burnsP d).fuse, .bool (burnsP d).down, .int .i64 (burnsP d).done] 68 (0, 0)) := by
  obtain ⟨⟨c0, c1, c2, c3, c4, c5⟩, hf⟩ := six h
  have H : Hid (w.heap[g]? = some (.cells #[.int .i64 d.pages, .map (some m), wv, .int .i64 d.fuse, .bool d.down, .int .i64 d.done] 68 (0, 0))) := h
  clear h
  unfold burnsP
  by_cases hp : 0 < d.fuse
  · have hb : (d.fuse == 0) = false := by simp; omega
    go_enter Tryd.func54, Tryd.ntmps54
    go_wp2
    go_ret
    have k1 := setCell_heap (o := 5) H.out (.int .i64 (d.done + 1))
    have k2 := setCell_heap (o := 4) k1 (.bool false)
    have k3 := setCell_heap (o := 3) k2 (.int .i64 (d.fuse - 1))
    refine ⟨rfl, grown_trans (grown_trans (setCell_grown H.out _) (setCell_grown k1 _)) (setCell_grown k2 _), ?_⟩
    simpa [hb, hp] using k3
  · by_cases hz : d.fuse = 0
    · have hb : (d.fuse == 0) = true := by simp; omega
      have hq : decide (0 < d.fuse) = false := by simpa using hp
      go_enter Tryd.func54, Tryd.ntmps54
      go_wp2
      go_ret
      have k1 := setCell_heap (o := 5) H.out (.int .i64 (d.done + 1))
      have k2 := setCell_heap (o := 4) k1 (.bool true)
      refine ⟨rfl, (grown_trans (setCell_grown H.out _) (setCell_grown k1 _)), ?_⟩
      simpa [hb, hp, hz] using k2
    · have hb : (d.fuse == 0) = false := by simpa using hz
      have hq : decide (0 < d.fuse) = false := by simpa using hp
      go_enter Tryd.func54, Tryd.ntmps54
      go_wp2
      go_ret
      have k1 := setCell_heap (o := 5) H.out (.int .i64 (d.done + 1))
      have k2 := setCell_heap (o := 4) k1 (.bool false)
      refine ⟨rfl, (grown_trans (setCell_grown H.out _) (setCell_grown k1 _)), ?_⟩
      simpa [hb, hp, hz] using k2

theorem fuse_any {w : World} {g m : Nat} {wv : Value} (d : Dev) (n : Int) (h : w.heap[g]? = some (.cells #[.int .i64 d.pages, .map (some m), wv, .int .i64 d.fuse, .bool d.down, .int .i64 d.done] 68 (0, 0))) :
    Calls Tryd.prog 31 #[.pointer (some ⟨g, 0, none⟩), .int .i64 n] w fun e w' => e = .returned (.tuple #[]) ∧ w.grownBy w' (some g) ∧
      w'.heap[g]? = some (.cells #[.int .i64 d.pages, .map (some m), wv, .int .i64 n, .bool d.down, .int .i64 d.done] 68 (0, 0)) := by
  obtain ⟨⟨c0, c1, c2, c3, c4, c5⟩, hf⟩ := six h
  have H : Hid (w.heap[g]? = some (.cells #[.int .i64 d.pages, .map (some m), wv, .int .i64 d.fuse, .bool d.down, .int .i64 d.done] 68 (0, 0))) := h
  clear h
  go_enter Tryd.func31, Tryd.ntmps31
  go_wp2
  go_end0
  exact ⟨rfl, setCell_grown H.out _, by simpa using setCell_heap (o := 3) H.out (.int .i64 n)⟩

theorem down_any {w : World} {g m : Nat} {wv : Value} (d : Dev) (h : w.heap[g]? = some (.cells #[.int .i64 d.pages, .map (some m), wv, .int .i64 d.fuse, .bool d.down, .int .i64 d.done] 68 (0, 0))) :
    Calls Tryd.prog 40 #[.pointer (some ⟨g, 0, none⟩)] w fun e w' => e = .returned (.bool d.down) ∧ w' = w := by
  obtain ⟨⟨c0, c1, c2, c3, c4, c5⟩, hf⟩ := six h
  clear h
  go_enter Tryd.func40, Tryd.ntmps40
  go_wp2
  go_ret
  exact ⟨rfl, rfl⟩
end Go.Proofs.YtkbfihnoohhojaaDoor.Fla
