/-
  Changes built, and laid into a row of their own.
-/
import Derived.Test.YtkbfihnoohhojaaGreatDoorQFMem
import Derived.Deep.WholeRow
import Derived.Laws.StructEq
import Derived.Laws.CopyRow
namespace Go.Proofs.YtkbfihnoohhojaaGreatDoor.Fla
open Go.RowKit

section
variable {ops : Array Oper} {rest : List Oper} {op : Oper} {a : Act} {w : World} {Q : Exit → Act → World → Prop}

theorem ld79 (hgd : op.guard = none) (x : Operand) (ho : op.op = .load 99 x) (b o : Nat) (hx : a.eval x = .pointer (some ⟨b, o, none⟩)) (p : List Nat) (hp : p.length = 256) (hc : w.rangeAt b o (U p))
    (h : wpList Tryz.prog ops Q rest (a.put op.dst (.agg (pgV p))) w) : wpList Tryz.prog ops Q (op :: rest) a w :=
  wpList_load_mid hgd 99 x ho b o hx (U p) _ hc Tryz.underlying99 rfl (by rw [U_length, hp]; exact Tryz.size79) h

theorem ld81 (hgd : op.guard = none) (x : Operand) (ho : op.op = .load 101 x) (b o : Nat) (hx : a.eval x = .pointer (some ⟨b, o, none⟩)) (c : Chg) (hp : c.p.length = 256) (hc : w.rangeAt b o (chgL c))
    (h : wpList Tryz.prog ops Q rest (a.put op.dst (.agg (chgV c))) w) : wpList Tryz.prog ops Q (op :: rest) a w :=
  wpList_load_mid hgd 101 x ho b o hx (chgL c) _ hc Tryz.underlying101 rfl (by rw [chgL_length, hp]; exact Tryz.size81) h

set_option maxRecDepth 10000 in
theorem st_new (w0 : World) (t : TypeId) (n : Nat) (hsz : (Tryz.prog.info? t).map (·.size) = some n) (hgd : op.guard = none) (x y : Operand) (ho : op.op = .store t x y) (b : Nat) (hx : a.eval x = .pointer (some ⟨b, 0, none⟩)) (hb : b = w0.heap.size)
    (c c' : Array Value) (hw : w = w0.alloc (.cells c t)) (hy : a.eval y = .agg c') (hn : c.size = n) (hn' : c'.size = n) (h1 : ∀ u ∈ c'.toList, u.oneCell' = true)
    (h : wpList Tryz.prog ops Q rest (a.put op.dst undef) (w0.alloc (.cells c' t))) : wpList Tryz.prog ops Q (op :: rest) a w := by
  subst hw hb
  refine wpList_plain hgd fun K hK => ?_
  unfold Oper.wp execOp
  have h2 : c'.all (·.oneCell') = true := Array.all_eq_true_iff_forall_mem.2 (fun v hv => h1 v (by simpa using hv))
  simp only [ho, hx, hy, Sem.run_bind, run_storeAt_new w0 t c c' (by rw [hsz, hn']) (by rw [hn, hn']) h2, Result.andThen_ok, Sem.run_pure]
  exact hK _ _ h

theorem st79 (w0 : World) (hgd : op.guard = none) (x y : Operand) (ho : op.op = .store 99 x y) (b : Nat) (hx : a.eval x = .pointer (some ⟨b, 0, none⟩)) (hb : b = w0.heap.size)
    (p q : List Nat) (hw : w = w0.alloc (.cells (pgV q) 99)) (hy : a.eval y = .agg (pgV p)) (hq : q.length = 256) (hp : p.length = 256)
    (h : wpList Tryz.prog ops Q rest (a.put op.dst undef) (w0.alloc (.cells (pgV p) 99))) : wpList Tryz.prog ops Q (op :: rest) a w :=
  st_new w0 99 256 Tryz.size79 hgd x y ho b hx hb _ _ hw hy (by rw [pgV_size, hq]) (by rw [pgV_size, hp]) (by rw [pgV_toList]; exact U_one p) h

theorem st81 (w0 : World) (hgd : op.guard = none) (x y : Operand) (ho : op.op = .store 101 x y) (b : Nat) (hx : a.eval x = .pointer (some ⟨b, 0, none⟩)) (hb : b = w0.heap.size)
    (c q : Chg) (hw : w = w0.alloc (.cells (chgV q) 101)) (hy : a.eval y = .agg (chgV c)) (hq : q.p.length = 256) (hp : c.p.length = 256)
    (h : wpList Tryz.prog ops Q rest (a.put op.dst undef) (w0.alloc (.cells (chgV c) 101))) : wpList Tryz.prog ops Q (op :: rest) a w :=
  st_new w0 101 258 Tryz.size81 hgd x y ho b hx hb _ _ hw hy (by rw [chgV_size, hq]) (by rw [chgV_size, hp]) (by simpa [chgV] using chgL_one c) h

set_option maxRecDepth 10000 in
/-- A page of noughts, built. -/
theorem bd79 (hgd : op.guard = none) (ho : op.op = .build 99 #[]) (h : wpList Tryz.prog ops Q rest (a.put op.dst (.agg (pgV zeros))) w) : wpList Tryz.prog ops Q (op :: rest) a w := by
  refine wpList_plain hgd fun K hK => ?_
  have hr : (Instr.build 99 #[]).run Tryz.prog w = .ok (.agg (pgV zeros)) w := by
    simp only [Instr.build, Sem.run_bind, Tryz.zero99 w, Result.andThen_ok, run_underlying Tryz.underlying99 w]
    simp [Instr.fill, Value.cells, sizeOf, typeInfo, Result.andThen]
    obtain ⟨i, h1, h2, h3, h4⟩ := info_of Tryz.info5m
    simp [h1]
  unfold Oper.wp execOp
  simp only [ho, List.map_toArray, List.map_nil, Sem.run_bind, hr, Result.andThen_ok, Sem.run_pure]
  exact hK _ _ h
end

theorem range_alloc (w : World) (cs : Array Value) (t : TypeId) : (w.alloc (.cells cs t)).rangeAt w.heap.size 0 cs.toList := by
  intro j v hv
  simp at hv ⊢
  exact hv

/-- A result that is a page. -/
theorem res79 (w : World) (b : Nat) (p : List Nat) (hp : p.length = 256) (hc : w.rangeAt b 0 (U p)) : (loadVar 99 ⟨b, 0, none⟩).run Tryz.prog w = .ok (.agg (pgV p)) w :=
  run_loadVar_mid w b 0 99 (U p) _ hc Tryz.underlying99 rfl (by rw [U_length, hp]; exact Tryz.size79)

theorem all_range (xs ys : List Nat) (h : xs.length = ys.length) : ((List.range xs.length).all fun i => xs.getD i 0 == ys.getD i 0) = decide (xs = ys) := by
  rw [Bool.eq_iff_iff]
  simp only [List.all_eq_true, List.mem_range, beq_iff_eq, decide_eq_true_eq]
  constructor
  · intro h1
    apply List.ext_getElem h
    intro i h2 h3
    have := h1 i h2
    simpa [List.getD, List.getElem?_eq_getElem h2, List.getElem?_eq_getElem h3] using this
  · rintro rfl i _
    rfl

set_option maxRecDepth 10000 in
theorem eq79 (w : World) (xs ys : List Nat) (hx : xs.length = 256) (hy : ys.length = 256) :
    (Op.equalIn 10000 99 (.agg (pgV xs)) (.agg (pgV ys))).run Tryz.prog w = .ok (decide (xs = ys)) w := by
  obtain ⟨ii, hi1, _, hi2, _⟩ := info_of Tryz.info5m
  have hsz : ∀ w, (sizeOf 5).run Tryz.prog w = .ok 1 w := fun w => by simp [sizeOf, typeInfo, hi1, hi2]
  rw [← all_range xs ys (hx.trans hy.symm), hx, List.range_eq_range', show (10000 : Nat) = 9999 + 1 from rfl, Op.equalIn]
  simp only [Sem.run_bind, run_underlying Tryz.underlying99, Result.andThen_ok, hsz, Std.Legacy.Range.forIn_eq_forIn_range', Std.Legacy.Range.size, Nat.sub_zero, Nat.add_sub_cancel, Nat.div_one]
  have hl : ∀ i ∈ List.range' 0 256 1, i < 256 := fun i hi => by simpa using (List.mem_range'_1.1 hi).2
  generalize List.range' 0 256 1 = l at hl ⊢
  induction l with
  | nil => simp
  | cons i l ih =>
    have hi : i < 256 := hl i (by simp)
    have px : ∀ zs : List Nat, zs.length = 256 → (part 5 (pgV zs) (i * 1)).run Tryz.prog w = .ok (.int .u8 (zs.getD i 0 : Nat)) w := fun zs hz => by
      simp [part, isAgg, run_underlying Tryz.underlying5, List.getD, pgV, U, List.getElem?_eq_getElem (show i < zs.length by omega)]
    have pe : (Op.equalIn 9999 5 (.int .u8 (xs.getD i 0 : Nat)) (.int .u8 (ys.getD i 0 : Nat))).run Tryz.prog w = .ok (xs.getD i 0 == ys.getD i 0) w := by
      rw [show (9999 : Nat) = 9998 + 1 from rfl, run_equalIn_int w 9998 5 .u8 .u8 _ _ Tryz.underlying5]
      congr 1
      rw [Bool.eq_iff_iff]
      simp
      omega
    simp only [List.forIn_cons, Sem.run_bind, px xs hx, px ys hy, pe, Result.andThen_ok, List.all_cons]
    cases hb : (xs.getD i 0 == ys.getD i 0)
    · simp
    · simp only [Bool.not_true, Bool.false_eq_true, if_false, Sem.run_pure, Result.andThen_ok, Bool.true_and]
      exact ih fun j hj => hl j (by simp [hj])
end Go.Proofs.YtkbfihnoohhojaaGreatDoor.Fla

namespace Go.Proofs.YtkbfihnoohhojaaGreatDoor.Fla
open Go.RowKit
set_option maxRecDepth 10000 in
theorem sl79 (a : Addr) (k : Nat) (hk : k ≤ 256) (w : World) : (Instr.sliceAt 99 (.pointer (some a)) none (some (.int .i64 (k : Int))) none).run Tryz.prog w = .ok (.slice (some a) k 256) w := by
  obtain ⟨ii, hi1, _, _, _⟩ := info_of Tryz.info5m
  have h2 : (k : Int) ≤ 256 := by omega
  simp [Instr.sliceAt, run_underlying Tryz.underlying99, Instr.sureAddr, Instr.sliceBounds, go_sem, Result.andThen, sizeOf, typeInfo, hi1, h2, Addr.add]
set_option maxRecDepth 10000 in
theorem sl79all (a : Addr) (w : World) : (Instr.sliceAt 99 (.pointer (some a)) none none none).run Tryz.prog w = .ok (.slice (some a) 256 256) w := by
  obtain ⟨ii, hi1, _, _, _⟩ := info_of Tryz.info5m
  simp [Instr.sliceAt, run_underlying Tryz.underlying99, Instr.sureAddr, Instr.sliceBounds, go_sem, Result.andThen, sizeOf, typeInfo, hi1, Addr.add]
end Go.Proofs.YtkbfihnoohhojaaGreatDoor.Fla

namespace Go.Proofs.YtkbfihnoohhojaaGreatDoor.Fla
open Go.RowKit

theorem grown_setRow (w : World) (g : Nat) (cs : Array Value) : w.grownBy (w.setRow g cs) (some g) :=
  ⟨rfl, rfl, rfl, by simp [World.setRow], fun k _ hk => setRow_other w g k cs (by intro e; exact hk (by rw [e]))⟩
theorem grown_refl (w : World) (r : Option Nat) : w.grownBy w r := ⟨rfl, rfl, rfl, Nat.le_refl _, fun _ _ _ => rfl⟩
theorem grown_trans {w w1 w2 : World} {r : Option Nat} (h : w.grownBy w1 r) (k : w1.grownBy w2 r) : w.grownBy w2 r :=
  ⟨k.os.trans h.os, k.tape.trans h.tape, k.output.trans h.output, Nat.le_trans h.size k.size, fun i hi hr => (k.block i (Nat.lt_of_lt_of_le hi h.size) hr).trans (h.block i hi hr)⟩
theorem heap_grown {w w' : World} {r : Option Nat} {b : Nat} {o : Obj} (h : w.heap[b]? = some o) (hg : w.grownBy w' r) (hr : some b ≠ r) : w'.heap[b]? = some o := by
  rw [hg.block b (Array.getElem?_eq_some_iff.1 h).1 hr]; exact h
theorem grown_below {w w' : World} {b B : Nat} (h : w.grownBy w' (some b)) (hB : B ≤ b) (hs : B ≤ w.heap.size) : Below B w w' :=
  ⟨h.os, h.tape, h.output, h.size, fun k hk => h.block k (by omega) (by intro e; cases e; omega)⟩

section
variable {ops : Array Oper} {rest : List Oper} {op : Oper} {a : Act} {w : World} {Q : Exit → Act → World → Prop}
set_option maxRecDepth 10000 in
theorem stB (t : TypeId) (n : Nat) (hsz : (Tryz.prog.info? t).map (·.size) = some n) (hgd : op.guard = none) (x y : Operand) (ho : op.op = .store t x y) (b : Nat) (hx : a.eval x = .pointer (some ⟨b, 0, none⟩))
    (c c' : Array Value) (hw : w.heap[b]? = some (.cells c t (0, 0))) (hy : a.eval y = .agg c') (hn : c.size = n) (hn' : c'.size = n) (h1 : ∀ u ∈ c'.toList, u.oneCell' = true)
    (h : ∀ w', w'.heap[b]? = some (.cells c' t (0, 0)) → w.grownBy w' (some b) → wpList Tryz.prog ops Q rest (a.put op.dst undef) w') : wpList Tryz.prog ops Q (op :: rest) a w := by
  refine wpList_plain hgd fun K hK => ?_
  have h2 : c'.all (·.oneCell') = true := Array.all_eq_true_iff_forall_mem.2 (fun v hv => h1 v (by simpa using hv))
  have hr : (Instr.storeAt t (.pointer (some ⟨b, 0, none⟩)) (.agg c')).run Tryz.prog w = .ok () (w.setRow b c') := by
    simp only [Instr.storeAt, Instr.sureAddr, Sem.run_bind, Sem.run_pure, Result.andThen]
    exact run_storeVar_row _ _ t t c c' hw (by rw [hsz, hn']) (by rw [hn, hn']) h2
  unfold Oper.wp execOp
  simp only [ho, hx, hy, Sem.run_bind, hr, Result.andThen_ok, Sem.run_pure]
  exact hK _ _ (h _ (setRow_heap w b c c' t (0, 0) hw) (grown_setRow w b c'))
/-- A page into a block. -/
theorem stB79 (hgd : op.guard = none) (x y : Operand) (ho : op.op = .store 99 x y) (b : Nat) (hx : a.eval x = .pointer (some ⟨b, 0, none⟩))
    (p q : List Nat) (hw : w.heap[b]? = some (.cells (pgV q) 99 (0, 0))) (hy : a.eval y = .agg (pgV p)) (hq : q.length = 256) (hp : p.length = 256)
    (h : ∀ w', w'.heap[b]? = some (.cells (pgV p) 99 (0, 0)) → w.grownBy w' (some b) → wpList Tryz.prog ops Q rest (a.put op.dst undef) w') : wpList Tryz.prog ops Q (op :: rest) a w :=
  stB 99 256 Tryz.size79 hgd x y ho b hx _ _ hw hy (by rw [pgV_size, hq]) (by rw [pgV_size, hp]) (by rw [pgV_toList]; exact U_one p) h
theorem stB81 (hgd : op.guard = none) (x y : Operand) (ho : op.op = .store 101 x y) (b : Nat) (hx : a.eval x = .pointer (some ⟨b, 0, none⟩))
    (p q : Chg) (hw : w.heap[b]? = some (.cells (chgV q) 101 (0, 0))) (hy : a.eval y = .agg (chgV p)) (hq : q.p.length = 256) (hp : p.p.length = 256)
    (h : ∀ w', w'.heap[b]? = some (.cells (chgV p) 101 (0, 0)) → w.grownBy w' (some b) → wpList Tryz.prog ops Q rest (a.put op.dst undef) w') : wpList Tryz.prog ops Q (op :: rest) a w :=
  stB 101 258 Tryz.size81 hgd x y ho b hx _ _ hw hy (by rw [chgV_size, hq]) (by rw [chgV_size, hp]) (by simpa [chgV] using chgL_one p) h

theorem range_block {b : Nat} {c : Array Value} {t : TypeId} {fr : Nat × Nat} (hw : w.heap[b]? = some (.cells c t fr)) : w.rangeAt b 0 c.toList := by
  intro j v hv
  simp at hv
  simp [World.cell?, hw, hv]
theorem ldB79 (hgd : op.guard = none) (x : Operand) (ho : op.op = .load 99 x) (b : Nat) (hx : a.eval x = .pointer (some ⟨b, 0, none⟩)) (p : List Nat) (hp : p.length = 256) (t : TypeId) (fr : Nat × Nat) (hc : w.heap[b]? = some (.cells (pgV p) t fr))
    (h : wpList Tryz.prog ops Q rest (a.put op.dst (.agg (pgV p))) w) : wpList Tryz.prog ops Q (op :: rest) a w :=
  ld79 hgd x ho b 0 hx p hp (by simpa [pgV_toList] using range_block hc) h
theorem ldB81 (hgd : op.guard = none) (x : Operand) (ho : op.op = .load 101 x) (b : Nat) (hx : a.eval x = .pointer (some ⟨b, 0, none⟩)) (c : Chg) (hp : c.p.length = 256) (t : TypeId) (fr : Nat × Nat) (hc : w.heap[b]? = some (.cells (chgV c) t fr))
    (h : wpList Tryz.prog ops Q rest (a.put op.dst (.agg (chgV c))) w) : wpList Tryz.prog ops Q (op :: rest) a w :=
  ld81 hgd x ho b 0 hx c hp (by simpa [chgV] using range_block hc) h
theorem resB79 (b : Nat) (p : List Nat) (hp : p.length = 256) (t : TypeId) (fr : Nat × Nat) (hc : w.heap[b]? = some (.cells (pgV p) t fr)) : (loadVar 99 ⟨b, 0, none⟩).run Tryz.prog w = .ok (.agg (pgV p)) w :=
  res79 w b p hp (by simpa [pgV_toList] using range_block hc)
end

theorem step_copy_g {P : Program} {ops : Array Oper} {o : Oper} {a : Act} {w : World} {K : Act → World → Prop} {Q : Exit → Act → World → Prop} {E : Prop} (hgd : o.guard = none) (d s : Operand) (dT sT : TypeId)
    (ho : o.op = .call { callee := .builtin .copy, args := #[d, s], argTypes := #[dT, sT] }) (elem : TypeId) (hu : P.underlying dT = some (.slice elem)) (hsz : (P.info? elem).map (·.size) = some 1)
    (ad : Addr) (dLen dCap sLen sCap : Nat) (g off : Nat) (hd : a.eval d = .slice (some ⟨g, off, none⟩) dLen dCap) (hs : a.eval s = .slice (some ad) sLen sCap)
    (cur : List Value) (t : TypeId) (hg : w.heap[g]? = some (.cells cur.toArray t (0, 0))) (cs : List Value) (hn : cs.length = Nat.min sLen dLen)
    (hsrc : ∀ j v, cs[j]? = some v → w.cell? (ad.add j) = some v)
    (hfit : off + cs.length ≤ cur.length) (h1 : ∀ v ∈ cs, v.oneCell' = true)
    (h : ∀ w', w'.heap[g]? = some (.cells (splice cur off cs).toArray t (0, 0)) → w.grownBy w' (some g) → K (a.put o.dst (goInt cs.length)) w') :
    if Region.wanted o (yielded ops a.tmps) = true then Oper.wp P o a w K Q else E := by
  have hw : Region.wanted o (yielded ops a.tmps) = true := by simp [Region.wanted, hgd]
  rw [if_pos hw]
  have hrun := run_copy_row (P := P) w dT sT o.type elem g off dLen dCap ad sLen sCap cur.toArray t cs hu hsz hg hn hsrc (by simpa using hfit) h1
  unfold Oper.wp
  simp [execOp, ho, resolve, invoke, builtin, hd, hs, hrun, Result.andThen]
  exact h _ (show _ = _ by simpa [splice] using setRow_heap w g _ _ t _ hg) (grown_setRow _ _ _)
end Go.Proofs.YtkbfihnoohhojaaGreatDoor.Fla

namespace Go.Proofs.YtkbfihnoohhojaaGreatDoor.Fla
open Go.RowKit

theorem six {w : World} {g : Nat} {x0 x1 x2 x3 x4 x5 : Value} (h : w.heap[g]? = some (.cells #[x0, x1, x2, x3, x4, x5] 74 (0, 0))) :
    (w.cell? ⟨g, 0, none⟩ = some x0 ∧ w.cell? ⟨g, 1, none⟩ = some x1 ∧ w.cell? ⟨g, 2, none⟩ = some x2 ∧ w.cell? ⟨g, 3, none⟩ = some x3 ∧ w.cell? ⟨g, 4, none⟩ = some x4 ∧ w.cell? ⟨g, 5, none⟩ = some x5) ∧
    ∀ o, w.frozen? ⟨g, o, none⟩ = false := by
  refine ⟨⟨?_, ?_, ?_, ?_, ?_, ?_⟩, ?_⟩ <;> simp [World.cell?, World.frozen?, h]
theorem setCell_heap {w : World} {g o : Nat} {cs : Array Value} {t : TypeId} {fr : Nat × Nat} (h : w.heap[g]? = some (.cells cs t fr)) (v : Value) : (w.setCell ⟨g, o, none⟩ v).heap[g]? = some (.cells (cs.setIfInBounds o v) t fr) := by
  rw [setCell_eq_setRow w g o cs t fr v h]
  exact setRow_heap w g cs _ t fr h
theorem setCell_grown {w : World} {g o : Nat} {cs : Array Value} {t : TypeId} {fr : Nat × Nat} (h : w.heap[g]? = some (.cells cs t fr)) (v : Value) : w.grownBy (w.setCell ⟨g, o, none⟩ v) (some g) := by
  rw [setCell_eq_setRow w g o cs t fr v h]
  exact grown_setRow w g _

/-- A device's block. -/
abbrev devC (pages : Int) (m : Nat) (wv : Value) (fuse : Int) (down : Bool) (done : Int) : Array Value := #[.int .i64 pages, .map (some m), wv, .int .i64 fuse, .bool down, .int .i64 done]

set_option maxHeartbeats 1000000 in
theorem refuses_any {w : World} {g m : Nat} {wv : Value} (d : Dev) (at_ : Int) (h : w.heap[g]? = some (.cells #[.int .i64 d.pages, .map (some m), wv, .int .i64 d.fuse, .bool d.down, .int .i64 d.done] 74 (0, 0))) :
    Calls Tryz.prog 49 #[.pointer (some ⟨g, 0, none⟩), .int .i64 at_] w fun e w' => e = .returned (.int .i64 (refusesP d at_)) ∧ w' = w := by
  obtain ⟨⟨c0, c1, c2, c3, c4, c5⟩, hf⟩ := six h
  clear h
  unfold refusesP
  cases hd : d.down
  · rw [hd] at c4
    by_cases h0 : at_ < 0
    · have e0 : decide (at_ < 0) = true := by simpa using h0
      go_enter Tryz.func49, Tryz.ntmps49
      go_wp2
      go_ret
      exact ⟨by simp, rfl⟩
    · have e0 : decide (at_ < 0) = false := by simpa using h0
      by_cases h1 : d.pages ≤ at_
      · go_enter Tryz.func49, Tryz.ntmps49
        go_wp2
        go_ret
        exact ⟨by simp, rfl⟩
      · have e1 : decide (d.pages ≤ at_) = false := by simpa using h1
        go_enter Tryz.func49, Tryz.ntmps49
        go_wp2
        go_ret
        exact ⟨by simp, rfl⟩
  · rw [hd] at c4
    go_enter Tryz.func49, Tryz.ntmps49
    go_wp2
    go_ret
    exact ⟨rfl, rfl⟩

set_option maxHeartbeats 1000000 in
theorem burns_any {w : World} {g m : Nat} {wv : Value} (d : Dev) (h : w.heap[g]? = some (.cells #[.int .i64 d.pages, .map (some m), wv, .int .i64 d.fuse, .bool d.down, .int .i64 d.done] 74 (0, 0))) (h0 : 0 ≤ d.done) (h1 : d.done ≤ 1000)
    (f0 : -9223372036854775808 ≤ d.fuse) (f1 : d.fuse ≤ 9223372036854775807) :
    Calls Tryz.prog 45 #[.pointer (some ⟨g, 0, none⟩)] w fun e w' => e = .returned (.bool (burnsP d).down) ∧ w.grownBy w' (some g) ∧
      w'.heap[g]? = some (.cells #[.int .i64 d.pages, .map (some m), wv, .int .i64 (burnsP d).fuse, .bool (burnsP d).down, .int .i64 (burnsP d).done] 74 (0, 0)) := by
  obtain ⟨⟨c0, c1, c2, c3, c4, c5⟩, hf⟩ := six h
  have H : Hid (w.heap[g]? = some (.cells #[.int .i64 d.pages, .map (some m), wv, .int .i64 d.fuse, .bool d.down, .int .i64 d.done] 74 (0, 0))) := h
  clear h
  unfold burnsP
  by_cases hp : 0 < d.fuse
  · have hb : (d.fuse == 0) = false := by simp; omega
    go_enter Tryz.func45, Tryz.ntmps45
    go_wp2
    go_ret
    have k1 := setCell_heap (o := 5) H.out (.int .i64 (d.done + 1))
    have k2 := setCell_heap (o := 4) k1 (.bool false)
    have k3 := setCell_heap (o := 3) k2 (.int .i64 (d.fuse - 1))
    refine ⟨rfl, grown_trans (grown_trans (setCell_grown H.out _) (setCell_grown k1 _)) (setCell_grown k2 _), ?_⟩
    simpa [hb, hp] using k3
  · by_cases hz : d.fuse = 0
    · have hb : (d.fuse == 0) = true := by simp; omega
      have hq : decide (0 < d.fuse) = false := by simpa using hp
      go_enter Tryz.func45, Tryz.ntmps45
      go_wp2
      go_ret
      have k1 := setCell_heap (o := 5) H.out (.int .i64 (d.done + 1))
      have k2 := setCell_heap (o := 4) k1 (.bool true)
      refine ⟨rfl, (grown_trans (setCell_grown H.out _) (setCell_grown k1 _)), ?_⟩
      simpa [hb, hp, hz] using k2
    · have hb : (d.fuse == 0) = false := by simpa using hz
      have hq : decide (0 < d.fuse) = false := by simpa using hp
      go_enter Tryz.func45, Tryz.ntmps45
      go_wp2
      go_ret
      have k1 := setCell_heap (o := 5) H.out (.int .i64 (d.done + 1))
      have k2 := setCell_heap (o := 4) k1 (.bool false)
      refine ⟨rfl, (grown_trans (setCell_grown H.out _) (setCell_grown k1 _)), ?_⟩
      simpa [hb, hp, hz] using k2

theorem fuse_any {w : World} {g m : Nat} {wv : Value} (d : Dev) (n : Int) (h : w.heap[g]? = some (.cells #[.int .i64 d.pages, .map (some m), wv, .int .i64 d.fuse, .bool d.down, .int .i64 d.done] 74 (0, 0))) :
    Calls Tryz.prog 21 #[.pointer (some ⟨g, 0, none⟩), .int .i64 n] w fun e w' => e = .returned (.tuple #[]) ∧ w.grownBy w' (some g) ∧
      w'.heap[g]? = some (.cells #[.int .i64 d.pages, .map (some m), wv, .int .i64 n, .bool d.down, .int .i64 d.done] 74 (0, 0)) := by
  obtain ⟨⟨c0, c1, c2, c3, c4, c5⟩, hf⟩ := six h
  have H : Hid (w.heap[g]? = some (.cells #[.int .i64 d.pages, .map (some m), wv, .int .i64 d.fuse, .bool d.down, .int .i64 d.done] 74 (0, 0))) := h
  clear h
  go_enter Tryz.func21, Tryz.ntmps21
  go_wp2
  go_end0
  exact ⟨rfl, setCell_grown H.out _, by simpa using setCell_heap (o := 3) H.out (.int .i64 n)⟩

theorem down_any {w : World} {g m : Nat} {wv : Value} (d : Dev) (h : w.heap[g]? = some (.cells #[.int .i64 d.pages, .map (some m), wv, .int .i64 d.fuse, .bool d.down, .int .i64 d.done] 74 (0, 0))) :
    Calls Tryz.prog 30 #[.pointer (some ⟨g, 0, none⟩)] w fun e w' => e = .returned (.bool d.down) ∧ w' = w := by
  obtain ⟨⟨c0, c1, c2, c3, c4, c5⟩, hf⟩ := six h
  clear h
  go_enter Tryz.func30, Tryz.ntmps30
  go_wp2
  go_ret
  exact ⟨rfl, rfl⟩
end Go.Proofs.YtkbfihnoohhojaaGreatDoor.Fla

namespace Go.Proofs.YtkbfihnoohhojaaGreatDoor.Fla
open Go.RowKit

theorem foldl_set (vs : List Value) (off s : Nat) (cells : Array Value) (h : off + s + vs.length ≤ cells.size) :
    ((vs.zipIdx s).foldl (fun (cs : Array Value) (p : Value × Nat) => cs.setIfInBounds (off + p.2) p.1) cells).toList = cells.toList.take (off + s) ++ vs ++ cells.toList.drop (off + s + vs.length) := by
  induction vs generalizing s cells with
  | nil => simp
  | cons v r ih =>
    simp only [List.zipIdx_cons, List.foldl_cons]
    simp only [List.length_cons] at h
    rw [ih (s + 1) _ (by simp; omega), Array.toList_setIfInBounds]
    have := list_seg_step cells.toList (off + s) v r (by simpa using (by omega : off + s + (r.length + 1) ≤ cells.size))
    simpa [Nat.add_assoc] using this
theorem fill_put (v : Array Value) (off : Nat) (cells : Array Value) (h : off + v.size ≤ cells.size) :
    (v.zipIdx.foldl (fun (cs : Array Value) (p : Value × Nat) => cs.setIfInBounds (off + p.2) p.1) cells) = (cells.toList.take off ++ v.toList ++ cells.toList.drop (off + v.size)).toArray := by
  apply Array.ext'
  have := foldl_set v.toList off 0 cells (by simpa using h)
  rw [← Array.foldl_toList, Array.toList_zipIdx]
  simpa using this

theorem fill_cons {place : Nat → Option (Nat × Nat)} {cells : Array Value} {i off size : Nat} {v : Value} {rest : List (Nat × Value)} (hp : place i = some (off, size)) (hs : v.cells.size = size) (hl : off + size ≤ cells.size) :
    Instr.fill place cells ((i, v) :: rest) = Instr.fill place (cells.toList.take off ++ v.cells.toList ++ cells.toList.drop (off + size)).toArray rest := by
  subst hs
  rw [Instr.fill, hp]
  have hc : (decide (v.cells.size ≠ v.cells.size) || decide (off + v.cells.size > cells.size)) = false := by simp; omega
  simp only [hc, Bool.false_eq_true, if_false]
  rw [← fill_put v.cells off cells hl]

set_option maxRecDepth 10000 in
theorem bs63 (w : World) (c : Chg) (hc : c.p.length = 256) : (Instr.buildSlice 72 1 #[(0, .agg (chgV c))]).run Tryz.prog w = .ok (.slice (some ⟨w.heap.size, 0, none⟩) 1 1) (w.alloc (.cells (chgV c) 101)) := by
  obtain ⟨i, h1, h2, h3, h4⟩ := info_of Tryz.info81m
  have hz := Tryz.zero101
  have hsz : ∀ w, (sizeOf 101).run Tryz.prog w = .ok 258 w := fun w => by simp [sizeOf, typeInfo, h1, h3]
  have hf : ∀ Z : Array Value, Z.size = 258 → Instr.fill (fun i => some (i * 258, 258)) Z [(0, .agg (chgV c))] = some (chgV c) := by
    intro Z hZ
    rw [fill_cons (off := 0) (size := 258) rfl (by simp [Value.cells, chgV_size, hc]) (by omega), Instr.fill]
    have : Z.toList.drop 258 = [] := List.drop_eq_nil_of_le (by simp [hZ])
    simp [this, Value.cells]
  simp only [Instr.buildSlice, Sem.run_bind, run_underlying Tryz.underlying72, Result.andThen_ok, hsz]
  rw [if_neg (by decide), if_neg (by decide)]
  simp only [Sem.run_bind, hz, Result.andThen_ok, Sem.run_pure]
  rw [hf _ (by simp)]
  simp only [newRow, Sem.run_bind, Sem.run_pure]
  simp [go_sem, Result.andThen]

theorem Tryz.fields81 : (Tryz.prog.fieldsOf 101).map (fun f => (f.offset, f.type)) = #[(0, 3), (1, 4), (2, 99)] := by kernel_rfl
theorem Tryz.und81 : Tryz.prog.underlying 101 = some (.struct (Tryz.prog.fieldsOf 101)) := by kernel_rfl
theorem Tryz.info3m : (Tryz.prog.info? 3).map (fun i => (i.zero, i.size, i.bytes)) = some (some (.int .i64 0), 1, 8) := by kernel_rfl
theorem Tryz.info4m : (Tryz.prog.info? 4).map (fun i => (i.zero, i.size, i.bytes)) = some (some (.bool false), 1, 1) := by kernel_rfl
theorem size_run {t : TypeId} {z : Value} {s b : Nat} (h : (Tryz.prog.info? t).map (fun i => (i.zero, i.size, i.bytes)) = some (some z, s, b)) (w : World) : (sizeOf t).run Tryz.prog w = .ok s w := by
  obtain ⟨i, h1, h2, h3, h4⟩ := info_of h
  simp [sizeOf, typeInfo, h1, h3]
theorem places81 (w : World) : ((Tryz.prog.fieldsOf 101).mapM fun f => (do pure (f.offset, ← sizeOf f.type) : Sem (Nat × Nat))).run Tryz.prog w = .ok #[(0, 1), (1, 1), (2, 256)] w := by kernel_rfl
set_option maxRecDepth 10000 in
theorem bd81w (w : World) (k : Int) (p : List Nat) (hp : p.length = 256) : (Instr.build 101 #[(0, .int .i64 k), (2, .agg (pgV p))]).run Tryz.prog w = .ok (.agg (chgV ⟨k, false, p⟩)) w := by
  have hl : (chgV ⟨0, false, zeros⟩).size = 258 := by rw [chgV_size]; simp [zeros_length]
  have hf : Instr.fill (fun i => (#[(0, 1), (1, 1), (2, 256)] : Array (Nat × Nat))[i]?) (chgV ⟨0, false, zeros⟩) [(0, .int .i64 k), (2, .agg (pgV p))] = some (chgV ⟨k, false, p⟩) := by
    rw [fill_cons (off := 0) (size := 1) rfl rfl (by omega), fill_cons (off := 2) (size := 256) rfl (by simp [Value.cells, pgV_size, hp]) (by simp [Value.cells, hl]), Instr.fill]
    simp [chgV, chgL, Value.cells, pgV_toList]
    simp [U, zeros_length]
  simp only [Instr.build, Sem.run_bind, Tryz.zero101 w, Result.andThen_ok, run_underlying Tryz.und81 w, places81]
  rw [show (Value.agg (chgV ⟨0, false, zeros⟩)).cells = chgV ⟨0, false, zeros⟩ from rfl, hf]
  rfl
set_option maxRecDepth 10000 in
theorem bd81t (w : World) (k : Int) : (Instr.build 101 #[(0, .int .i64 k), (1, .bool true)]).run Tryz.prog w = .ok (.agg (chgV ⟨k, true, zeros⟩)) w := by
  have hl : (chgV ⟨0, false, zeros⟩).size = 258 := by rw [chgV_size]; simp [zeros_length]
  have hf : Instr.fill (fun i => (#[(0, 1), (1, 1), (2, 256)] : Array (Nat × Nat))[i]?) (chgV ⟨0, false, zeros⟩) [(0, .int .i64 k), (1, .bool true)] = some (chgV ⟨k, true, zeros⟩) := by
    rw [fill_cons (off := 0) (size := 1) rfl rfl (by omega), fill_cons (off := 1) (size := 1) rfl rfl (by simp [Value.cells, hl]), Instr.fill]
    simp [chgV, chgL, Value.cells]
  simp only [Instr.build, Sem.run_bind, Tryz.zero101 w, Result.andThen_ok, run_underlying Tryz.und81 w, places81]
  rw [show (Value.agg (chgV ⟨0, false, zeros⟩)).cells = chgV ⟨0, false, zeros⟩ from rfl, hf]
  rfl

section
variable {ops : Array Oper} {rest : List Oper} {op : Oper} {a : Act} {w : World} {Q : Exit → Act → World → Prop}
theorem wl_bd81w (hgd : op.guard = none) (x y : Operand) (ho : op.op = .build 101 #[(0, x), (2, y)]) (k : Int) (p : List Nat) (hp : p.length = 256) (hx : a.eval x = .int .i64 k) (hy : a.eval y = .agg (pgV p))
    (h : wpList Tryz.prog ops Q rest (a.put op.dst (.agg (chgV ⟨k, false, p⟩))) w) : wpList Tryz.prog ops Q (op :: rest) a w := by
  refine wpList_plain hgd fun K hK => ?_
  unfold Oper.wp execOp
  simp only [ho, List.map_toArray, List.map_cons, List.map_nil, hx, hy, Sem.run_bind, bd81w w k p hp, Result.andThen_ok, Sem.run_pure]
  exact hK _ _ h
theorem wl_bd81t (hgd : op.guard = none) (x : Operand) (ho : op.op = .build 101 #[(0, x), (1, .const (.bool true))]) (k : Int) (hx : a.eval x = .int .i64 k)
    (h : wpList Tryz.prog ops Q rest (a.put op.dst (.agg (chgV ⟨k, true, zeros⟩))) w) : wpList Tryz.prog ops Q (op :: rest) a w := by
  refine wpList_plain hgd fun K hK => ?_
  have hb : a.eval (.const (.bool true)) = .bool true := rfl
  unfold Oper.wp execOp
  simp only [ho, List.map_toArray, List.map_cons, List.map_nil, hx, hb, Sem.run_bind, bd81t w k, Result.andThen_ok, Sem.run_pure]
  exact hK _ _ h
end
/-- A change laid into a row of its own, as a step of a region that draws its order. -/
theorem step_bs63 {ops : Array Oper} {o : Oper} {a : Act} {w : World} {K : Act → World → Prop} {Q : Exit → Act → World → Prop} {E : Prop} (hgd : o.guard = none) (x : Operand) (ho : o.op = .buildSlice 72 1 #[(0, x)]) (c : Chg) (hc : c.p.length = 256) (hx : a.eval x = .agg (chgV c)) (b : Nat) (hb : w.heap.size = b)
    (h : K (a.put o.dst (.slice (some ⟨b, 0, none⟩) 1 1)) (w.alloc (.cells (chgV c) 101))) :
    if Region.wanted o (yielded ops a.tmps) = true then Oper.wp Tryz.prog o a w K Q else E := by
  have hw : Region.wanted o (yielded ops a.tmps) = true := by simp [Region.wanted, hgd]
  rw [if_pos hw]
  subst hb
  unfold Oper.wp execOp
  simp only [ho, List.map_toArray, List.map_cons, List.map_nil, hx, Sem.run_bind, bs63 w c hc, Result.andThen_ok, Sem.run_pure]
  exact h
end Go.Proofs.YtkbfihnoohhojaaGreatDoor.Fla
