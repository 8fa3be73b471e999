/-
  The program's lists in memory: an object, its links, its lengths; how single cells are read and written.
-/
import Derived.Test.YtibplphpbbajhaaDoorRing
import Derived.Test.YtibplphpbbajhaaDoorFlt
import Derived.WalkKit
import Derived.WalkSpells
import Derived.WalkLawsBesides
import Derived.Handy
import Derived.Deep.LoopGhost
import Derived.Deep.QuietTactic
import Derived.BigQuiet
import Derived.Deep.RegionWith
namespace Go.Proofs.YtibplphpbbajhaaDoor
open Go.RowKit

theorem drew_below (w : World) (n B : Nat) : Below B w (w.drewN n) := ⟨rfl, rfl, rfl, Nat.le_refl _, fun _ _ => rfl⟩

/-- Blocks g, h and l are the program's lists: K of them, n nodes, N links, in this state. -/
structure Ob (w : World) (g h l K n N : Nat) (t : St) : Prop where
  gh : g ≠ h
  gl : g ≠ l
  hl : h ≠ l
  K64 : K ≤ 64
  n40 : n ≤ 40
  eN : N = n + K + 1
  obj : w.heap[g]? = some (.cells #[.int .i64 (K : Int), .int .i64 (n : Int), .slice (some ⟨h, 0, none⟩) N N, .slice (some ⟨l, 0, none⟩) (K + 1) (K + 1), .int .i64 t.uses] 56 (0, 0))
  lnk : ∃ cur, w.heap[h]? = some (.cells cur 58 (0, 0)) ∧ ∀ i : Nat, i < N → cur[i * 4]? = some (.int .i64 (t.A (i : Int))) ∧ cur[i * 4 + 1]? = some (.int .i64 (t.B (i : Int))) ∧ cur[i * 4 + 2]? = some (.int .i64 (t.P (i : Int))) ∧ cur[i * 4 + 3]? = some (.int .i64 (t.S (i : Int)))
  lns : ∃ cur, w.heap[l]? = some (.cells cur 3 (0, 0)) ∧ ∀ k : Nat, k < K + 1 → cur[k]? = some (.int .i64 (t.len (k : Int)))

theorem Ob.cells {w : World} {g h l K n N : Nat} {t : St} (o : Ob w g h l K n N t) : (g < w.heap.size ∧ h < w.heap.size ∧ l < w.heap.size) ∧
    w.cell? ⟨g, 0, none⟩ = some (.int .i64 (K : Int)) ∧ w.cell? ⟨g, 1, none⟩ = some (.int .i64 (n : Int)) ∧ w.cell? ⟨g, 2, none⟩ = some (.slice (some ⟨h, 0, none⟩) N N) ∧ w.cell? ⟨g, 3, none⟩ = some (.slice (some ⟨l, 0, none⟩) (K + 1) (K + 1)) ∧ w.cell? ⟨g, 4, none⟩ = some (.int .i64 t.uses) ∧
    (∀ o, w.frozen? ⟨g, o, none⟩ = false) ∧ (∀ o, w.frozen? ⟨h, o, none⟩ = false) ∧ ∀ o, w.frozen? ⟨l, o, none⟩ = false := by
  obtain ⟨_, _, _, _, _, _, e1, ⟨c2, e2, _⟩, ⟨c3, e3, _⟩⟩ := o
  exact ⟨⟨lt_of_block e1, lt_of_block e2, lt_of_block e3⟩, by simp [World.cell?, e1], by simp [World.cell?, e1], by simp [World.cell?, e1], by simp [World.cell?, e1], by simp [World.cell?, e1],
    fun o => by simp [World.frozen?, e1], fun o => by simp [World.frozen?, e2], fun o => by simp [World.frozen?, e3]⟩
theorem Ob.link {w : World} {g h l K n N : Nat} {t : St} (o : Ob w g h l K n N t) {i : Nat} (hi : i < N) :
    w.cell? ⟨h, i * 4, none⟩ = some (.int .i64 (t.A (i : Int))) ∧ w.cell? ⟨h, i * 4 + 1, none⟩ = some (.int .i64 (t.B (i : Int))) ∧ w.cell? ⟨h, i * 4 + 2, none⟩ = some (.int .i64 (t.P (i : Int))) ∧ w.cell? ⟨h, i * 4 + 3, none⟩ = some (.int .i64 (t.S (i : Int))) := by
  obtain ⟨c, e, f⟩ := o.lnk
  obtain ⟨f1, f2, f3, f4⟩ := f i hi
  exact ⟨by simp [World.cell?, e, f1], by simp [World.cell?, e, f2], by simp [World.cell?, e, f3], by simp [World.cell?, e, f4]⟩
theorem Ob.count {w : World} {g h l K n N : Nat} {t : St} (o : Ob w g h l K n N t) {k : Nat} (hk : k < K + 1) : w.cell? ⟨l, k, none⟩ = some (.int .i64 (t.len (k : Int))) := by
  obtain ⟨c, e, f⟩ := o.lns
  simp [World.cell?, e, f k hk]

theorem set_other {w : World} {h b o : Nat} {v : Value} (e : b ≠ h) : (w.setCell ⟨h, o, none⟩ v).heap[b]? = w.heap[b]? := by
  simp only [World.setCell, Array.getElem?_modify]
  rw [if_neg (fun x => e x.symm)]
theorem set_same {w : World} {h o : Nat} {v : Value} {cur : Array Value} {T : TypeId} {fr : Nat × Nat} (e : w.heap[h]? = some (.cells cur T fr)) : (w.setCell ⟨h, o, none⟩ v).heap[h]? = some (.cells (cur.setIfInBounds o v) T fr) := by
  simp [World.setCell, Array.getElem?_modify, e]

theorem Ob.setA {w : World} {g h l K n N : Nat} {t : St} (o : Ob w g h l K n N t) {i : Nat} (hi : i < N) (v : Int) : Ob (w.setCell ⟨h, i * 4, none⟩ (.int .i64 v)) g h l K n N { t with A := up t.A i v } := by
  obtain ⟨c, e, f⟩ := o.lnk
  refine ⟨o.gh, o.gl, o.hl, o.K64, o.n40, o.eN, ?_, ⟨_, set_same e, fun j hj => ?_⟩, ?_⟩
  · rw [set_other o.gh]; exact o.obj
  · obtain ⟨f1, f2, f3, f4⟩ := f j hj
    obtain ⟨f0, _⟩ := f i hi
    have hs : i * 4 < c.size := (Array.getElem?_eq_some_iff.1 f0).1
    refine ⟨?_, ?_, ?_, ?_⟩
    · rw [Array.getElem?_setIfInBounds]
      by_cases ej : i = j
      · subst ej; rw [if_pos rfl, if_pos hs]; simp [up]
      · rw [if_neg (by omega), f1]; simp only [up]; rw [if_neg (by omega)]
    · rw [Array.getElem?_setIfInBounds, if_neg (by omega)]; exact f2
    · rw [Array.getElem?_setIfInBounds, if_neg (by omega)]; exact f3
    · rw [Array.getElem?_setIfInBounds, if_neg (by omega)]; exact f4
  · obtain ⟨c, e, f⟩ := o.lns
    exact ⟨c, by rw [set_other (fun x => o.hl x.symm)]; exact e, f⟩
theorem Ob.setB {w : World} {g h l K n N : Nat} {t : St} (o : Ob w g h l K n N t) {i : Nat} (hi : i < N) (v : Int) : Ob (w.setCell ⟨h, i * 4 + 1, none⟩ (.int .i64 v)) g h l K n N { t with B := up t.B i v } := by
  obtain ⟨c, e, f⟩ := o.lnk
  refine ⟨o.gh, o.gl, o.hl, o.K64, o.n40, o.eN, ?_, ⟨_, set_same e, fun j hj => ?_⟩, ?_⟩
  · rw [set_other o.gh]; exact o.obj
  · obtain ⟨f1, f2, f3, f4⟩ := f j hj
    obtain ⟨_, f0, _⟩ := f i hi
    have hs : i * 4 + 1 < c.size := (Array.getElem?_eq_some_iff.1 f0).1
    refine ⟨?_, ?_, ?_, ?_⟩
    · rw [Array.getElem?_setIfInBounds, if_neg (by omega)]; exact f1
    · rw [Array.getElem?_setIfInBounds]
      by_cases ej : i = j
      · subst ej; rw [if_pos rfl, if_pos hs]; simp [up]
      · rw [if_neg (by omega), f2]; simp only [up]; rw [if_neg (by omega)]
    · rw [Array.getElem?_setIfInBounds, if_neg (by omega)]; exact f3
    · rw [Array.getElem?_setIfInBounds, if_neg (by omega)]; exact f4
  · obtain ⟨c, e, f⟩ := o.lns
    exact ⟨c, by rw [set_other (fun x => o.hl x.symm)]; exact e, f⟩
theorem Ob.setP {w : World} {g h l K n N : Nat} {t : St} (o : Ob w g h l K n N t) {i : Nat} (hi : i < N) (v : Int) : Ob (w.setCell ⟨h, i * 4 + 2, none⟩ (.int .i64 v)) g h l K n N { t with P := up t.P i v } := by
  obtain ⟨c, e, f⟩ := o.lnk
  refine ⟨o.gh, o.gl, o.hl, o.K64, o.n40, o.eN, ?_, ⟨_, set_same e, fun j hj => ?_⟩, ?_⟩
  · rw [set_other o.gh]; exact o.obj
  · obtain ⟨f1, f2, f3, f4⟩ := f j hj
    obtain ⟨_, _, f0, _⟩ := f i hi
    have hs : i * 4 + 2 < c.size := (Array.getElem?_eq_some_iff.1 f0).1
    refine ⟨?_, ?_, ?_, ?_⟩
    · rw [Array.getElem?_setIfInBounds, if_neg (by omega)]; exact f1
    · rw [Array.getElem?_setIfInBounds, if_neg (by omega)]; exact f2
    · rw [Array.getElem?_setIfInBounds]
      by_cases ej : i = j
      · subst ej; rw [if_pos rfl, if_pos hs]; simp [up]
      · rw [if_neg (by omega), f3]; simp only [up]; rw [if_neg (by omega)]
    · rw [Array.getElem?_setIfInBounds, if_neg (by omega)]; exact f4
  · obtain ⟨c, e, f⟩ := o.lns
    exact ⟨c, by rw [set_other (fun x => o.hl x.symm)]; exact e, f⟩
theorem Ob.setS {w : World} {g h l K n N : Nat} {t : St} (o : Ob w g h l K n N t) {i : Nat} (hi : i < N) (v : Int) : Ob (w.setCell ⟨h, i * 4 + 3, none⟩ (.int .i64 v)) g h l K n N { t with S := up t.S i v } := by
  obtain ⟨c, e, f⟩ := o.lnk
  refine ⟨o.gh, o.gl, o.hl, o.K64, o.n40, o.eN, ?_, ⟨_, set_same e, fun j hj => ?_⟩, ?_⟩
  · rw [set_other o.gh]; exact o.obj
  · obtain ⟨f1, f2, f3, f4⟩ := f j hj
    obtain ⟨_, _, _, f0⟩ := f i hi
    have hs : i * 4 + 3 < c.size := (Array.getElem?_eq_some_iff.1 f0).1
    refine ⟨?_, ?_, ?_, ?_⟩
    · rw [Array.getElem?_setIfInBounds, if_neg (by omega)]; exact f1
    · rw [Array.getElem?_setIfInBounds, if_neg (by omega)]; exact f2
    · rw [Array.getElem?_setIfInBounds, if_neg (by omega)]; exact f3
    · rw [Array.getElem?_setIfInBounds]
      by_cases ej : i = j
      · subst ej; rw [if_pos rfl, if_pos hs]; simp [up]
      · rw [if_neg (by omega), f4]; simp only [up]; rw [if_neg (by omega)]
  · obtain ⟨c, e, f⟩ := o.lns
    exact ⟨c, by rw [set_other (fun x => o.hl x.symm)]; exact e, f⟩
theorem Ob.setLen {w : World} {g h l K n N : Nat} {t : St} (o : Ob w g h l K n N t) {k : Nat} (hk : k < K + 1) (v : Int) : Ob (w.setCell ⟨l, k, none⟩ (.int .i64 v)) g h l K n N { t with len := up t.len k v } := by
  obtain ⟨c, e, f⟩ := o.lns
  refine ⟨o.gh, o.gl, o.hl, o.K64, o.n40, o.eN, ?_, ?_, ⟨_, set_same e, fun j hj => ?_⟩⟩
  · rw [set_other o.gl]; exact o.obj
  · obtain ⟨c, e, f⟩ := o.lnk
    exact ⟨c, by rw [set_other o.hl]; exact e, f⟩
  · have hs : k < c.size := (Array.getElem?_eq_some_iff.1 (f k hk)).1
    rw [Array.getElem?_setIfInBounds]
    by_cases ej : k = j
    · subst ej; rw [if_pos rfl, if_pos hs]; simp [up]
    · rw [if_neg (by omega), f j hj]; simp only [up]; rw [if_neg (by omega)]
theorem Ob.setUses {w : World} {g h l K n N : Nat} {t : St} (o : Ob w g h l K n N t) (v : Int) : Ob (w.setCell ⟨g, 4, none⟩ (.int .i64 v)) g h l K n N { t with uses := v } := by
  refine ⟨o.gh, o.gl, o.hl, o.K64, o.n40, o.eN, ?_, ?_, ?_⟩
  · rw [set_same o.obj]; simp
  · obtain ⟨c, e, f⟩ := o.lnk
    exact ⟨c, by rw [set_other (fun x => o.gh x.symm)]; exact e, f⟩
  · obtain ⟨c, e, f⟩ := o.lns
    exact ⟨c, by rw [set_other (fun x => o.gl x.symm)]; exact e, f⟩

/-- What stays where these three blocks alone are written. -/
structure Off (g h l : Nat) (w w' : World) : Prop where
  os : w'.os = w.os
  tape : w'.tape = w.tape
  output : w'.output = w.output
  size : w.heap.size ≤ w'.heap.size
  block : ∀ k, k < w.heap.size → k ≠ g → k ≠ h → k ≠ l → w'.heap[k]? = w.heap[k]?
theorem Off.refl (g h l : Nat) (w : World) : Off g h l w w := ⟨rfl, rfl, rfl, Nat.le_refl _, fun _ _ _ _ _ => rfl⟩
theorem Off.trans {g h l : Nat} {a b c : World} (x : Off g h l a b) (y : Off g h l b c) : Off g h l a c :=
  ⟨y.os.trans x.os, y.tape.trans x.tape, y.output.trans x.output, Nat.le_trans x.size y.size, fun k hk h1 h2 h3 => (y.block k (Nat.lt_of_lt_of_le hk x.size) h1 h2 h3).trans (x.block k hk h1 h2 h3)⟩
theorem Off.of {g h l : Nat} {a b : World} (x : Below a.heap.size a b) : Off g h l a b := ⟨x.os, x.tape, x.output, x.size, fun k hk _ _ _ => x.block k hk⟩
theorem Off.then_ {g h l : Nat} {a b c : World} (x : Off g h l a b) (y : Below b.heap.size b c) : Off g h l a c := x.trans (.of y)
theorem Off.drew {g h l : Nat} {a b : World} (x : Off g h l a b) : Off g h l a b.drew := ⟨x.os, x.tape, x.output, x.size, x.block⟩
theorem Off.setH {g h l : Nat} {a b : World} (x : Off g h l a b) (o : Nat) (v : Value) : Off g h l a (b.setCell ⟨h, o, none⟩ v) :=
  ⟨x.os, x.tape, x.output, by simpa using x.size, fun k hk h1 h2 h3 => by rw [set_other h2]; exact x.block k hk h1 h2 h3⟩
theorem Off.setG {g h l : Nat} {a b : World} (x : Off g h l a b) (o : Nat) (v : Value) : Off g h l a (b.setCell ⟨g, o, none⟩ v) :=
  ⟨x.os, x.tape, x.output, by simpa using x.size, fun k hk h1 h2 h3 => by rw [set_other h1]; exact x.block k hk h1 h2 h3⟩
theorem Off.setL {g h l : Nat} {a b : World} (x : Off g h l a b) (o : Nat) (v : Value) : Off g h l a (b.setCell ⟨l, o, none⟩ v) :=
  ⟨x.os, x.tape, x.output, by simpa using x.size, fun k hk h1 h2 h3 => by rw [set_other h3]; exact x.block k hk h1 h2 h3⟩

theorem Ob.same {w w' : World} {g h l K n N : Nat} {t : St} (o : Ob w g h l K n N t) (e1 : w'.heap[g]? = w.heap[g]?) (e2 : w'.heap[h]? = w.heap[h]?) (e3 : w'.heap[l]? = w.heap[l]?) : Ob w' g h l K n N t := by
  obtain ⟨c, e, f⟩ := o.lnk
  obtain ⟨c', e', f'⟩ := o.lns
  exact ⟨o.gh, o.gl, o.hl, o.K64, o.n40, o.eN, by rw [e1]; exact o.obj, ⟨c, by rw [e2]; exact e, f⟩, ⟨c', by rw [e3]; exact e', f'⟩⟩
theorem Ob.below {w w' : World} {g h l K n N : Nat} {t : St} (o : Ob w g h l K n N t) (b : Below w.heap.size w w') : Ob w' g h l K n N t := by
  obtain ⟨⟨h1, h2, h3⟩, _⟩ := o.cells
  exact o.same (b.block _ h1) (b.block _ h2) (b.block _ h3)
end Go.Proofs.YtibplphpbbajhaaDoor
