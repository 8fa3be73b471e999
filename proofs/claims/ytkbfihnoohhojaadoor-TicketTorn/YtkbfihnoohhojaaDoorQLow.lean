/-
  What came in lies low; one number as a slice.
-/
import Derived.Test.YtkbfihnoohhojaaDoorQLPuts
import Derived.Laws.ResultCell
import Derived.Laws.Tables
import Derived.Laws.Rows
import Derived.Test.YtkbfihnoohhojaaDoorQBase
import Derived.ProofKit
import Derived.OpenShut
import Derived.ChangeOld
import Derived.Deep.Strs
import Derived.Test.YtkbfihnoohhojaaDoorQMathB
import Derived.Test.YtkbfihnoohhojaaDoorQFlt
import Derived.Test.YtkbfihnoohhojaaDoorQFCells
import Derived.Test.YtkbfihnoohhojaaDoorQFDoA
import Derived.Test.YtkbfihnoohhojaaDoorQFCrash
namespace Go.Proofs.YtkbfihnoohhojaaDoor.Lea
open Go.RowKit

theorem Tryd.size24 : (Tryd.prog.info? 25).map (·.size) = some 3 := by kernel_rfl
theorem Tryd.und24 : ∃ fs, Tryd.prog.underlying 25 = some (.struct fs) := ⟨Tryd.prog.fieldsOf 25, by kernel_rfl⟩
theorem grown_setRow (w : World) (g : Nat) (cs : Array Value) : w.grownBy (w.setRow g cs) (some g) :=
  ⟨rfl, rfl, rfl, by simp [World.setRow], fun k _ hk => setRow_other w g k cs (by intro e; exact hk (by rw [e]))⟩
theorem run_st24 {w : World} {b : Nat} {c : Array Value} {x0 x1 x2 : Value} (hw : w.heap[b]? = some (.cells c 25 (0, 0))) (hc : c.size = 3) (h1 : x0.oneCell' = true ∧ x1.oneCell' = true ∧ x2.oneCell' = true) :
    (Instr.storeAt 25 (.pointer (some ⟨b, 0, none⟩)) (.agg #[x0, x1, x2])).run Tryd.prog w = .ok () (w.setRow b #[x0, x1, x2]) := by
  have h2 : (#[x0, x1, x2] : Array Value).all (·.oneCell') = true := by simp [h1]
  simp only [Instr.storeAt, Instr.sureAddr, Sem.run_bind, Sem.run_pure, Result.andThen]
  exact run_storeVar_row _ _ 25 25 c _ hw Tryd.size24 hc h2
section
variable {ops : Array Oper} {rest : List Oper} {op : Oper} {a : Act} {w : World}
theorem st24 {Q : Exit → Act → World → Prop} (hgd : op.guard = none) (x y : Operand) (ho : op.op = .store 25 x y) (b : Nat) (hx : a.eval x = .pointer (some ⟨b, 0, none⟩)) (c : Array Value) (x0 x1 x2 : Value)
    (hw : w.heap[b]? = some (.cells c 25 (0, 0))) (hc : c.size = 3) (hy : a.eval y = .agg #[x0, x1, x2]) (h1 : x0.oneCell' = true ∧ x1.oneCell' = true ∧ x2.oneCell' = true)
    (h : ∀ w', w'.heap[b]? = some (.cells #[x0, x1, x2] 25 (0, 0)) → w.grownBy w' (some b) → wpList Tryd.prog ops Q rest (a.put op.dst undef) w') : wpList Tryd.prog ops Q (op :: rest) a w := by
  refine wpList_plain hgd fun K hK => ?_
  unfold Oper.wp execOp
  simp only [ho, hx, hy, Sem.run_bind, run_st24 hw hc h1, Result.andThen_ok, Sem.run_pure]
  exact hK _ _ (h _ (setRow_heap w b c _ 25 (0, 0) hw) (grown_setRow w b _))
theorem step_st24 {K : Act → World → Prop} {Q : Exit → Act → World → Prop} {E : Prop} (hgd : op.guard = none) (x y : Operand) (ho : op.op = .store 25 x y) (b : Nat) (hx : a.eval x = .pointer (some ⟨b, 0, none⟩)) (c : Array Value) (x0 x1 x2 : Value)
    (hw : w.heap[b]? = some (.cells c 25 (0, 0))) (hc : c.size = 3) (hy : a.eval y = .agg #[x0, x1, x2]) (h1 : x0.oneCell' = true ∧ x1.oneCell' = true ∧ x2.oneCell' = true)
    (h : ∀ w', w'.heap[b]? = some (.cells #[x0, x1, x2] 25 (0, 0)) → w.grownBy w' (some b) → K (a.put op.dst undef) w') :
    if Region.wanted op (yielded ops a.tmps) = true then Oper.wp Tryd.prog op a w K Q else E := by
  have hwt : Region.wanted op (yielded ops a.tmps) = true := by simp [Region.wanted, hgd]
  rw [if_pos hwt]
  unfold Oper.wp execOp
  simp only [ho, hx, hy, Sem.run_bind, run_st24 hw hc h1, Result.andThen_ok, Sem.run_pure]
  exact h _ (setRow_heap w b c _ 25 (0, 0) hw) (grown_setRow w b _)
end
theorem load24 (w : World) (b : Nat) (x0 x1 x2 : Value) (t : TypeId) (fr : Nat × Nat) (hc : w.heap[b]? = some (.cells #[x0, x1, x2] t fr)) : (loadVar 25 ⟨b, 0, none⟩).run Tryd.prog w = .ok (.agg #[x0, x1, x2]) w := by
  obtain ⟨fs, hu⟩ := Tryd.und24
  exact run_loadVar_row (P := Tryd.prog) w b t 25 _ fr _ hc hu rfl Tryd.size24
theorem results24 {fn : Func} {p u : Tmp} (h : fn.results = #[.cell p 25, .tmp u]) (tmps : Array Value) (w : World) (b : Nat) (ht : tmps.getD p undef = .pointer (some ⟨b, 0, none⟩)) (x0 x1 x2 : Value) (t : TypeId) (fr : Nat × Nat)
    (hc : w.heap[b]? = some (.cells #[x0, x1, x2] t fr)) (y : Value) (hy : tmps.getD u undef = y) : (results fn tmps).run Tryd.prog w = .ok (.tuple #[.agg #[x0, x1, x2], y]) w := by
  rw [results_cell_tmp h, ht, hy]
  simp only [asAddr, Sem.run_pure, Result.andThen_ok, load24 w b x0 x1 x2 t fr hc]

theorem _root_.Go.Proofs.YtkbfihnoohhojaaDoor.Lk.box {w w' : World} {v : Value} {ls : List Lnk} {b : Nat} {c : Array Value} (h : Lk w v ls) (hb : w.heap[b]? = some (.cells c 25 (0, 0))) (hg : w.grownBy w' (some b)) : Lk w' v ls := by
  induction ls generalizing v with
  | nil => exact h
  | cons l r ih =>
    obtain ⟨op, a, cc⟩ := l
    obtain ⟨b1, u, h1, h2, h3⟩ := h
    refine ⟨b1, u, h1, ?_, ih h3⟩
    refine heap_grownBy h2 hg ?_
    intro e
    cases e
    rw [hb] at h2
    cases h2
theorem fault_box {w w' : World} {v : Value} {code : Int} {b : Nat} {c : Array Value} (h : Fault w v code) (hb : w.heap[b]? = some (.cells c 25 (0, 0))) (hg : w.grownBy w' (some b)) : Fault w' v code := by
  rcases h with h | ⟨h1, dn, op, a, p, h2, h3, h4⟩
  · exact .inl h
  · exact .inr ⟨h1, dn, op, a, p, h2.box hb hg, h3, h4⟩

/-- What Get leaves, and answers: a leaf, and an error of this code. -/
def GetAt (w w' : World) (v : Value) (r : Int × Nat × Nat × List Nat) : Prop :=
  ∃ b' p' cap' u, w.heap.size ≤ b' ∧ v = .tuple #[.agg #[.int .i64 (r.2.1 : Int), .int .i64 (r.2.2.1 : Int), .slice p' r.2.2.2.length cap'], u] ∧ SlAt w' b' (.slice p' r.2.2.2.length cap') (U r.2.2.2) ∧ Fault w' u r.1 ∧ Below w.heap.size w w'
theorem GetAt.err {w w1 w' : World} {u : Value} {code : Int} {c : Array Value} (hf : Fault w1 u code) (hb : Below w.heap.size w w1) (hx : w1.heap[w.heap.size]? = some (.cells c 25 (0, 0))) (hg : w1.grownBy w' (some w.heap.size)) :
    GetAt w w' (.tuple #[.agg #[.int .i64 0, .int .i64 0, .slice none 0 0], u]) (code, 0, 0, []) :=
  ⟨w.heap.size, none, 0, u, Nat.le_refl _, rfl, SlAt.nil _ _, fault_box hf hx hg, hb.grown hg hb.size (fun k hk => by cases hk; exact Nat.le_refl _)⟩
/-- The same of the document's Get. -/
def RGetAt (w w' : World) (v : Value) (r : Int × Nat × Nat × List Nat) : Prop :=
  ∃ b' p' cap', v = .tuple #[.agg #[.int .i64 (r.2.1 : Int), .int .i64 (r.2.2.1 : Int), .slice p' r.2.2.2.length cap'], .int .i64 r.1] ∧ SlAt w' b' (.slice p' r.2.2.2.length cap') (U r.2.2.2) ∧ Below w.heap.size w w'
theorem RGetAt.err {w w1 w' : World} {code : Int} (hb : Below w.heap.size w w1) (hg : w1.grownBy w' (some w.heap.size)) :
    RGetAt w w' (.tuple #[.agg #[.int .i64 0, .int .i64 0, .slice none 0 0], .int .i64 code]) (code, 0, 0, []) :=
  ⟨0, none, 0, rfl, SlAt.nil _ _, hb.grown hg hb.size (fun k hk => by cases hk; exact Nat.le_refl _)⟩
theorem or_i64 (n d : Int) (h0 : 0 ≤ n) (h1 : n ≤ 1000) (h2 : 0 ≤ d) (h3 : d < 256) : bits .or .i64 (n * 256) d = n * 256 + d :=
  bits_join .i64 63 (by decide) (fun x a b => by rw [IntKind.wrap_i64]; simp at b; omega) 8 (n * 256) d (by omega) (by simp) (by simp; omega) h2 (by simpa using h3) (by simp; omega)
theorem at_page {l : List Nat} (h : l.length = 256) (hb : Byt l) (i : Nat) (hi : i < 256) : ∃ x, l[i]? = some x ∧ l.getD i 0 = x ∧ x < 256 := by
  refine ⟨l[i]'(by omega), List.getElem?_eq_getElem _, ?_, hb _ (List.getElem_mem _)⟩
  rw [List.getD_eq_getElem?_getD, List.getElem?_eq_getElem (by omega)]; rfl
end Go.Proofs.YtkbfihnoohhojaaDoor.Lea

namespace Go.Proofs.YtkbfihnoohhojaaDoor.Lea
open Go.ChangeShapes Go.WideShapes Go.ChangeAt Go.WideMaps Go.WideElems Go.RowKit Go.Deep

theorem sl_of_row {k : IntKind} {W : World} {x : Addr} {len cap : Nat} {zs : List Int} (hl : len ≤ cap) (hm : cap ≤ maxLen) (hz : zs.length = cap) (hcell : ∀ i, i < zs.length → W.cell? (x.add i) = some (.int k (zs.getD i 0))) :
    ∃ b, SlAt W b (.slice (some x) len cap) ((zs.take len).map (Value.int k)) := by
  have hlen : ((zs.take len).map (Value.int k)).length = len := by rw [List.length_map, List.length_take]; omega
  rcases Nat.eq_zero_or_pos len with h0 | hpos
  · subst h0
    exact ⟨0, .inr ⟨x, cap, by rw [hlen], by omega, hm, .inl (by simp)⟩⟩
  · obtain ⟨b, off, spot⟩ := x
    have z := hcell 0 (by omega)
    have hspot : spot = none := by simpa [Addr.add] using World.cell?_spot z
    subst hspot
    have hbl : b < W.heap.size := by
      have := World.block_lt_of_cell? W _ z
      simpa [Addr.add] using this
    refine ⟨b, .inr ⟨_, cap, by rw [hlen], by omega, hm, .inr ⟨off, rfl, hbl, fun j u hj => ?_⟩⟩⟩
    have hjl : j < len := by have := (List.getElem?_eq_some_iff.1 hj).1; omega
    have := hcell j (by omega)
    rw [add_off] at this
    rw [this]
    rw [List.getElem?_map, List.getElem?_take, if_pos hjl, List.getElem?_eq_getElem (by omega)] at hj
    simp at hj
    subst hj
    simp [List.getD, List.getElem?_eq_getElem (show j < zs.length by omega)]

theorem U_toNat {l : List Int} (h : ∀ x ∈ l, 0 ≤ x) : U (l.map Int.toNat) = l.map (Value.int .u8) := by
  simp only [U, List.map_map]
  apply List.map_congr_left
  intro x hx
  have := h x hx
  simp only [Function.comp_apply]
  congr 1
  omega

theorem open_bytes {H : Type} {enc : TypeId × Value → H} {W : World} {v : Value} {d : DataW H} {p : List MemPlace} (h : DataW.Trod enc Tryd.prog W 0 (fun _ => true) true 23 v d p) (hv : ∃ a len cap, v = .slice a len cap) :
    ∃ b bs, SlAt W b v (U bs) ∧ Byt bs := by
  obtain ⟨a0, len0, cap0, rfl⟩ := hv
  obtain ⟨fuel, hf⟩ := h
  rcases open_ints Tryd.underlying23 Tryd.underlying5 (by kernel_rfl) hf with ⟨hcs, _⟩ | ⟨x, l, c, zs, hcs, _, hl, hm, hz, _, hcell, hwz⟩
  · simp [Value.cells] at hcs
    obtain ⟨rfl, rfl, rfl⟩ := hcs
    exact ⟨0, [], SlAt.nil _ _, fun x hx => by cases hx⟩
  · simp [Value.cells] at hcs
    obtain ⟨rfl, rfl, rfl⟩ := hcs
    obtain ⟨b, hb⟩ := sl_of_row hl hm (by simpa using hz) hcell
    refine ⟨b, (zs.take len0).map Int.toNat, ?_, ?_⟩
    · rw [U_toNat (fun x hx => (bounds_u8 (hwz x (List.mem_of_mem_take hx))).1)]; exact hb
    · intro y hy
      obtain ⟨x, hx, rfl⟩ := List.mem_map.1 hy
      have := bounds_u8 (hwz x (List.mem_of_mem_take hx))
      omega

theorem three_of_len {α : Type} (l : List α) (h : l.length = 3) : ∃ a b c, l = [a, b, c] := by
  match l, h with
  | [a, b, c], _ => exact ⟨a, b, c, rfl⟩

theorem open_leaf {H : Type} {enc : TypeId × Value → H} {W : World} {v : Value} {d : DataW H} {p : List MemPlace} (h : DataW.Trod enc Tryd.prog W 0 (fun _ => true) true 25 v d p) (hv : ∃ cs, v = .agg cs ∧ cs.size = Tryd.prog.cellsOf 25) :
    ∃ s k q l cap b, v = .agg #[.int .i64 s, .int .i64 k, .slice q (l : List Nat).length cap] ∧ SlAt W b (.slice q l.length cap) (U l) ∧ Byt l := by
  obtain ⟨cs, rfl, hsz⟩ := hv
  have c25 : Tryd.prog.cellsOf 25 = 3 := by kernel_rfl
  have c3 : Tryd.prog.cellsOf 3 = 1 := by kernel_rfl
  have c23 : Tryd.prog.cellsOf 23 = 1 := by kernel_rfl
  rw [c25] at hsz
  obtain ⟨fuel, hf⟩ := h
  obtain ⟨cl⟩ := cs
  obtain ⟨v0, v1, v2, rfl⟩ := three_of_len cl (by simpa using hsz)
  have hf' : DataW.trod enc Tryd.prog W 0 (fun _ => true) true fuel 25 [v0, v1, v2] = some (d, p) := by simpa [Value.cells] using hf
  obtain ⟨xs, k, _, _, _, hlen3, hfs⟩ := DataW.trod_struct Tryd.underlying25 hf'
  obtain ⟨y0, y1, y2, rfl⟩ := three_of_len xs hlen3
  have g0 := hfs 0 _ rfl
  have g1 := hfs 1 _ rfl
  have g2 := hfs 2 _ rfl
  simp [c3, c23] at g0 g1 g2
  obtain ⟨n0, e0, _, _⟩ := DataW.trod_int Tryd.underlying3 g0
  obtain ⟨n1, e1, _, _⟩ := DataW.trod_int Tryd.underlying3 g1
  simp at e0 e1
  subst e0 e1
  rcases open_ints Tryd.underlying23 Tryd.underlying5 (by kernel_rfl) g2 with ⟨hcs, _⟩ | ⟨x, l, c, zs, hcs, _, hl, hm, hz, _, hcell, hwz⟩
  · simp at hcs
    subst hcs
    exact ⟨n0, n1, none, [], 0, 0, rfl, SlAt.nil _ _, fun x hx => by cases hx⟩
  · simp at hcs
    subst hcs
    have hz' : zs.length = c := by simpa using hz
    obtain ⟨b, hb⟩ := sl_of_row hl hm hz' hcell
    have hlen : ((zs.take l).map Int.toNat).length = l := by simp; omega
    refine ⟨n0, n1, some x, (zs.take l).map Int.toNat, c, b, by rw [hlen], ?_, ?_⟩
    · rw [hlen, U_toNat (fun x hx => (bounds_u8 (hwz x (List.mem_of_mem_take hx))).1)]; exact hb
    · intro y hy
      obtain ⟨x, hx, rfl⟩ := List.mem_map.1 hy
      have := bounds_u8 (hwz x (List.mem_of_mem_take hx))
      omega
theorem open_bytes5 {H : Type} {enc : TypeId × Value → H} {W : World} {v : Value} {d : DataW H} {p : List MemPlace} (h : DataW.Trod enc Tryd.prog W 0 (fun _ => true) true 23 v d p) (hv : ∃ a len cap, v = .slice a len cap) :
    ∃ q l cap b, v = .slice q (l : List Nat).length cap ∧ SlAt W b (.slice q l.length cap) (U l) ∧ Byt l := by
  obtain ⟨b, bs, hs, hb⟩ := open_bytes h hv
  obtain ⟨q, cap, e, _, _⟩ := hs.form
  rw [U_length] at e
  subst e
  exact ⟨q, bs, cap, b, rfl, hs, hb⟩
end Go.Proofs.YtkbfihnoohhojaaDoor.Lea

namespace Go.Proofs.YtkbfihnoohhojaaDoor
open Go.RowKit Go.Extern.Stop Go.Stop Go.Extern

/-- An error under at most so many wraps. -/
def FltN (k : Nat) (w : World) (v : Value) (code : Int) : Prop := (code = 0 ∧ v = .nilIface) ∨ (code ≠ 0 ∧ ∃ dn op a p, Lk w v (dn ++ [(op, a, code)]) ∧ dn.length ≤ k ∧ v = .iface 108 (.pointer (some p)))
theorem FltN.nil (k : Nat) (w : World) : FltN k w .nilIface 0 := .inl ⟨rfl, rfl⟩
theorem FltN.none {k : Nat} {w : World} {v : Value} (h : FltN k w v 0) : v = .nilIface := by
  rcases h with ⟨_, h⟩ | ⟨h, _⟩
  · exact h
  · exact absurd rfl h
theorem FltN.some {k : Nat} {w : World} {v : Value} {code : Int} (h : FltN k w v code) (hc : code ≠ 0) : ∃ p, v = .iface 108 (.pointer (some p)) := by
  rcases h with ⟨h, _⟩ | ⟨_, _, _, _, p, _, _, h⟩
  · exact absurd h hc
  · exact ⟨p, h⟩
theorem FltN.below {k : Nat} {w w' : World} {v : Value} {code : Int} (h : FltN k w v code) (hb : Below w.heap.size w w') : FltN k w' v code := by
  rcases h with h | ⟨h1, dn, op, a, p, h2, h3, h4⟩
  · exact .inl h
  · exact .inr ⟨h1, dn, op, a, p, h2.stays hb, h3, h4⟩
theorem FltN.more {k k' : Nat} {w : World} {v : Value} {code : Int} (h : FltN k w v code) (hk : k ≤ k') : FltN k' w v code := by
  rcases h with h | ⟨h1, dn, op, a, p, h2, h3, h4⟩
  · exact .inl h
  · exact .inr ⟨h1, dn, op, a, p, h2, by omega, h4⟩
theorem FltN.of_lea {w : World} {v : Value} {code : Int} (h : Lea.Fault w v code) : FltN 10 w v code := h
theorem FltN.of_base {w : World} {v : Value} {code : Int} (h : Fault w v code) : FltN 10 w v code := h
theorem FltN.of_fla {w : World} {v : Value} {code : Int} (h : Fla.Fault w v code) : FltN 10 w v code := by
  rcases h with h | ⟨h, b, op, a, rfl, hh⟩
  · exact .inl h
  · exact .inr ⟨h, [], op, a, _, Lk.cons b op a code .nilIface [] hh (Lk.nil _), by simp, rfl⟩
theorem of_n {k : Nat} {w : World} {v : Value} {code : Int} (hk : k < 1000) (hg : ErrT w) (h : FltN k w v code) : Calls Tryd.prog 20 #[v] w fun e w' => e = .returned (.int .i64 code) ∧ Below w.heap.size w w' := by
  rcases h with ⟨rfl, rfl⟩ | ⟨_, dn, op, a, p, h2, h3, _⟩
  · exact of_nil w hg
  · exact of_some w hg h2 (by omega)
theorem wrap_n {k : Nat} {w : World} {v : Value} {code : Int} (op : ByteArray) (at_ : Int) (h : FltN k w v code) :
    Calls Tryd.prog 45 #[.string op, .int .i64 at_, v] w fun e w' => ∃ u, e = .returned u ∧ FltN (k + 1) w' u code ∧ Below w.heap.size w w' := by
  rcases h with ⟨rfl, rfl⟩ | ⟨hc, dn, o, a, p, h1, h2, rfl⟩
  · exact (Lea.wrap_nil op at_ w).mono fun e w' ⟨h3, h4⟩ => by subst h4; exact ⟨_, h3, .inl ⟨rfl, rfl⟩, Below.refl _ _⟩
  · refine (Lea.wrap_some op at_ p w).mono fun e w' ⟨h3, h4⟩ => ?_
    subst h4
    refine ⟨_, h3, .inr ⟨hc, (op, at_, 0) :: dn, o, a, ⟨w.heap.size, 0, none⟩, ?_, by simp; omega, rfl⟩, by go_grown⟩
    exact Lk.cons w.heap.size op at_ 0 _ _ (heap_alloc_new w _) (h1.stays (by go_grown))

/-- What stays where a ticket's calls write: what lies below B, and all rows but those of a device and of a ticket. -/
structure Fs (B : Nat) (w w' : World) : Prop where
  os : w'.os = w.os
  tape : w'.tape = w.tape
  output : w'.output = w.output
  size : w.heap.size ≤ w'.heap.size
  low : ∀ k, k < w.heap.size → k < B → w'.heap[k]? = w.heap[k]?
  stat : ∀ (k : Nat) (cs : Array Value) (e : TypeId) (fr : Nat × Nat), w.heap[k]? = some (Obj.cells cs e fr) → e ≠ 68 → e ≠ 85 → e ≠ 96 → w'.heap[k]? = w.heap[k]?
theorem Fs.of {B : Nat} {w w' : World} (h : Fla.Fr B w w') : Fs B w w' := ⟨h.os, h.tape, h.output, h.size, h.low, fun k cs e fr h1 h2 h3 _ => h.stat k cs ⟨e, fr, h1, h2, h3⟩⟩
theorem Fs.refl (B : Nat) (w : World) : Fs B w w := Fs.of (Fla.Fr.refl B w)
theorem Fs.trans {B : Nat} {w w1 w2 : World} (h : Fs B w w1) (k : Fs B w1 w2) : Fs B w w2 :=
  ⟨k.os.trans h.os, k.tape.trans h.tape, k.output.trans h.output, Nat.le_trans h.size k.size,
    fun i hi hb => (k.low i (Nat.lt_of_lt_of_le hi h.size) hb).trans (h.low i hi hb),
    fun i cs e fr h1 h2 h3 h4 => (k.stat i cs e fr ((h.stat i cs e fr h1 h2 h3 h4).trans h1) h2 h3 h4).trans (h.stat i cs e fr h1 h2 h3 h4)⟩
theorem Fs.below {B : Nat} {w w' : World} (h : Below w.heap.size w w') : Fs B w w' := Fs.of (Fla.Below.fr h)
theorem Fs.mine {B t : Nat} {w w' : World} {cs : Array Value} {fr : Nat × Nat} (ht : w.heap[t]? = some (.cells cs 96 fr)) (hB : B ≤ t) (hg : w.grownBy w' (some t)) : Fs B w w' :=
  ⟨hg.os, hg.tape, hg.output, hg.size, fun k hk hb => hg.block k hk (by intro e; cases e; omega),
    fun k cs' e fr' h1 _ _ h4 => hg.block k (Array.getElem?_eq_some_iff.1 h1).1 (by intro e'; cases e'; rw [ht] at h1; cases h1; exact h4 rfl)⟩
theorem Fs.toBelow {B : Nat} {w w' : World} (h : Fs B w w') (hB : B ≤ w.heap.size) : Below B w w' :=
  ⟨h.os, h.tape, h.output, h.size, fun k hk => h.low k (Nat.lt_of_lt_of_le hk hB) hk⟩
theorem ErrT.fs {B : Nat} {w w' : World} (h : ErrT w) (hf : Fs B w w') (hB : 0 < B) : ErrT w' := by
  have h0 : (0 : Nat) < w.heap.size := lt_of_cell h
  have := hf.low 0 h0 hB
  unfold ErrT at *
  rw [World.cell?_of_block (a := ⟨0, 0, none⟩) this]; exact h
theorem Lk.fs {B : Nat} {w w' : World} {v : Value} {ls : List Lnk} (h : Lk w v ls) (hf : Fs B w w') : Lk w' v ls := by
  induction ls generalizing v with
  | nil => exact h
  | cons l r ih =>
    obtain ⟨op, a, c⟩ := l
    obtain ⟨b, u, h1, h2, h3⟩ := h
    exact ⟨b, u, h1, by rw [hf.stat b _ _ _ h2 (by decide) (by decide) (by decide)]; exact h2, ih h3⟩
theorem FltN.fs {k B : Nat} {w w' : World} {v : Value} {code : Int} (h : FltN k w v code) (hf : Fs B w w') : FltN k w' v code := by
  rcases h with h | ⟨h1, dn, op, a, p, h2, h3, h4⟩
  · exact .inl h
  · exact .inr ⟨h1, dn, op, a, p, h2.fs hf, h3, h4⟩
theorem sl_fs {B b : Nat} {w w' : World} {v : Value} {xs : List Value} (h : Lea.SlAt w b v xs) (hf : Fs B w w') (hb : b < B) : Lea.SlAt w' b v xs := h.keeps hf.size (fun hl => hf.low b hl hb)

/-- Block t is a ticket on the device of block g, with this next stamp. -/
def Tk (w : World) (t g : Nat) (n : Int) : Prop := w.heap[t]? = some (.cells #[.pointer (some ⟨g, 0, none⟩), .int .i64 n] 96 (0, 0))
theorem Tk.below {w w' : World} {t g : Nat} {n : Int} (h : Tk w t g n) (hb : Below w.heap.size w w') : Tk w' t g n := heap_stays h hb
theorem Tk.fr {B : Nat} {w w' : World} {t g : Nat} {n : Int} (h : Tk w t g n) (hf : Fla.Fr B w w') : Tk w' t g n := Fla.heap_fr hf h
theorem Tk.cells {w : World} {t g : Nat} {n : Int} (h : Tk w t g n) : (w.cell? ⟨t, 0, none⟩ = some (.pointer (some ⟨g, 0, none⟩)) ∧ w.cell? ⟨t, 1, none⟩ = some (.int .i64 n)) ∧ ∀ o, w.frozen? ⟨t, o, none⟩ = false := by
  unfold Tk at h
  refine ⟨⟨?_, ?_⟩, ?_⟩ <;> simp [World.cell?, World.frozen?, h]
theorem Tk.lt {w : World} {t g : Nat} {n : Int} (h : Tk w t g n) : t < w.heap.size := (Array.getElem?_eq_some_iff.1 h).1
theorem Tk.next {w : World} {t g : Nat} {n m : Int} (h : Tk w t g n) : Tk (w.setCell ⟨t, 1, none⟩ (.int .i64 m)) t g m ∧ w.grownBy (w.setCell ⟨t, 1, none⟩ (.int .i64 m)) (some t) :=
  ⟨Fla.setCell_heap h _, Fla.setCell_grown h _⟩
/-- A ticket is written. -/
theorem Fl_tick {w w' : World} {B g N b : Nat} {d : Fla.Dev} {c : Array Value} (h : Fla.Fl w B g N d) (hb : w.heap[b]? = some (.cells c 96 (0, 0))) (hg : w.grownBy w' (some b)) : Fla.Fl w' B g N d := by
  obtain ⟨h1, h2, m, wv, n, h3, h4, h5, h6⟩ := h
  refine ⟨h1, h2, m, wv, n, Fla.heap_grown h3 hg (by intro e; cases e; rw [hb] at h3; cases h3), h4.grown hg ?_, h5.kept hg (.inr (Ne.symm (Fla.own_ne h5 hb (by decide)))), h6⟩
  obtain ⟨D, ⟨es, clock, k1, _⟩, _⟩ := h4
  intro e; cases e; rw [hb] at k1; cases k1

/-- Bytes of a device, as leaves see them. -/
theorem bat_sl {w : World} {v : Value} {l : List Nat} (h : Fla.BAt w v l) (hl : 0 < l.length) : ∃ b, Lea.SlAt w b v (Lea.U l) := by
  obtain ⟨b, off, cap, rfl, h1, h2, h3, h4, h5⟩ := h.elem hl
  exact ⟨b, .inr ⟨⟨b, off, none⟩, cap, by rw [Lea.U_length], by rw [Lea.U_length]; exact h1, h2, .inr ⟨off, rfl, h4, h5⟩⟩⟩
/-- Bytes of a leaf in a row of their own, as a device sees them. -/
theorem own_bat {w : World} {B : Nat} {v : Value} {l : List Nat} (h : w.ownsRow B 5 1 v l.length (Lea.U l)) : Fla.BAt w v l := Fla.own_row h (by decide) (by decide)

theorem dev_page {d : Fla.Dev} (h : Fla.DevOk d) (k : Int) : (Fla.lookP d k).length = 256 ∧ Lea.Byt (Fla.lookP d k) := by
  rw [← Fla.lookP_all h]
  exact Fla.layN_ok (fun _ => 256) (fun c hc => ⟨(h.wlen c hc).1, (h.wlen c hc).2.1⟩) (fun k => ⟨h.len k, h.byt k⟩) _ k
theorem all_page {d : Fla.Dev} (h : Fla.DevOk d) : ∀ x ∈ Fla.allP d, x.2.length = 256 ∧ Lea.Byt x.2 := by
  intro x hx
  unfold Fla.allP Fla.cellsP at hx
  obtain ⟨a, _, ha⟩ := List.mem_filterMap.1 hx
  split at ha
  · cases ha
  · cases ha
    exact Fla.layN_ok (fun _ => 256) (fun c hc => ⟨(h.wlen c hc).1, (h.wlen c hc).2.1⟩) (fun k => ⟨h.len k, h.byt k⟩) _ _
theorem plain_at {l : List Fla.Cl} {k : Nat} {x : Fla.Cl} (h : l[k]? = some x) : (Fla.plainC l)[k]? = some (x.1, x.2.2) := by simp [Fla.plainC, h]
end Go.Proofs.YtkbfihnoohhojaaDoor

namespace Go.Proofs.YtkbfihnoohhojaaDoor
open Go.RowKit Go.Extern.Stop Go.Stop Go.Extern

theorem sl_low {w : World} {b : Nat} {v : Value} {xs : List Value} (h : Lea.SlAt w b v xs) (h0 : 0 < w.heap.size) : ∃ b', b' < w.heap.size ∧ Lea.SlAt w b' v xs := by
  rcases h with h | ⟨a, cap, h1, h2, h3, h4 | ⟨off, h5, h6, h7⟩⟩
  · exact ⟨0, h0, .inl h⟩
  · exact ⟨0, h0, .inr ⟨a, cap, h1, h2, h3, .inl h4⟩⟩
  · exact ⟨b, h6, .inr ⟨a, cap, h1, h2, h3, .inr ⟨off, h5, h6, h7⟩⟩⟩
theorem kat_one {w : World} {b : Nat} {z : Int} {t : TypeId} {fr : Nat × Nat} (h : w.heap[b]? = some (.cells #[.int .i64 z] t fr)) : Fla.KAt w (.slice (some ⟨b, 0, none⟩) 1 1) [z] := by
  refine ⟨some ⟨b, 0, none⟩, 1, rfl, Nat.le_refl _, by unfold maxLen; decide, fun k x hk => ?_⟩
  rcases k with _ | k
  · simp at hk; subst hk
    exact ⟨b, 0, rfl, (Array.getElem?_eq_some_iff.1 h).1, by simp [World.cell?, h]⟩
  · simp at hk

end Go.Proofs.YtkbfihnoohhojaaDoor
