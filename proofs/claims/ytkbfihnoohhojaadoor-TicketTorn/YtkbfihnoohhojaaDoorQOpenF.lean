/-
  A slice of acts, and a slice of numbers, that came in, opened.
-/
import Derived.Test.YtkbfihnoohhojaaDoorQFOver
import Derived.Test.YtkbfihnoohhojaaDoorQFCrash
import Derived.Test.YtkbfihnoohhojaaDoorQFRefK
import Derived.Test.YtkbfihnoohhojaaDoorQFSim
import Derived.ProofKit
import Derived.OpenShut
import Derived.Deep.Strs
namespace Go.Proofs.YtkbfihnoohhojaaDoor.Fla
open Go.RowKit
theorem Tryd.info33m : (Tryd.prog.info? 38).map (fun i => (i.zero, i.size, i.bytes)) = some (some (.agg #[.int .i64 0, .slice none 0 0, .slice none 0 0, .int .i64 0, .bool false, .int .i64 0]), 6, 80) := by kernel_rfl
theorem Tryd.und33 : ∃ fs, Tryd.prog.underlying 38 = some (.struct fs) := ⟨Tryd.prog.fieldsOf 38, by kernel_rfl⟩
section
variable {ops : Array Oper} {rest : List Oper} {op : Oper} {a : Act} {w : World} {Q : Exit → Act → World → Prop}
theorem st33 (hgd : op.guard = none) (x y : Operand) (ho : op.op = .store 38 x y) (b : Nat) (hx : a.eval x = .pointer (some ⟨b, 0, none⟩)) (c : Array Value) (x0 x1 x2 x3 x4 x5 : Value)
    (hw : w.heap[b]? = some (.cells c 38 (0, 0))) (hc : c.size = 6) (hy : a.eval y = .agg #[x0, x1, x2, x3, x4, x5]) (h1 : x0.oneCell' = true ∧ x1.oneCell' = true ∧ x2.oneCell' = true ∧ x3.oneCell' = true ∧ x4.oneCell' = true ∧ x5.oneCell' = true)
    (h : ∀ w', w'.heap[b]? = some (.cells #[x0, x1, x2, x3, x4, x5] 38 (0, 0)) → w.grownBy w' (some b) → wpList Tryd.prog ops Q rest (a.put op.dst undef) w') : wpList Tryd.prog ops Q (op :: rest) a w :=
  stB 38 6 (size_of Tryd.info33m) hgd x y ho b hx c _ hw hy hc rfl (by
    obtain ⟨e0, e1, e2, e3, e4, e5⟩ := h1
    intro u hu
    simp at hu
    rcases hu with rfl | rfl | rfl | rfl | rfl | rfl <;> assumption) h
end
theorem load33 (w : World) (b : Nat) (x0 x1 x2 x3 x4 x5 : Value) (t : TypeId) (fr : Nat × Nat) (hc : w.heap[b]? = some (.cells #[x0, x1, x2, x3, x4, x5] t fr)) : (loadVar 38 ⟨b, 0, none⟩).run Tryd.prog w = .ok (.agg #[x0, x1, x2, x3, x4, x5]) w := by
  obtain ⟨fs, hu⟩ := Tryd.und33
  exact run_loadVar_row (P := Tryd.prog) w b t 38 _ fr _ hc hu rfl (size_of Tryd.info33m)
theorem results33 {fn : Func} {p u : Tmp} (h : fn.results = #[.cell p 38, .tmp u]) (tmps : Array Value) (w : World) (b : Nat) (ht : tmps.getD p undef = .pointer (some ⟨b, 0, none⟩)) (x0 x1 x2 x3 x4 x5 : Value) (t : TypeId) (fr : Nat × Nat)
    (hc : w.heap[b]? = some (.cells #[x0, x1, x2, x3, x4, x5] t fr)) (y : Value) (hy : tmps.getD u undef = y) : (results fn tmps).run Tryd.prog w = .ok (.tuple #[.agg #[x0, x1, x2, x3, x4, x5], y]) w := by
  rw [results_cell_tmp h, ht, hy]
  simp only [asAddr, Sem.run_pure, Result.andThen_ok, load33 w b x0 x1 x2 x3 x4 x5 t fr hc]
theorem result33 {fn : Func} {p : Tmp} (h : fn.results = #[.cell p 38]) (tmps : Array Value) (w : World) (b : Nat) (ht : tmps.getD p undef = .pointer (some ⟨b, 0, none⟩)) (x0 x1 x2 x3 x4 x5 : Value) (t : TypeId) (fr : Nat × Nat)
    (hc : w.heap[b]? = some (.cells #[x0, x1, x2, x3, x4, x5] t fr)) : (results fn tmps).run Tryd.prog w = .ok (.agg #[x0, x1, x2, x3, x4, x5]) w := by
  rw [results_cell h, ht]
  simp only [asAddr, Sem.run_pure, Result.andThen_ok, load33 w b x0 x1 x2 x3 x4 x5 t fr hc]
end Go.Proofs.YtkbfihnoohhojaaDoor.Fla

namespace Go.Proofs.YtkbfihnoohhojaaDoor.Fla
open Go.RowKit

/-- An act; kv: the value of what is kept. -/
structure Act4 where
  kind : Int
  at_ : Int
  a : Nat
  b : Nat
  n : Int
  keep : List Int
  kv : Value

/-- Numbers that lie below block B. -/
def KLow (w : World) (B : Nat) (v : Value) (ks : List Int) : Prop := ∃ p cap, v = .slice p ks.length cap ∧ ks.length ≤ cap ∧ cap ≤ maxLen ∧ ∀ k z, ks[k]? = some z → ∃ b off, p = some ⟨b, off, none⟩ ∧ b < B ∧ b < w.heap.size ∧ w.cell? ⟨b, off + k, none⟩ = some (.int .i64 z)
theorem KLow.kat {w : World} {B : Nat} {v : Value} {ks : List Int} (h : KLow w B v ks) : KAt w v ks := by
  obtain ⟨p, cap, h1, h2, h3, h4⟩ := h
  refine ⟨p, cap, h1, h2, h3, fun k z hk => ?_⟩
  obtain ⟨b, off, e1, _, e2, e3⟩ := h4 k z hk
  exact ⟨b, off, e1, e2, e3⟩
theorem Fr.cell {B : Nat} {w w' : World} (h : Fr B w w') {b : Nat} (hb : b < B) (hs : b < w.heap.size) (o : Nat) : w'.cell? ⟨b, o, none⟩ = w.cell? ⟨b, o, none⟩ := World.cell?_of_block (a := ⟨b, o, none⟩) (h.low b hs hb)
theorem KLow.fr {w w' : World} {B : Nat} {v : Value} {ks : List Int} (h : KLow w B v ks) (hf : Fr B w w') : KLow w' B v ks := by
  obtain ⟨p, cap, h1, h2, h3, h4⟩ := h
  refine ⟨p, cap, h1, h2, h3, fun k z hk => ?_⟩
  obtain ⟨b, off, e1, e0, e2, e3⟩ := h4 k z hk
  exact ⟨b, off, e1, e0, Nat.lt_of_lt_of_le e2 hf.size, (hf.cell e0 e2 _).trans e3⟩

/-- An act's six cells. -/
def actL (o : Act4) : List Value := [.int .i64 o.kind, .int .i64 o.at_, .int .u8 (o.a : Int), .int .u8 (o.b : Int), .int .i64 o.n, o.kv]
def actA (o : Act4) : Array Value := #[.int .i64 o.kind, .int .i64 o.at_, .int .u8 (o.a : Int), .int .u8 (o.b : Int), .int .i64 o.n, o.kv]
/-- What is fine with an act in memory. -/
def ActOk (w : World) (B : Nat) (o : Act4) : Prop := KLow w B o.kv o.keep ∧ o.a < 256 ∧ o.b < 256 ∧ (-9223372036854775808 ≤ o.kind ∧ o.kind ≤ 9223372036854775807) ∧ (-9223372036854775808 ≤ o.at_ ∧ o.at_ ≤ 9223372036854775807) ∧ (-9223372036854775808 ≤ o.n ∧ o.n ≤ 9223372036854775807)
theorem ActOk.fr {w w' : World} {B : Nat} {o : Act4} (h : ActOk w B o) (hf : Fr B w w') : ActOk w' B o := ⟨h.1.fr hf, h.2⟩
/-- A value is, in memory below B, a slice of acts. -/
def ActsAt (w : World) (B : Nat) (v : Value) (os : List Act4) : Prop := ∃ p cap, v = .slice p os.length cap ∧ os.length ≤ cap ∧ cap ≤ maxLen ∧
  ∀ i o, os[i]? = some o → ActOk w B o ∧ ∃ b off, p = some ⟨b, off, none⟩ ∧ b < B ∧ b < w.heap.size ∧ w.cell? ⟨b, off + i * 6, none⟩ = some (.int .i64 o.kind) ∧ w.cell? ⟨b, off + i * 6 + 1, none⟩ = some (.int .i64 o.at_) ∧ w.cell? ⟨b, off + i * 6 + 2, none⟩ = some (.int .u8 (o.a : Int)) ∧
    w.cell? ⟨b, off + i * 6 + 3, none⟩ = some (.int .u8 (o.b : Int)) ∧ w.cell? ⟨b, off + i * 6 + 4, none⟩ = some (.int .i64 o.n) ∧ w.cell? ⟨b, off + i * 6 + 5, none⟩ = some o.kv
theorem ActsAt.fr {w w' : World} {B : Nat} {v : Value} {os : List Act4} (h : ActsAt w B v os) (hf : Fr B w w') : ActsAt w' B v os := by
  obtain ⟨p, cap, h1, h2, h3, h4⟩ := h
  refine ⟨p, cap, h1, h2, h3, fun i o hi => ?_⟩
  obtain ⟨g, b, off, e1, e0, e2, q0, q1, q2, q3, q4, q5⟩ := h4 i o hi
  exact ⟨g.fr hf, b, off, e1, e0, Nat.lt_of_lt_of_le e2 hf.size, (hf.cell e0 e2 _).trans q0, (hf.cell e0 e2 _).trans q1, (hf.cell e0 e2 _).trans q2, (hf.cell e0 e2 _).trans q3, (hf.cell e0 e2 _).trans q4, (hf.cell e0 e2 _).trans q5⟩
theorem ActsAt.below {w w' : World} {B : Nat} {v : Value} {os : List Act4} (h : ActsAt w B v os) (hb : Below w.heap.size w w') : ActsAt w' B v os := h.fr (Below.fr hb)
theorem ActsAt.form {w : World} {B : Nat} {v : Value} {os : List Act4} (h : ActsAt w B v os) : ∃ p cap, v = .slice p os.length cap ∧ os.length ≤ cap ∧ cap ≤ maxLen := by
  obtain ⟨p, cap, h1, h2, h3, _⟩ := h
  exact ⟨p, cap, h1, h2, h3⟩

/-- Acts that are not more than is waited for. -/
def lightB (os : List Act4) : Bool := decide (os.length ≤ 40) && os.all fun o => decide (o.keep.length ≤ 60)
theorem light_len {os : List Act4} (h : lightB os = true) : os.length ≤ 40 := by
  unfold lightB at h
  simp at h
  exact h.1

/-- The document's device stored, as a step of a region that draws its order. -/
theorem step_st33 {ops : Array Oper} {o : Oper} {a : Act} {w : World} {K : Act → World → Prop} {Q : Exit → Act → World → Prop} {E : Prop} (hgd : o.guard = none) (x y : Operand) (ho : o.op = .store 38 x y) (b : Nat) (hx : a.eval x = .pointer (some ⟨b, 0, none⟩)) (c : Array Value) (x0 x1 x2 x3 x4 x5 : Value)
    (hw : w.heap[b]? = some (.cells c 38 (0, 0))) (hc : c.size = 6) (hy : a.eval y = .agg #[x0, x1, x2, x3, x4, x5]) (h1 : x0.oneCell' = true ∧ x1.oneCell' = true ∧ x2.oneCell' = true ∧ x3.oneCell' = true ∧ x4.oneCell' = true ∧ x5.oneCell' = true)
    (h : ∀ w', w'.heap[b]? = some (.cells #[x0, x1, x2, x3, x4, x5] 38 (0, 0)) → w.grownBy w' (some b) → K (a.put o.dst undef) w') :
    if Region.wanted o (yielded ops a.tmps) = true then Oper.wp Tryd.prog o a w K Q else E := by
  have hwt : Region.wanted o (yielded ops a.tmps) = true := by simp [Region.wanted, hgd]
  rw [if_pos hwt]
  have h2 : (#[x0, x1, x2, x3, x4, x5] : Array Value).all (·.oneCell') = true := by simp [h1]
  have hr : (Instr.storeAt 38 (.pointer (some ⟨b, 0, none⟩)) (.agg #[x0, x1, x2, x3, x4, x5])).run Tryd.prog w = .ok () (w.setRow b #[x0, x1, x2, x3, x4, x5]) := by
    simp only [Instr.storeAt, Instr.sureAddr, Sem.run_bind, Sem.run_pure, Result.andThen]
    exact run_storeVar_row _ _ 38 38 c _ hw (size_of Tryd.info33m) hc h2
  unfold Oper.wp execOp
  simp only [ho, hx, hy, Sem.run_bind, hr, Result.andThen_ok, Sem.run_pure]
  exact h _ (setRow_heap w b c _ 38 (0, 0) hw) (grown_setRow w b _)
end Go.Proofs.YtkbfihnoohhojaaDoor.Fla

namespace Go.Proofs.YtkbfihnoohhojaaDoor.Fla
open Go.ChangeShapes Go.WideShapes Go.ChangeAt Go.WideMaps Go.WideElems Go.RowKit Go.Deep

theorem add_none (b off j : Nat) : (⟨b, off, none⟩ : Addr).add j = ⟨b, off + j, none⟩ := by
  unfold Addr.add
  split
  · rename_i h; subst h; rfl
  · rfl

theorem six_of_len {α : Type} (l : List α) (h : l.length = 6) : ∃ a b c d e f, l = [a, b, c, d, e, f] := by
  match l, h with
  | [a, b, c, d, e, f], _ => exact ⟨a, b, c, d, e, f, rfl⟩

/-- Numbers that came in. -/
theorem open_keep {H : Type} {enc : TypeId × Value → H} {W : World} {v : Value} {x : DataW H × List MemPlace} {fuel : Nat} (hf : DataW.trod enc Tryd.prog W 0 (fun _ => true) true fuel 26 [v] = some x) :
    ∃ ks, KLow W W.heap.size v ks := by
  rcases open_ints Tryd.underlying26 Tryd.underlying3 (by kernel_rfl) hf with ⟨hcs, _⟩ | ⟨a, l, c, zs, hcs, _, hl, hm, hz, _, hcell, hwz⟩
  · simp at hcs
    subst hcs
    exact ⟨[], none, 0, rfl, Nat.zero_le _, by unfold maxLen; omega, by simp⟩
  · simp at hcs
    subst hcs
    have hz' : zs.length = c := by simpa using hz
    have hlen : (zs.take l).length = l := by simp; omega
    refine ⟨zs.take l, some a, c, by rw [hlen], by rw [hlen]; exact hl, hm, fun k z hk => ?_⟩
    have hkl : k < l := by
      have := (List.getElem?_eq_some_iff.1 hk).1
      omega
    have hkz : zs[k]? = some z := by rw [List.getElem?_take, if_pos hkl] at hk; exact hk
    have q := hcell k (by omega)
    rw [List.getD, hkz] at q
    have qz := hcell 0 (by omega)
    obtain ⟨b, off, spot⟩ := a
    have hspot : spot = none := by simpa [Addr.add] using World.cell?_spot qz
    subst hspot
    have hbl : b < W.heap.size := by
      have := World.block_lt_of_cell? W _ qz
      simpa [Addr.add] using this
    rw [add_none] at q
    exact ⟨b, off, rfl, hbl, hbl, q⟩

theorem open_acts {H : Type} {enc : TypeId × Value → H} {W : World} {v : Value} {d : DataW H} {p : List MemPlace} (h : DataW.Trod enc Tryd.prog W 0 (fun _ => true) true 22 v d p) (hv : ∃ a len cap, v = .slice a len cap) :
    ∃ os, ActsAt W W.heap.size v os := by
  obtain ⟨a0, len0, cap0, rfl⟩ := hv
  obtain ⟨fuel, hf⟩ := h
  rcases open_slice Tryd.underlying22 hf with ⟨hcs, _⟩ | ⟨a, len, cap, m, n, D, Pl, hcs, hb, hl, hm, hmm, _, hx⟩
  · simp [Value.cells] at hcs
    obtain ⟨rfl, rfl, rfl⟩ := hcs
    exact ⟨[], none, 0, rfl, Nat.zero_le _, by unfold maxLen; omega, by simp⟩
  · simp [Value.cells] at hcs
    obtain ⟨rfl, rfl, rfl⟩ := hcs
    have c42 : Tryd.prog.cellsOf 42 = 6 := by kernel_rfl
    have c5 : Tryd.prog.cellsOf 5 = 1 := by kernel_rfl
    have c3 : Tryd.prog.cellsOf 3 = 1 := by kernel_rfl
    have c26 : Tryd.prog.cellsOf 26 = 1 := by kernel_rfl
    have hlm : len0 ≤ m := by rw [hmm]; split <;> omega
    have each : ∀ i, i < len0 → ∃ o : Act4, ActOk W W.heap.size o ∧ W.cell? (a.add (i * 6)) = some (.int .i64 o.kind) ∧ W.cell? (a.add (i * 6 + 1)) = some (.int .i64 o.at_) ∧ W.cell? (a.add (i * 6 + 2)) = some (.int .u8 (o.a : Int)) ∧ W.cell? (a.add (i * 6 + 3)) = some (.int .u8 (o.b : Int)) ∧ W.cell? (a.add (i * 6 + 4)) = some (.int .i64 o.n) ∧ W.cell? (a.add (i * 6 + 5)) = some o.kv := by
      intro i hi
      obtain ⟨cs', h1, h2⟩ := hx i (by omega)
      rw [c42] at h1
      obtain ⟨_, hlen, hcell⟩ := World.cells?_some h1
      obtain ⟨xs, k, _, _, _, hlen6, hfs⟩ := DataW.trod_struct Tryd.underlying42 h2
      obtain ⟨v0, v1, v2, v3, v4, v5, rfl⟩ := six_of_len cs' hlen
      obtain ⟨y0, y1, y2, y3, y4, y5, rfl⟩ := six_of_len xs hlen6
      have g0 := hfs 0 _ rfl
      have g1 := hfs 1 _ rfl
      have g2 := hfs 2 _ rfl
      have g3 := hfs 3 _ rfl
      have g4 := hfs 4 _ rfl
      have g5 := hfs 5 _ rfl
      simp [c3, c5, c26] at g0 g1 g2 g3 g4 g5
      obtain ⟨n0, e0, _, w0⟩ := DataW.trod_int Tryd.underlying3 g0
      obtain ⟨n1, e1, _, w1⟩ := DataW.trod_int Tryd.underlying3 g1
      obtain ⟨n2, e2, _, w2⟩ := DataW.trod_int Tryd.underlying5 g2
      obtain ⟨n3, e3, _, w3⟩ := DataW.trod_int Tryd.underlying5 g3
      obtain ⟨n4, e4, _, w4⟩ := DataW.trod_int Tryd.underlying3 g4
      obtain ⟨ks, hks⟩ := open_keep g5
      simp at e0 e1 e2 e3 e4
      subst e0 e1 e2 e3 e4
      have q0 := hcell 0 (by omega)
      have q1 := hcell 1 (by omega)
      have q2 := hcell 2 (by omega)
      have q3 := hcell 3 (by omega)
      have q4 := hcell 4 (by omega)
      have q5 := hcell 5 (by omega)
      rw [Go.Deep.add_add] at q0 q1 q2 q3 q4 q5
      have b2 := bounds_u8 w2
      have b3 := bounds_u8 w3
      have t2 : ((n2.toNat : Nat) : Int) = n2 := by omega
      have t3 : ((n3.toNat : Nat) : Int) = n3 := by omega
      refine ⟨⟨n0, n1, n2.toNat, n3.toNat, n4, ks, v5⟩, ⟨hks, ?_, ?_, bounds_i64 w0, bounds_i64 w1, bounds_i64 w4⟩, by simpa using q0, by simpa using q1, ?_, ?_, by simpa using q4, by simpa using q5⟩
      · show n2.toNat < 256; omega
      · show n3.toNat < 256; omega
      · rw [t2]; simpa using q2
      · rw [t3]; simpa using q3
    have : Inhabited Act4 := ⟨⟨0, 0, 0, 0, 0, [], .nilIface⟩⟩
    obtain ⟨q, hq⟩ := choose_lt each
    have hlen : ((List.range len0).map q).length = len0 := by simp
    refine ⟨(List.range len0).map q, some a, cap0, by rw [hlen], by rw [hlen]; exact hl, hm, fun i o hi => ?_⟩
    have hkl : i < len0 := by
      have := (List.getElem?_eq_some_iff.1 hi).1
      simpa using this
    have e : q i = o := by
      rw [List.getElem?_map, List.getElem?_range hkl] at hi
      simpa using hi
    obtain ⟨ok, a0, a1, a2, a3, a4, a5⟩ := hq i hkl
    have qz := (hq 0 (by omega)).2.1
    rw [e] at ok a0 a1 a2 a3 a4 a5
    obtain ⟨b, off, spot⟩ := a
    have hspot : spot = none := by simpa [Addr.add] using World.cell?_spot qz
    subst hspot
    have hbl : b < W.heap.size := by
      have := World.block_lt_of_cell? W _ qz
      simpa [Addr.add] using this
    rw [add_none] at a0 a1 a2 a3 a4 a5
    exact ⟨ok, b, off, rfl, hbl, hbl, a0, a1, a2, a3, a4, a5⟩
theorem open_keeps {H : Type} {enc : TypeId × Value → H} {W : World} {v : Value} {d : DataW H} {p : List MemPlace} (h : DataW.Trod enc Tryd.prog W 0 (fun _ => true) true 26 v d p) (hv : ∃ a len cap, v = .slice a len cap) :
    ∃ ks, KLow W W.heap.size v ks := by
  obtain ⟨a0, len0, cap0, rfl⟩ := hv
  obtain ⟨fuel, hf⟩ := h
  exact open_keep (x := (d, p)) (by simpa [Value.cells] using hf)
end Go.Proofs.YtkbfihnoohhojaaDoor.Fla
