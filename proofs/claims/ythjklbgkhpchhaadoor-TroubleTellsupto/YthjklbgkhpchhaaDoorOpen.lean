/-
  A slice of links that came in, opened.
-/
import Derived.Test.YthjklbgkhpchhaaDoorMade
import Derived.ProofKit
import Derived.OpenShut
import Derived.Deep.Strs
namespace Go.Proofs.YthjklbgkhpchhaaDoor
open Go.ChangeShapes Go.WideShapes Go.ChangeAt Go.WideMaps Go.WideElems Go.RowKit Go.Deep

/-- A link's numbers are of 64 bits. -/
def In64 (l : Lnk) : Prop := (Lit.int .i64 l.2.1).wf = true ∧ (Lit.int .i64 l.2.2).wf = true

theorem three_of_len {α : Type} (l : List α) (h : l.length = 3) : ∃ a b c, l = [a, b, c] := by
  match l, h with
  | [a, b, c], _ => exact ⟨a, b, c, rfl⟩

theorem open_steps {H : Type} {enc : TypeId × Value → H} {W : World} {v : Value} {d : DataW H} {p : List MemPlace} (h : DataW.Trod enc Tryd.prog W 0 (fun _ => true) true 23 v d p) (hv : ∃ a len cap, v = .slice a len cap) :
    ∃ ls, Steps W v ls ∧ ∀ l ∈ ls, In64 l := by
  obtain ⟨a0, len0, cap0, rfl⟩ := hv
  obtain ⟨fuel, hf⟩ := h
  rcases open_slice Tryd.underlying23 hf with ⟨hcs, _⟩ | ⟨a, len, cap, m, n, D, Pl, hcs, hb, hl, hm, hmm, _, hx⟩
  · simp [Value.cells] at hcs
    obtain ⟨rfl, rfl, rfl⟩ := hcs
    exact ⟨[], ⟨_, _, rfl, Nat.zero_le _, .inl rfl⟩, by simp⟩
  · simp [Value.cells] at hcs
    obtain ⟨rfl, rfl, rfl⟩ := hcs
    have c32 : Tryd.prog.cellsOf 32 = 3 := by kernel_rfl
    have c9 : Tryd.prog.cellsOf 9 = 1 := by kernel_rfl
    have c3 : Tryd.prog.cellsOf 3 = 1 := by kernel_rfl
    have c22 : Tryd.prog.cellsOf 22 = 1 := by kernel_rfl
    have hlm : len0 ≤ m := by rw [hmm]; split <;> omega
    have each : ∀ i, i < len0 → ∃ q : Lnk, W.cell? (a.add (i * 3)) = some (.string q.1) ∧ W.cell? (a.add (i * 3 + 1)) = some (.int .i64 q.2.1) ∧ W.cell? (a.add (i * 3 + 2)) = some (.int .i64 q.2.2) ∧ In64 q := by
      intro i hi
      obtain ⟨cs', h1, h2⟩ := hx i (by omega)
      rw [c32] at h1
      obtain ⟨_, hlen, hcell⟩ := World.cells?_some h1
      obtain ⟨y0, y1, y2, k, _, _, g0, g1, g2⟩ := trod_struct3 Tryd.underlying32 h2
      obtain ⟨v0, v1, v2, rfl⟩ := three_of_len cs' hlen
      obtain ⟨s, e0, _, _⟩ := DataW.trod_string Tryd.underlying9 g0
      obtain ⟨n1, e1, _, w1⟩ := DataW.trod_int Tryd.underlying3 g1
      obtain ⟨n2, e2, _, w2⟩ := DataW.trod_int Tryd.underlying22 g2
      simp [c9] at e0
      simp [c3] at e1
      simp [c22] at e2
      subst e0 e1 e2
      have q0 := hcell 0 (by omega)
      have q1 := hcell 1 (by omega)
      have q2 := hcell 2 (by omega)
      rw [Go.Deep.add_add] at q0 q1 q2
      exact ⟨(s, n1, n2), by simpa using q0, by simpa using q1, by simpa using q2, w1, w2⟩
    have : Inhabited Lnk := ⟨(ByteArray.empty, 0, 0)⟩
    obtain ⟨q, hq⟩ := choose_lt each
    have hlen : ((List.range len0).map q).length = len0 := by simp
    refine ⟨(List.range len0).map q, ⟨some a, cap0, by rw [hlen], by rw [hlen]; omega, ?_⟩, ?_⟩
    · rcases Nat.eq_zero_or_pos len0 with h0 | hpos
      · left; rw [h0]; rfl
      · right
        obtain ⟨b, off, spot⟩ := a
        have z := (hq 0 hpos).1
        have hspot : spot = none := by simpa [Addr.add] using World.cell?_spot z
        subst hspot
        have hbl : b < W.heap.size := by
          have := World.block_lt_of_cell? W _ z
          simpa [Addr.add] using this
        refine ⟨b, off, rfl, hbl, fun k op x y hk => ?_⟩
        have hkl : k < len0 := by
          have := (List.getElem?_eq_some_iff.1 hk).1
          simpa using this
        have e : q k = (op, x, y) := by
          rw [List.getElem?_map, List.getElem?_range hkl] at hk
          simpa using hk
        obtain ⟨a0, a1, a2, _⟩ := hq k hkl
        rw [e, add_plain] at a0 a1 a2
        exact ⟨a0, a1, a2⟩
    · intro l hl
      obtain ⟨i, hi, rfl⟩ := List.mem_map.1 hl
      exact (hq i (List.mem_range.1 hi)).2.2.2
end Go.Proofs.YthjklbgkhpchhaaDoor
