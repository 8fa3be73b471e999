/-
  A slice of what a reader is asked that came in, opened.
-/
import Derived.Test.YtjjafiibbbhnkaaOpen
import Derived.Test.YtjjafiibbbhnkaaLawReads
import Derived.Deep.Strs
namespace Go.Proofs.Ytjjafiibbbhnkaa
open Go.ChangeShapes Go.WideShapes Go.ChangeAt Go.WideMaps Go.WideElems Go.RowKit Go.Deep

theorem two_of_len {α : Type} (l : List α) (h : l.length = 2) : ∃ a b, l = [a, b] := by
  match l, h with
  | [a, b], _ => exact ⟨a, b, rfl⟩

theorem open_asks {H : Type} {enc : TypeId × Value → H} {W : World} {v : Value} {d : DataW H} {p : List MemPlace} (h : DataW.Trod enc Try.prog W 0 (fun _ => true) true 36 v d p) (hv : ∃ a len cap, v = .slice a len cap) :
    ∃ b qs, AskAt W b v qs ∧ ∀ q ∈ qs, q.2 ≤ 9223372036854775807 := by
  obtain ⟨a0, len0, cap0, rfl⟩ := hv
  obtain ⟨fuel, hf⟩ := h
  rcases open_slice Try.underlying36 hf with ⟨hcs, _⟩ | ⟨a, len, cap, m, n, D, Pl, hcs, hb, hl, hm, hmm, _, hx⟩
  · simp [Value.cells] at hcs
    obtain ⟨rfl, rfl, rfl⟩ := hcs
    exact ⟨0, [], ⟨_, _, rfl, Nat.zero_le _, by unfold maxLen; omega, by simp⟩, by simp⟩
  · simp [Value.cells] at hcs
    obtain ⟨rfl, rfl, rfl⟩ := hcs
    have c42 : Try.prog.cellsOf 42 = 2 := by kernel_rfl
    have c3 : Try.prog.cellsOf 3 = 1 := by kernel_rfl
    have hlm : len0 ≤ m := by rw [hmm]; split <;> omega
    have each : ∀ i, i < len0 → ∃ q : Int × Int, W.cell? (a.add (i * 2)) = some (.int .i64 q.1) ∧ W.cell? (a.add (i * 2 + 1)) = some (.int .i64 q.2) ∧ q.2 ≤ 9223372036854775807 := by
      intro i hi
      obtain ⟨cs', h1, h2⟩ := hx i (by omega)
      rw [c42] at h1
      obtain ⟨_, hlen, hcell⟩ := World.cells?_some h1
      obtain ⟨y0, y1, k, _, _, g0, g1⟩ := trod_struct2 Try.underlying42 h2
      obtain ⟨v0, v1, rfl⟩ := two_of_len cs' hlen
      obtain ⟨n0, e0, _, w0⟩ := DataW.trod_int Try.underlying3 g0
      obtain ⟨n1, e1, _, w1⟩ := DataW.trod_int Try.underlying3 g1
      simp [c3] at e0 e1
      subst e0 e1
      have q0 := hcell 0 (by omega)
      have q1 := hcell 1 (by omega)
      rw [Go.Deep.add_add] at q0 q1
      exact ⟨(n0, n1), by simpa using q0, by simpa using q1, by have := bounds_i64 w1; omega⟩
    have : Inhabited (Int × Int) := ⟨(0, 0)⟩
    obtain ⟨q, hq⟩ := choose_lt each
    have hlen : ((List.range len0).map q).length = len0 := by simp
    rcases Nat.eq_zero_or_pos len0 with h0 | hpos
    · subst h0
      exact ⟨0, [], ⟨some a, cap0, rfl, Nat.zero_le _, by omega, by simp⟩, by simp⟩
    · obtain ⟨b, off, spot⟩ := a
      have z := (hq 0 hpos).1
      have hspot : spot = none := by simpa [Addr.add] using World.cell?_spot z
      subst hspot
      have hbl : b < W.heap.size := by
        have := World.block_lt_of_cell? W _ z
        simpa [Addr.add] using this
      refine ⟨b, (List.range len0).map q, ⟨some ⟨b, off, none⟩, cap0, by rw [hlen], by rw [hlen]; omega, by omega, fun k dd nn hk => ?_⟩, ?_⟩
      · have hkl : k < len0 := by
          have := (List.getElem?_eq_some_iff.1 hk).1
          simpa using this
        have e : q k = (dd, nn) := by
          rw [List.getElem?_map, List.getElem?_range hkl] at hk
          simpa using hk
        obtain ⟨a0, a1, _⟩ := hq k hkl
        rw [e, add_off] at a0 a1
        exact ⟨off, rfl, hbl, a0, a1⟩
      · intro l hl
        obtain ⟨i, hi, rfl⟩ := List.mem_map.1 hl
        exact (hq i (List.mem_range.1 hi)).2.2
end Go.Proofs.Ytjjafiibbbhnkaa
