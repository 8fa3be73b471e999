/-
  A slice of acts that came in, opened.
-/
import Derived.Test.YtibplphpbbajhaaDoorLawSound
import Derived.ProofKit
import Derived.OpenShut
import Derived.Deep.Strs
namespace Go.Proofs.YtibplphpbbajhaaDoor
open Go.ChangeShapes Go.WideShapes Go.ChangeAt Go.WideMaps Go.WideElems Go.RowKit Go.Deep

theorem add_none (b off j : Nat) : (⟨b, off, none⟩ : Addr).add j = ⟨b, off + j, none⟩ := by
  unfold Addr.add
  split
  · rename_i h; subst h; rfl
  · rfl

theorem two_of_len {α : Type} (l : List α) (h : l.length = 2) : ∃ a b, l = [a, b] := by
  match l, h with
  | [a, b], _ => exact ⟨a, b, rfl⟩

theorem open_acts {H : Type} {enc : TypeId × Value → H} {W : World} {v : Value} {d : DataW H} {p : List MemPlace} (h : DataW.Trod enc Tryd.prog W 0 (fun _ => true) true 22 v d p) (hv : ∃ a len cap, v = .slice a len cap) :
    ∃ os, ActsAt W v os := by
  obtain ⟨a0, len0, cap0, rfl⟩ := hv
  obtain ⟨fuel, hf⟩ := h
  rcases open_slice Tryd.underlying22 hf with ⟨hcs, _⟩ | ⟨a, len, cap, m, n, D, Pl, hcs, hb, hl, hm, hmm, _, hx⟩
  · simp [Value.cells] at hcs
    obtain ⟨rfl, rfl, rfl⟩ := hcs
    exact ⟨[], none, 0, rfl, Nat.zero_le _, by unfold maxLen; omega, by simp⟩
  · simp [Value.cells] at hcs
    obtain ⟨rfl, rfl, rfl⟩ := hcs
    have c40 : Tryd.prog.cellsOf 40 = 2 := by kernel_rfl
    have c3 : Tryd.prog.cellsOf 3 = 1 := by kernel_rfl
    have hlm : len0 ≤ m := by rw [hmm]; split <;> omega
    have each : ∀ i, i < len0 → ∃ o : Act9, (I64 o.1 ∧ I64 o.2) ∧ W.cell? (a.add (i * 2)) = some (.int .i64 o.1) ∧ W.cell? (a.add (i * 2 + 1)) = some (.int .i64 o.2) := by
      intro i hi
      obtain ⟨cs', h1, h2⟩ := hx i (by omega)
      rw [c40] at h1
      obtain ⟨_, hlen, hcell⟩ := World.cells?_some h1
      obtain ⟨xs, k, _, _, _, hlen6, hfs⟩ := DataW.trod_struct Tryd.underlying40 h2
      obtain ⟨v0, v1, rfl⟩ := two_of_len cs' hlen
      obtain ⟨y0, y1, rfl⟩ := two_of_len xs hlen6
      have g0 := hfs 0 _ rfl
      have g1 := hfs 1 _ rfl
      simp [c3] at g0 g1
      obtain ⟨n0, e0, _, w0⟩ := DataW.trod_int Tryd.underlying3 g0
      obtain ⟨n1, e1, _, w1⟩ := DataW.trod_int Tryd.underlying3 g1
      simp at e0 e1
      subst e0 e1
      have q0 := hcell 0 (by omega)
      have q1 := hcell 1 (by omega)
      rw [Go.Deep.add_add] at q0 q1
      exact ⟨(n0, n1), ⟨bounds_i64 w0, bounds_i64 w1⟩, by simpa using q0, by simpa using q1⟩
    have : Inhabited Act9 := ⟨(0, 0)⟩
    obtain ⟨q, hq⟩ := choose_lt each
    have hlen : ((List.range len0).map q).length = len0 := by simp
    refine ⟨(List.range len0).map q, some a, cap0, by rw [hlen], by rw [hlen]; exact hl, hm, fun i o hi => ?_⟩
    have hkl : i < len0 := by
      have := (List.getElem?_eq_some_iff.1 hi).1
      simpa using this
    have e : q i = o := by
      rw [List.getElem?_map, List.getElem?_range hkl] at hi
      simpa using hi
    obtain ⟨ok, a0, a1⟩ := hq i hkl
    have qz := (hq 0 (by omega)).2.1
    rw [e] at ok a0 a1
    obtain ⟨b, off, spot⟩ := a
    have hspot : spot = none := by simpa [Addr.add] using World.cell?_spot qz
    subst hspot
    have hbl : b < W.heap.size := by
      have := World.block_lt_of_cell? W _ qz
      simpa [Addr.add] using this
    rw [add_none] at a0 a1
    exact ⟨b, off, rfl, hbl, a0, a1, ok⟩
end Go.Proofs.YtibplphpbbajhaaDoor
