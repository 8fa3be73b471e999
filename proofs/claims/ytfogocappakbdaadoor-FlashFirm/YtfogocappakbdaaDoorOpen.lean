/-
  A slice of acts, and a slice of numbers, that came in, opened.
-/
import Derived.Test.YtfogocappakbdaaDoorActs
import Derived.ProofKit
import Derived.OpenShut
import Derived.Deep.Strs
namespace Go.Proofs.YtfogocappakbdaaDoor
open Go.ChangeShapes Go.WideShapes Go.ChangeAt Go.WideMaps Go.WideElems Go.RowKit Go.Deep

theorem add_none (b off j : Nat) : (⟨b, off, none⟩ : Addr).add j = ⟨b, off + j, none⟩ := by
  unfold Addr.add
  split
  · rename_i h; subst h; rfl
  · rfl

theorem six_of_len {α : Type} (l : List α) (h : l.length = 6) : ∃ a b c d e f, l = [a, b, c, d, e, f] := by
  match l, h with
  | [a, b, c, d, e, f], _ => exact ⟨a, b, c, d, e, f, rfl⟩

/-- Numbers that came in. -/
theorem open_keep {H : Type} {enc : TypeId × Value → H} {W : World} {v : Value} {x : DataW H × List MemPlace} {fuel : Nat} (hf : DataW.trod enc Tryd.prog W 0 (fun _ => true) true fuel 40 [v] = some x) :
    ∃ ks, KLow W W.heap.size v ks := by
  rcases open_ints Tryd.underlying40 Tryd.underlying3 (by kernel_rfl) hf with ⟨hcs, _⟩ | ⟨a, l, c, zs, hcs, _, hl, hm, hz, _, hcell, hwz⟩
  · simp at hcs
    subst hcs
    exact ⟨[], none, 0, rfl, Nat.zero_le _, by unfold maxLen; omega, by simp⟩
  · simp at hcs
    subst hcs
    have hz' : zs.length = c := by simpa using hz
    have hlen : (zs.take l).length = l := by simp; omega
    refine ⟨zs.take l, some a, c, by rw [hlen], by rw [hlen]; exact hl, hm, fun k z hk => ?_⟩
    have hkl : k < l := by
      have := (List.getElem?_eq_some_iff.1 hk).1
      omega
    have hkz : zs[k]? = some z := by rw [List.getElem?_take, if_pos hkl] at hk; exact hk
    have q := hcell k (by omega)
    rw [List.getD, hkz] at q
    have qz := hcell 0 (by omega)
    obtain ⟨b, off, spot⟩ := a
    have hspot : spot = none := by simpa [Addr.add] using World.cell?_spot qz
    subst hspot
    have hbl : b < W.heap.size := by
      have := World.block_lt_of_cell? W _ qz
      simpa [Addr.add] using this
    rw [add_none] at q
    exact ⟨b, off, rfl, hbl, hbl, q⟩

theorem open_acts {H : Type} {enc : TypeId × Value → H} {W : World} {v : Value} {d : DataW H} {p : List MemPlace} (h : DataW.Trod enc Tryd.prog W 0 (fun _ => true) true 22 v d p) (hv : ∃ a len cap, v = .slice a len cap) :
    ∃ os, ActsAt W W.heap.size v os := by
  obtain ⟨a0, len0, cap0, rfl⟩ := hv
  obtain ⟨fuel, hf⟩ := h
  rcases open_slice Tryd.underlying22 hf with ⟨hcs, _⟩ | ⟨a, len, cap, m, n, D, Pl, hcs, hb, hl, hm, hmm, _, hx⟩
  · simp [Value.cells] at hcs
    obtain ⟨rfl, rfl, rfl⟩ := hcs
    exact ⟨[], none, 0, rfl, Nat.zero_le _, by unfold maxLen; omega, by simp⟩
  · simp [Value.cells] at hcs
    obtain ⟨rfl, rfl, rfl⟩ := hcs
    have c42 : Tryd.prog.cellsOf 42 = 6 := by kernel_rfl
    have c5 : Tryd.prog.cellsOf 5 = 1 := by kernel_rfl
    have c3 : Tryd.prog.cellsOf 3 = 1 := by kernel_rfl
    have c40 : Tryd.prog.cellsOf 40 = 1 := by kernel_rfl
    have hlm : len0 ≤ m := by rw [hmm]; split <;> omega
    have each : ∀ i, i < len0 → ∃ o : Act4, ActOk W W.heap.size o ∧ W.cell? (a.add (i * 6)) = some (.int .i64 o.kind) ∧ W.cell? (a.add (i * 6 + 1)) = some (.int .i64 o.at_) ∧ W.cell? (a.add (i * 6 + 2)) = some (.int .u8 (o.a : Int)) ∧ W.cell? (a.add (i * 6 + 3)) = some (.int .u8 (o.b : Int)) ∧ W.cell? (a.add (i * 6 + 4)) = some (.int .i64 o.n) ∧ W.cell? (a.add (i * 6 + 5)) = some o.kv := by
      intro i hi
      obtain ⟨cs', h1, h2⟩ := hx i (by omega)
      rw [c42] at h1
      obtain ⟨_, hlen, hcell⟩ := World.cells?_some h1
      obtain ⟨xs, k, _, _, _, hlen6, hfs⟩ := DataW.trod_struct Tryd.underlying42 h2
      obtain ⟨v0, v1, v2, v3, v4, v5, rfl⟩ := six_of_len cs' hlen
      obtain ⟨y0, y1, y2, y3, y4, y5, rfl⟩ := six_of_len xs hlen6
      have g0 := hfs 0 _ rfl
      have g1 := hfs 1 _ rfl
      have g2 := hfs 2 _ rfl
      have g3 := hfs 3 _ rfl
      have g4 := hfs 4 _ rfl
      have g5 := hfs 5 _ rfl
      simp [c3, c5, c40] at g0 g1 g2 g3 g4 g5
      obtain ⟨n0, e0, _, w0⟩ := DataW.trod_int Tryd.underlying3 g0
      obtain ⟨n1, e1, _, w1⟩ := DataW.trod_int Tryd.underlying3 g1
      obtain ⟨n2, e2, _, w2⟩ := DataW.trod_int Tryd.underlying5 g2
      obtain ⟨n3, e3, _, w3⟩ := DataW.trod_int Tryd.underlying5 g3
      obtain ⟨n4, e4, _, w4⟩ := DataW.trod_int Tryd.underlying3 g4
      obtain ⟨ks, hks⟩ := open_keep g5
      simp at e0 e1 e2 e3 e4
      subst e0 e1 e2 e3 e4
      have q0 := hcell 0 (by omega)
      have q1 := hcell 1 (by omega)
      have q2 := hcell 2 (by omega)
      have q3 := hcell 3 (by omega)
      have q4 := hcell 4 (by omega)
      have q5 := hcell 5 (by omega)
      rw [Go.Deep.add_add] at q0 q1 q2 q3 q4 q5
      have b2 := bounds_u8 w2
      have b3 := bounds_u8 w3
      have t2 : ((n2.toNat : Nat) : Int) = n2 := by omega
      have t3 : ((n3.toNat : Nat) : Int) = n3 := by omega
      refine ⟨⟨n0, n1, n2.toNat, n3.toNat, n4, ks, v5⟩, ⟨hks, ?_, ?_, bounds_i64 w0, bounds_i64 w1, bounds_i64 w4⟩, by simpa using q0, by simpa using q1, ?_, ?_, by simpa using q4, by simpa using q5⟩
      · show n2.toNat < 256; omega
      · show n3.toNat < 256; omega
      · rw [t2]; simpa using q2
      · rw [t3]; simpa using q3
    have : Inhabited Act4 := ⟨⟨0, 0, 0, 0, 0, [], .nilIface⟩⟩
    obtain ⟨q, hq⟩ := choose_lt each
    have hlen : ((List.range len0).map q).length = len0 := by simp
    refine ⟨(List.range len0).map q, some a, cap0, by rw [hlen], by rw [hlen]; exact hl, hm, fun i o hi => ?_⟩
    have hkl : i < len0 := by
      have := (List.getElem?_eq_some_iff.1 hi).1
      simpa using this
    have e : q i = o := by
      rw [List.getElem?_map, List.getElem?_range hkl] at hi
      simpa using hi
    obtain ⟨ok, a0, a1, a2, a3, a4, a5⟩ := hq i hkl
    have qz := (hq 0 (by omega)).2.1
    rw [e] at ok a0 a1 a2 a3 a4 a5
    obtain ⟨b, off, spot⟩ := a
    have hspot : spot = none := by simpa [Addr.add] using World.cell?_spot qz
    subst hspot
    have hbl : b < W.heap.size := by
      have := World.block_lt_of_cell? W _ qz
      simpa [Addr.add] using this
    rw [add_none] at a0 a1 a2 a3 a4 a5
    exact ⟨ok, b, off, rfl, hbl, hbl, a0, a1, a2, a3, a4, a5⟩
end Go.Proofs.YtfogocappakbdaaDoor
