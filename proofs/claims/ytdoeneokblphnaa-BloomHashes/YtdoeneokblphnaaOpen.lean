/-
  Slices of keys that came in, opened.
-/
import Derived.Test.YtdoeneokblphnaaWorks
import Derived.ProofKit
import Derived.OpenShut
import Derived.ChangeOld
import Derived.SliceStrings
import Derived.ChangeMaps5
namespace Go.Proofs.Ytdoeneokblphnaa
open Go.ChangeShapes Go.WideShapes Go.ChangeAt Go.WideMaps Go.WideElems Go.RowKit

theorem Try.own : ownKnob Try.prog.godebug = none := by kernel_rfl
theorem Try.laidOut : laidOutB Try.prog = true := by kernel_rfl

theorem sl_of_keys {W : World} {x : Addr} {len cap : Nat} {zs : List ByteArray} (hl : len ≤ cap) (hm : cap ≤ maxLen) (hz : zs.length = cap) (hcell : ∀ i, i < zs.length → W.cell? (x.add i) = some (.string (zs.getD i ByteArray.empty))) :
    ∃ b, SlAt W b (.slice (some x) len cap) (S (zs.take len)) := by
  have hlen : (S (zs.take len)).length = len := by rw [S_length, List.length_take]; omega
  rcases Nat.eq_zero_or_pos len with h0 | hpos
  · subst h0
    exact ⟨0, .inr ⟨x, cap, by rw [hlen], by omega, hm, .inl (by simp [S])⟩⟩
  · obtain ⟨b, off, spot⟩ := x
    have z := hcell 0 (by omega)
    have hspot : spot = none := by simpa [Addr.add] using World.cell?_spot z
    subst hspot
    have hbl : b < W.heap.size := by
      have := World.block_lt_of_cell? W _ z
      simpa [Addr.add] using this
    refine ⟨b, .inr ⟨_, cap, by rw [hlen], by omega, hm, .inr ⟨off, rfl, hbl, fun j u hj => ?_⟩⟩⟩
    have hjl : j < len := by have := (List.getElem?_eq_some_iff.1 hj).1; omega
    have := hcell j (by omega)
    rw [add_off] at this
    rw [this]
    unfold S at hj
    rw [List.getElem?_map, List.getElem?_take, if_pos hjl, List.getElem?_eq_getElem (by omega)] at hj
    simp at hj
    subst hj
    simp [List.getD, List.getElem?_eq_getElem (show j < zs.length by omega)]

theorem open_keys {H : Type} {enc : TypeId × Value → H} {W : World} {v : Value} {d : DataW H} {p : List MemPlace} (h : DataW.Trod enc Try.prog W 0 (fun _ => true) true 28 v d p) (hv : ∃ a len cap, v = .slice a len cap) :
    ∃ b ks, SlAt W b v (S ks) ∧ ∀ k ∈ ks, k.size ≤ maxLen := by
  obtain ⟨a0, len0, cap0, rfl⟩ := hv
  obtain ⟨fuel, hf⟩ := h
  rcases open_strings Try.underlying28 Try.underlying9 (by kernel_rfl) hf with ⟨hcs, _⟩ | ⟨x, l, c, zs, hcs, _, hl, hm, hz, _, hcell, hwz⟩
  · simp [Value.cells] at hcs
    obtain ⟨rfl, rfl, rfl⟩ := hcs
    exact ⟨0, [], SlAt.nil _ _, fun x hx => by cases hx⟩
  · simp [Value.cells] at hcs
    obtain ⟨rfl, rfl, rfl⟩ := hcs
    obtain ⟨b, hb⟩ := sl_of_keys hl hm (by simpa using hz) hcell
    exact ⟨b, zs.take len0, hb, fun k hk => hwz k (List.mem_of_mem_take hk)⟩
end Go.Proofs.Ytdoeneokblphnaa
