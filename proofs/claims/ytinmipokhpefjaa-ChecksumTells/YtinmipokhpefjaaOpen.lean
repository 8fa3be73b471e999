/-
  Slices of bytes that came in, opened.
-/
import Derived.Test.YtinmipokhpefjaaWorks
import Derived.ProofKit
import Derived.OpenShut
import Derived.ChangeOld
namespace Go.Proofs.Ytinmipokhpefjaa
open Go.ChangeShapes Go.WideShapes Go.ChangeAt Go.WideMaps Go.WideElems Go.RowKit

theorem Try.own : ownKnob Try.prog.godebug = none := by kernel_rfl
theorem Try.laidOut : laidOutB Try.prog = true := by kernel_rfl

theorem sl_of_row {k : IntKind} {W : World} {x : Addr} {len cap : Nat} {zs : List Int} (hl : len ≤ cap) (hm : cap ≤ maxLen) (hz : zs.length = cap) (hcell : ∀ i, i < zs.length → W.cell? (x.add i) = some (.int k (zs.getD i 0))) :
    ∃ b, SlAt W b (.slice (some x) len cap) ((zs.take len).map (Value.int k)) := by
  have hlen : ((zs.take len).map (Value.int k)).length = len := by rw [List.length_map, List.length_take]; omega
  rcases Nat.eq_zero_or_pos len with h0 | hpos
  · subst h0
    exact ⟨0, .inr ⟨x, cap, by rw [hlen], by omega, hm, .inl (by simp)⟩⟩
  · obtain ⟨b, off, spot⟩ := x
    have z := hcell 0 (by omega)
    have hspot : spot = none := by simpa [Addr.add] using World.cell?_spot z
    subst hspot
    have hbl : b < W.heap.size := by
      have := World.block_lt_of_cell? W _ z
      simpa [Addr.add] using this
    refine ⟨b, .inr ⟨_, cap, by rw [hlen], by omega, hm, .inr ⟨off, rfl, hbl, fun j u hj => ?_⟩⟩⟩
    have hjl : j < len := by have := (List.getElem?_eq_some_iff.1 hj).1; omega
    have := hcell j (by omega)
    rw [add_off] at this
    rw [this]
    rw [List.getElem?_map, List.getElem?_take, if_pos hjl, List.getElem?_eq_getElem (by omega)] at hj
    simp at hj
    subst hj
    simp [List.getD, List.getElem?_eq_getElem (show j < zs.length by omega)]

theorem U_toNat {l : List Int} (h : ∀ x ∈ l, 0 ≤ x) : U (l.map Int.toNat) = l.map (Value.int .u8) := by
  simp only [U, List.map_map]
  apply List.map_congr_left
  intro x hx
  have := h x hx
  simp only [Function.comp_apply]
  congr 1
  omega

theorem open_bytes {H : Type} {enc : TypeId × Value → H} {W : World} {v : Value} {d : DataW H} {p : List MemPlace} (h : DataW.Trod enc Try.prog W 0 (fun _ => true) true 22 v d p) (hv : ∃ a len cap, v = .slice a len cap) :
    ∃ b bs, SlAt W b v (U bs) ∧ Byt bs := by
  obtain ⟨a0, len0, cap0, rfl⟩ := hv
  obtain ⟨fuel, hf⟩ := h
  rcases open_ints Try.underlying22 Try.underlying5 (by kernel_rfl) hf with ⟨hcs, _⟩ | ⟨x, l, c, zs, hcs, _, hl, hm, hz, _, hcell, hwz⟩
  · simp [Value.cells] at hcs
    obtain ⟨rfl, rfl, rfl⟩ := hcs
    exact ⟨0, [], SlAt.nil _ _, fun x hx => by cases hx⟩
  · simp [Value.cells] at hcs
    obtain ⟨rfl, rfl, rfl⟩ := hcs
    obtain ⟨b, hb⟩ := sl_of_row hl hm (by simpa using hz) hcell
    refine ⟨b, (zs.take len0).map Int.toNat, ?_, ?_⟩
    · rw [U_toNat (fun x hx => (bounds_u8 (hwz x (List.mem_of_mem_take hx))).1)]; exact hb
    · intro y hy
      obtain ⟨x, hx, rfl⟩ := List.mem_map.1 hy
      have := bounds_u8 (hwz x (List.mem_of_mem_take hx))
      omega
end Go.Proofs.Ytinmipokhpefjaa
