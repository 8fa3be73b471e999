/-
  Slices of bytes, and leaves, that came in, opened.
-/
import Derived.Test.YtcdcdlofgeoonaaDoorBase
import Derived.Test.YtcdcdlofgeoonaaDoorApp
import Derived.ProofKit
import Derived.OpenShut
import Derived.ChangeOld
import Derived.Deep.Strs
namespace Go.Proofs.YtcdcdlofgeoonaaDoor
open Go.ChangeShapes Go.WideShapes Go.ChangeAt Go.WideMaps Go.WideElems Go.RowKit Go.Deep

theorem sl_of_row {k : IntKind} {W : World} {x : Addr} {len cap : Nat} {zs : List Int} (hl : len ≤ cap) (hm : cap ≤ maxLen) (hz : zs.length = cap) (hcell : ∀ i, i < zs.length → W.cell? (x.add i) = some (.int k (zs.getD i 0))) :
    ∃ b, SlAt W b (.slice (some x) len cap) ((zs.take len).map (Value.int k)) := by
  have hlen : ((zs.take len).map (Value.int k)).length = len := by rw [List.length_map, List.length_take]; omega
  rcases Nat.eq_zero_or_pos len with h0 | hpos
  · subst h0
    exact ⟨0, .inr ⟨x, cap, by rw [hlen], by omega, hm, .inl (by simp)⟩⟩
  · obtain ⟨b, off, spot⟩ := x
    have z := hcell 0 (by omega)
    have hspot : spot = none := by simpa [Addr.add] using World.cell?_spot z
    subst hspot
    have hbl : b < W.heap.size := by
      have := World.block_lt_of_cell? W _ z
      simpa [Addr.add] using this
    refine ⟨b, .inr ⟨_, cap, by rw [hlen], by omega, hm, .inr ⟨off, rfl, hbl, fun j u hj => ?_⟩⟩⟩
    have hjl : j < len := by have := (List.getElem?_eq_some_iff.1 hj).1; omega
    have := hcell j (by omega)
    rw [add_off] at this
    rw [this]
    rw [List.getElem?_map, List.getElem?_take, if_pos hjl, List.getElem?_eq_getElem (by omega)] at hj
    simp at hj
    subst hj
    simp [List.getD, List.getElem?_eq_getElem (show j < zs.length by omega)]

theorem U_toNat {l : List Int} (h : ∀ x ∈ l, 0 ≤ x) : U (l.map Int.toNat) = l.map (Value.int .u8) := by
  simp only [U, List.map_map]
  apply List.map_congr_left
  intro x hx
  have := h x hx
  simp only [Function.comp_apply]
  congr 1
  omega

theorem open_bytes {H : Type} {enc : TypeId × Value → H} {W : World} {v : Value} {d : DataW H} {p : List MemPlace} (h : DataW.Trod enc Tryd.prog W 0 (fun _ => true) true 22 v d p) (hv : ∃ a len cap, v = .slice a len cap) :
    ∃ b bs, SlAt W b v (U bs) ∧ Byt bs := by
  obtain ⟨a0, len0, cap0, rfl⟩ := hv
  obtain ⟨fuel, hf⟩ := h
  rcases open_ints Tryd.underlying22 Tryd.underlying5 (by kernel_rfl) hf with ⟨hcs, _⟩ | ⟨x, l, c, zs, hcs, _, hl, hm, hz, _, hcell, hwz⟩
  · simp [Value.cells] at hcs
    obtain ⟨rfl, rfl, rfl⟩ := hcs
    exact ⟨0, [], SlAt.nil _ _, fun x hx => by cases hx⟩
  · simp [Value.cells] at hcs
    obtain ⟨rfl, rfl, rfl⟩ := hcs
    obtain ⟨b, hb⟩ := sl_of_row hl hm (by simpa using hz) hcell
    refine ⟨b, (zs.take len0).map Int.toNat, ?_, ?_⟩
    · rw [U_toNat (fun x hx => (bounds_u8 (hwz x (List.mem_of_mem_take hx))).1)]; exact hb
    · intro y hy
      obtain ⟨x, hx, rfl⟩ := List.mem_map.1 hy
      have := bounds_u8 (hwz x (List.mem_of_mem_take hx))
      omega

theorem three_of_len {α : Type} (l : List α) (h : l.length = 3) : ∃ a b c, l = [a, b, c] := by
  match l, h with
  | [a, b, c], _ => exact ⟨a, b, c, rfl⟩

theorem open_leaf {H : Type} {enc : TypeId × Value → H} {W : World} {v : Value} {d : DataW H} {p : List MemPlace} (h : DataW.Trod enc Tryd.prog W 0 (fun _ => true) true 24 v d p) (hv : ∃ cs, v = .agg cs ∧ cs.size = Tryd.prog.cellsOf 24) :
    ∃ s k q l cap b, v = .agg #[.int .i64 s, .int .i64 k, .slice q (l : List Nat).length cap] ∧ SlAt W b (.slice q l.length cap) (U l) ∧ Byt l := by
  obtain ⟨cs, rfl, hsz⟩ := hv
  have c24 : Tryd.prog.cellsOf 24 = 3 := by kernel_rfl
  have c3 : Tryd.prog.cellsOf 3 = 1 := by kernel_rfl
  have c22 : Tryd.prog.cellsOf 22 = 1 := by kernel_rfl
  rw [c24] at hsz
  obtain ⟨fuel, hf⟩ := h
  obtain ⟨cl⟩ := cs
  obtain ⟨v0, v1, v2, rfl⟩ := three_of_len cl (by simpa using hsz)
  have hf' : DataW.trod enc Tryd.prog W 0 (fun _ => true) true fuel 24 [v0, v1, v2] = some (d, p) := by simpa [Value.cells] using hf
  obtain ⟨xs, k, _, _, _, hlen3, hfs⟩ := DataW.trod_struct Tryd.underlying24 hf'
  obtain ⟨y0, y1, y2, rfl⟩ := three_of_len xs hlen3
  have g0 := hfs 0 _ rfl
  have g1 := hfs 1 _ rfl
  have g2 := hfs 2 _ rfl
  simp [c3, c22] at g0 g1 g2
  obtain ⟨n0, e0, _, _⟩ := DataW.trod_int Tryd.underlying3 g0
  obtain ⟨n1, e1, _, _⟩ := DataW.trod_int Tryd.underlying3 g1
  simp at e0 e1
  subst e0 e1
  rcases open_ints Tryd.underlying22 Tryd.underlying5 (by kernel_rfl) g2 with ⟨hcs, _⟩ | ⟨x, l, c, zs, hcs, _, hl, hm, hz, _, hcell, hwz⟩
  · simp at hcs
    subst hcs
    exact ⟨n0, n1, none, [], 0, 0, rfl, SlAt.nil _ _, fun x hx => by cases hx⟩
  · simp at hcs
    subst hcs
    have hz' : zs.length = c := by simpa using hz
    obtain ⟨b, hb⟩ := sl_of_row hl hm hz' hcell
    have hlen : ((zs.take l).map Int.toNat).length = l := by simp; omega
    refine ⟨n0, n1, some x, (zs.take l).map Int.toNat, c, b, by rw [hlen], ?_, ?_⟩
    · rw [hlen, U_toNat (fun x hx => (bounds_u8 (hwz x (List.mem_of_mem_take hx))).1)]; exact hb
    · intro y hy
      obtain ⟨x, hx, rfl⟩ := List.mem_map.1 hy
      have := bounds_u8 (hwz x (List.mem_of_mem_take hx))
      omega
theorem open_bytes5 {H : Type} {enc : TypeId × Value → H} {W : World} {v : Value} {d : DataW H} {p : List MemPlace} (h : DataW.Trod enc Tryd.prog W 0 (fun _ => true) true 22 v d p) (hv : ∃ a len cap, v = .slice a len cap) :
    ∃ q l cap b, v = .slice q (l : List Nat).length cap ∧ SlAt W b (.slice q l.length cap) (U l) ∧ Byt l := by
  obtain ⟨b, bs, hs, hb⟩ := open_bytes h hv
  obtain ⟨q, cap, e, _, _⟩ := hs.form
  rw [U_length] at e
  subst e
  exact ⟨q, bs, cap, b, rfl, hs, hb⟩
end Go.Proofs.YtcdcdlofgeoonaaDoor
