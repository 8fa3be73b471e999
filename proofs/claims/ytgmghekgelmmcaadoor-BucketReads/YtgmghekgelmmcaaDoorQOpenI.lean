/-
  Slices of bytes, entries, and slices of entries, that came in, opened.
-/
import Derived.Test.YtgmghekgelmmcaaDoorQBase
import Derived.Test.YtgmghekgelmmcaaDoorQIEnts
import Derived.ProofKit
import Derived.OpenShut
import Derived.ChangeOld
import Derived.ChangeArms
import Derived.Deep.Strs
namespace Go.Proofs.YtgmghekgelmmcaaDoor.Ite
open Go.ChangeShapes Go.WideShapes Go.ChangeAt Go.WideMaps Go.WideElems Go.RowKit Go.Deep

theorem sl_of_row {k : IntKind} {W : World} {x : Addr} {len cap : Nat} {zs : List Int} (hl : len ≤ cap) (hm : cap ≤ maxLen) (hz : zs.length = cap) (hcell : ∀ i, i < zs.length → W.cell? (x.add i) = some (.int k (zs.getD i 0))) :
    ∃ b, SlAt W b (.slice (some x) len cap) ((zs.take len).map (Value.int k)) := by
  have hlen : ((zs.take len).map (Value.int k)).length = len := by rw [List.length_map, List.length_take]; omega
  rcases Nat.eq_zero_or_pos len with h0 | hpos
  · subst h0
    exact ⟨0, .inr ⟨x, cap, by rw [hlen], by omega, hm, .inl (by simp)⟩⟩
  · obtain ⟨b, off, spot⟩ := x
    have z := hcell 0 (by omega)
    have hspot : spot = none := by simpa [Addr.add] using World.cell?_spot z
    subst hspot
    have hbl : b < W.heap.size := by
      have := World.block_lt_of_cell? W _ z
      simpa [Addr.add] using this
    refine ⟨b, .inr ⟨_, cap, by rw [hlen], by omega, hm, .inr ⟨off, rfl, hbl, fun j u hj => ?_⟩⟩⟩
    have hjl : j < len := by have := (List.getElem?_eq_some_iff.1 hj).1; omega
    have := hcell j (by omega)
    rw [add_off] at this
    rw [this]
    rw [List.getElem?_map, List.getElem?_take, if_pos hjl, List.getElem?_eq_getElem (by omega)] at hj
    simp at hj
    subst hj
    simp [List.getD, List.getElem?_eq_getElem (show j < zs.length by omega)]

theorem open_bytes {H : Type} {enc : TypeId × Value → H} {W : World} {v : Value} {d : DataW H} {p : List MemPlace} (h : DataW.Trod enc Tryd.prog W 0 (fun _ => true) true 22 v d p) (hv : ∃ a len cap, v = .slice a len cap) :
    ∃ b bs, SlAt W b v (U bs) ∧ Byt bs := by
  obtain ⟨a0, len0, cap0, rfl⟩ := hv
  obtain ⟨fuel, hf⟩ := h
  rcases open_ints Tryd.underlying22 Tryd.underlying5 (by kernel_rfl) hf with ⟨hcs, _⟩ | ⟨x, l, c, zs, hcs, _, hl, hm, hz, _, hcell, hwz⟩
  · simp [Value.cells] at hcs
    obtain ⟨rfl, rfl, rfl⟩ := hcs
    exact ⟨0, [], SlAt.nil _ _, fun x hx => by cases hx⟩
  · simp [Value.cells] at hcs
    obtain ⟨rfl, rfl, rfl⟩ := hcs
    obtain ⟨b, hb⟩ := sl_of_row hl hm (by simpa using hz) hcell
    exact ⟨b, zs.take len0, hb, fun x hx => by have := bounds_u8 (hwz x (List.mem_of_mem_take hx)); omega⟩

theorem five_of_len {α : Type} (l : List α) (h : l.length = 5) : ∃ a b c d e, l = [a, b, c, d, e] := by
  match l, h with
  | [a, b, c, d, e], _ => exact ⟨a, b, c, d, e, rfl⟩

/-- Five cells that came in as an entry. -/
theorem open_five {H : Type} {enc : TypeId × Value → H} {W : World} {v0 v1 v2 v3 v4 : Value} {x : DataW H × List MemPlace} {fuel : Nat} (hf : DataW.trod enc Tryd.prog W 0 (fun _ => true) true fuel 39 [v0, v1, v2, v3, v4] = some x) :
    ∃ (y : Ent) (q : Option Addr) (c : Nat), v0 = .string y.key ∧ v1 = .int .i64 y.ver ∧ v2 = .int .i64 y.asof ∧ v3 = .int .i64 y.ends ∧ v4 = .slice q y.val.length c ∧ Bs W (.slice q y.val.length c) y.val ∧ Byt y.val ∧ y.key.size ≤ maxLen := by
  have c3 : Tryd.prog.cellsOf 3 = 1 := by kernel_rfl
  have c9 : Tryd.prog.cellsOf 9 = 1 := by kernel_rfl
  have c22 : Tryd.prog.cellsOf 22 = 1 := by kernel_rfl
  obtain ⟨xs, k, _, _, _, hlen5, hfs⟩ := DataW.trod_struct Tryd.underlying39 hf
  obtain ⟨y0, y1, y2, y3, y4, rfl⟩ := five_of_len xs hlen5
  have g0 := hfs 0 _ rfl
  have g1 := hfs 1 _ rfl
  have g2 := hfs 2 _ rfl
  have g3 := hfs 3 _ rfl
  have g4 := hfs 4 _ rfl
  simp [c3, c9, c22] at g0 g1 g2 g3 g4
  obtain ⟨s0, e0, _, hs0⟩ := DataW.trod_string Tryd.underlying9 g0
  obtain ⟨n1, e1, _, _⟩ := DataW.trod_int Tryd.underlying3 g1
  obtain ⟨n2, e2, _, _⟩ := DataW.trod_int Tryd.underlying3 g2
  obtain ⟨n3, e3, _, _⟩ := DataW.trod_int Tryd.underlying3 g3
  simp at e0 e1 e2 e3
  subst e0 e1 e2 e3
  rcases open_ints Tryd.underlying22 Tryd.underlying5 (by kernel_rfl) g4 with ⟨hcs, _⟩ | ⟨x, l, c, zs, hcs, _, hl, hm, hz, _, hcell, hwz⟩
  · simp at hcs
    subst hcs
    exact ⟨⟨s0, n1, n2, n3, []⟩, none, 0, rfl, rfl, rfl, rfl, rfl, Bs.nil _, fun x hx => (by cases hx), hs0⟩
  · simp at hcs
    subst hcs
    have hz' : zs.length = c := by simpa using hz
    obtain ⟨b, hb⟩ := sl_of_row hl hm hz' hcell
    have hlen : (zs.take l).length = l := by simp; omega
    refine ⟨⟨s0, n1, n2, n3, zs.take l⟩, some x, c, rfl, rfl, rfl, rfl, by rw [hlen], ?_, ?_, hs0⟩
    · show Bs W (.slice (some x) (zs.take l).length c) (zs.take l)
      rw [hlen]
      exact ⟨b, hb⟩
    · intro y hy
      have := bounds_u8 (hwz y (List.mem_of_mem_take hy))
      omega

/-- An entry that came in. -/
theorem open_entry {H : Type} {enc : TypeId × Value → H} {W : World} {v : Value} {d : DataW H} {p : List MemPlace} (h : DataW.Trod enc Tryd.prog W 0 (fun _ => true) true 39 v d p) (hv : ∃ cs, v = .agg cs ∧ cs.size = Tryd.prog.cellsOf 39) :
    ∃ (y : Ent) (q : Option Addr) (c : Nat), v = .agg #[.string y.key, .int .i64 y.ver, .int .i64 y.asof, .int .i64 y.ends, .slice q y.val.length c] ∧ Bs W (.slice q y.val.length c) y.val ∧ Byt y.val ∧ y.key.size ≤ maxLen := by
  obtain ⟨cs, rfl, hsz⟩ := hv
  have c24 : Tryd.prog.cellsOf 39 = 5 := by kernel_rfl
  rw [c24] at hsz
  obtain ⟨fuel, hf⟩ := h
  obtain ⟨cl⟩ := cs
  obtain ⟨v0, v1, v2, v3, v4, rfl⟩ := five_of_len cl (by simpa using hsz)
  have hf' : DataW.trod enc Tryd.prog W 0 (fun _ => true) true fuel 39 [v0, v1, v2, v3, v4] = some (d, p) := by simpa [Value.cells] using hf
  obtain ⟨y, q, c, rfl, rfl, rfl, rfl, rfl, h1, h2, h3⟩ := open_five hf'
  exact ⟨y, q, c, rfl, h1, h2, h3⟩

/-- Bytes that came in. -/
theorem open_bytes5 {H : Type} {enc : TypeId × Value → H} {W : World} {v : Value} {d : DataW H} {p : List MemPlace} (h : DataW.Trod enc Tryd.prog W 0 (fun _ => true) true 22 v d p) (hv : ∃ a len cap, v = .slice a len cap) :
    ∃ q l cap b, v = .slice q (l : List Int).length cap ∧ SlAt W b (.slice q l.length cap) (U l) ∧ Byt l := by
  obtain ⟨b, bs, hs, hb⟩ := open_bytes h hv
  obtain ⟨q, cap, e, _, _⟩ := hs.form
  rw [U_length] at e
  subst e
  exact ⟨q, bs, cap, b, rfl, hs, hb⟩

theorem add_none (b off j : Nat) : (⟨b, off, none⟩ : Addr).add j = ⟨b, off + j, none⟩ := add_off b off j

/-- Entries that came in. -/
theorem open_ents {H : Type} {enc : TypeId × Value → H} {W : World} {v : Value} {d : DataW H} {p : List MemPlace} (h : DataW.Trod enc Tryd.prog W 0 (fun _ => true) true 23 v d p) (hv : ∃ a len cap, v = .slice a len cap) :
    ∃ xs, EsAt W v xs ∧ ∀ x ∈ xs, Byt x.val ∧ x.key.size ≤ maxLen := by
  obtain ⟨a0, len0, cap0, rfl⟩ := hv
  obtain ⟨fuel, hf⟩ := h
  rcases open_slice Tryd.underlying23 hf with ⟨hcs, _⟩ | ⟨a, len, cap, m, n, D, Pl, hcs, hb, hl, hm, hmm, _, hx⟩
  · simp [Value.cells] at hcs
    obtain ⟨rfl, rfl, rfl⟩ := hcs
    exact ⟨[], EsAt.nil _, by simp⟩
  · simp [Value.cells] at hcs
    obtain ⟨rfl, rfl, rfl⟩ := hcs
    have c24 : Tryd.prog.cellsOf 39 = 5 := by kernel_rfl
    have hlm : len0 ≤ m := by rw [hmm]; split <;> omega
    have each : ∀ i, i < len0 → ∃ y : Ent, (Byt y.val ∧ y.key.size ≤ maxLen) ∧ ∃ q c, W.cell? (a.add (i * 5)) = some (.string y.key) ∧ W.cell? (a.add (i * 5 + 1)) = some (.int .i64 y.ver) ∧ W.cell? (a.add (i * 5 + 2)) = some (.int .i64 y.asof) ∧ W.cell? (a.add (i * 5 + 3)) = some (.int .i64 y.ends) ∧ W.cell? (a.add (i * 5 + 4)) = some (.slice q y.val.length c) ∧ Bs W (.slice q y.val.length c) y.val := by
      intro i hi
      obtain ⟨cs', h1, h2⟩ := hx i (by omega)
      rw [c24] at h1
      obtain ⟨_, hlen, hcell⟩ := World.cells?_some h1
      obtain ⟨v0, v1, v2, v3, v4, rfl⟩ := five_of_len cs' hlen
      obtain ⟨y, q, c, rfl, rfl, rfl, rfl, rfl, k1, k2, k3⟩ := open_five h2
      have q0 := hcell 0 (by omega)
      have q1 := hcell 1 (by omega)
      have q2 := hcell 2 (by omega)
      have q3 := hcell 3 (by omega)
      have q4 := hcell 4 (by omega)
      rw [Go.Deep.add_add] at q0 q1 q2 q3 q4
      exact ⟨y, ⟨k2, k3⟩, q, c, by simpa using q0, by simpa using q1, by simpa using q2, by simpa using q3, by simpa using q4, k1⟩
    have : Inhabited Ent := ⟨zeroE⟩
    obtain ⟨f, hq⟩ := choose_lt each
    have hlen : ((List.range len0).map f).length = len0 := by simp
    refine ⟨(List.range len0).map f, ⟨some a, cap0, by rw [hlen], by rw [hlen]; exact hl, hm, fun i o hi => ?_⟩, ?_⟩
    · have hkl : i < len0 := by
        have := (List.getElem?_eq_some_iff.1 hi).1
        simpa using this
      have e : f i = o := by
        rw [List.getElem?_map, List.getElem?_range hkl] at hi
        simpa using hi
      obtain ⟨ok, q, c, a0, a1, a2, a3, a4, a5⟩ := hq i hkl
      obtain ⟨_, _, _, qz, _⟩ := hq 0 (by omega)
      rw [e] at a0 a1 a2 a3 a4 a5
      obtain ⟨b, off, spot⟩ := a
      have hspot : spot = none := by simpa [Addr.add] using World.cell?_spot qz
      subst hspot
      have hbl : b < W.heap.size := by
        have := World.block_lt_of_cell? W _ qz
        simpa [Addr.add] using this
      rw [add_none] at a0 a1 a2 a3 a4
      exact ⟨b, off, q, c, rfl, hbl, a0, a1, a2, a3, a4, a5⟩
    · intro x hx
      obtain ⟨i, hi, rfl⟩ := List.mem_map.1 hx
      exact (hq i (by simpa using hi)).1
end Go.Proofs.YtgmghekgelmmcaaDoor.Ite
