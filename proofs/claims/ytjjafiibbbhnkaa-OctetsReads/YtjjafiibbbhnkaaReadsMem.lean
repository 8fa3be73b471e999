/-
  Memory of the law OctetsReads: the program's reader beside the variable that holds the document's one.
-/
import Derived.Test.YtjjafiibbbhnkaaRefEight
namespace Go.Proofs.Ytjjafiibbbhnkaa
open Go.RowKit

theorem set3_grownBy (w : World) (g : Nat) (x y z : Value) : w.grownBy (((w.setCell ⟨g, 0, none⟩ x).setCell ⟨g, 1, none⟩ y).setCell ⟨g, 2, none⟩ z) (some g) :=
  grownBy_trans (grownBy_trans (setCell_grownBy _ _ _ _) (setCell_grownBy _ _ _ _)) (setCell_grownBy _ _ _ _)

theorem set3_heap {w : World} {g : Nat} {a0 a1 a2 : Value} (h : w.heap[g]? = some (.cells #[a0, a1, a2] 40 (0, 0))) (x y z : Value) :
    (((w.setCell ⟨g, 0, none⟩ x).setCell ⟨g, 1, none⟩ y).setCell ⟨g, 2, none⟩ z).heap[g]? = some (.cells #[x, y, z] 40 (0, 0)) := by
  have h1 := heap_setCell_same w g 0 _ 40 x h
  have h2 := heap_setCell_same _ g 1 _ 40 y h1
  have h3 := heap_setCell_same _ g 2 _ 40 z h2
  rw [h3]; rfl

/-- No byte lies in a block that holds the document's reader. -/
theorem no_byte {w : World} {g : Nat} {q : Option Addr} {n m : Nat} {x y : Int} (h : w.heap[g]? = some (.cells #[.slice q n m, .int .i64 x, .int .i64 y] 40 (0, 0))) (off : Nat) (u : Int) : w.cell? ⟨g, off, none⟩ ≠ some (.int .u8 u) := by
  intro e
  simp only [World.cell?, h] at e
  rcases off with _ | _ | _ | off <;> simp at e

/-- A reader stays as it is while the document's one is written. -/
theorem Rd.beside {w w' : World} {g xb : Nat} {bs : List Int} {a : Nat} {code : Int} {q : Option Addr} {n m : Nat} {x y : Int} (h : Rd w g bs a code) (hx : w.heap[xb]? = some (.cells #[.slice q n m, .int .i64 x, .int .i64 y] 40 (0, 0))) (hg : w.grownBy w' (some xb)) (hne : g ≠ xb) : Rd w' g bs a code := by
  obtain ⟨sv, b, h1, h2, h3, h4⟩ := h
  have hh : w'.heap[g]? = some (.cells #[sv, .int .i64 a, .int .i64 code] 60 (0, 0)) := by
    rw [hg.block g (Array.getElem?_eq_some_iff.1 h1).1 (by simpa using hne)]; exact h1
  rcases h2 with ⟨e1, e2⟩ | ⟨ad, cap, e1, e2, e3, e4⟩
  · exact ⟨sv, b, hh, .inl ⟨e1, e2⟩, h3, h4⟩
  · rcases e4 with e4 | ⟨off, e5, e6, e7⟩
    · exact ⟨sv, b, hh, .inr ⟨ad, cap, e1, e2, e3, .inl e4⟩, h3, h4⟩
    · rcases Nat.eq_zero_or_pos bs.length with hz | hpos
      · have : U bs = [] := List.eq_nil_of_length_eq_zero (by rw [U_length]; exact hz)
        exact ⟨sv, b, hh, .inr ⟨ad, cap, e1, e2, e3, .inl this⟩, h3, h4⟩
      · have hb : b ≠ xb := by
          rintro rfl
          exact no_byte hx (off + 0) bs[0] (e7 0 _ (U_at (List.getElem?_eq_getElem hpos)))
        exact ⟨sv, b, hh, SlAt.grown (.inr ⟨ad, cap, e1, e2, e3, .inr ⟨off, e5, e6, e7⟩⟩) hg hb, h3, h4⟩

theorem rdTxt_byt (bs : List Int) (a : Nat) (code most : Int) (h : Byt bs) : Byt (rdTxt bs a code most).1 := by
  unfold rdTxt
  split
  · split
    · intro x hx; cases hx
    · exact (h.take _).drop _
  · intro x hx; cases hx

/-- The cells of a block, and that they may be written. -/
theorem one_block3 {w : World} {g : Nat} {a0 a1 a2 : Value} (h : w.heap[g]? = some (.cells #[a0, a1, a2] 40 (0, 0))) :
    w.cell? ⟨g, 0, none⟩ = some a0 ∧ w.cell? ⟨g, 1, none⟩ = some a1 ∧ w.cell? ⟨g, 2, none⟩ = some a2 ∧ w.frozen? ⟨g, 0, none⟩ = false ∧ w.frozen? ⟨g, 1, none⟩ = false ∧ w.frozen? ⟨g, 2, none⟩ = false := by
  refine ⟨?_, ?_, ?_, ?_, ?_, ?_⟩ <;> simp [World.cell?, World.frozen?, h]

/-- The new variable is made behind the call. -/
theorem y_after {wr w3 : World} (h : Below wr.heap.size wr w3) (x y z n : Value) : ∃ yb, Value.pointer (some ⟨w3.heap.size, 0, none⟩) = .pointer (some ⟨yb, 0, none⟩) ∧ n = n ∧ wr.heap.size ≤ yb ∧
    (w3.alloc (.cells #[x, y, z] 40)).heap[yb]? = some (.cells #[x, y, z] 40 (0, 0)) ∧ Below wr.heap.size wr (w3.alloc (.cells #[x, y, z] 40)) :=
  ⟨_, rfl, rfl, h.size, heap_alloc_new _ _, h.alloc h.size _⟩

/-- The new variable is made ahead of the call. -/
theorem y_before {wr w3 : World} {a0 a1 a2 : Value} (hh : w3.heap[wr.heap.size]? = some (.cells #[a0, a1, a2] 40 (0, 0))) (h : Below wr.heap.size wr w3) (x y z n : Value) :
    ∃ yb, Value.pointer (some ⟨wr.heap.size, 0, none⟩) = .pointer (some ⟨yb, 0, none⟩) ∧ n = n ∧ wr.heap.size ≤ yb ∧
    (((w3.setCell ⟨wr.heap.size, 0, none⟩ x).setCell ⟨wr.heap.size, 1, none⟩ y).setCell ⟨wr.heap.size, 2, none⟩ z).heap[yb]? = some (.cells #[x, y, z] 40 (0, 0)) ∧
    Below wr.heap.size wr (((w3.setCell ⟨wr.heap.size, 0, none⟩ x).setCell ⟨wr.heap.size, 1, none⟩ y).setCell ⟨wr.heap.size, 2, none⟩ z) :=
  ⟨_, rfl, rfl, Nat.le_refl _, set3_heap hh x y z, below_store3 h (Nat.le_refl _) _ _ _⟩

/-- The same, with bytes beside it. -/
theorem t_after {wr w3 : World} {tb : Nat} {sv : Value} {ts : List Value} (h : Below wr.heap.size wr w3) (hs : SlAt w3 tb sv ts) (ht : wr.heap.size ≤ tb) (x y z : Value) : ∃ yb tb, Value.pointer (some ⟨w3.heap.size, 0, none⟩) = .pointer (some ⟨yb, 0, none⟩) ∧ SlAt (w3.alloc (.cells #[x, y, z] 40)) tb sv ts ∧ wr.heap.size ≤ tb ∧ wr.heap.size ≤ yb ∧
    (w3.alloc (.cells #[x, y, z] 40)).heap[yb]? = some (.cells #[x, y, z] 40 (0, 0)) ∧ Below wr.heap.size wr (w3.alloc (.cells #[x, y, z] 40)) :=
  ⟨_, tb, rfl, hs.keeps (by simp) (fun hlt => Below.heap_alloc _ _ _ hlt), ht, h.size, heap_alloc_new _ _, h.alloc h.size _⟩

theorem t_before {wr w3 : World} {tb : Nat} {sv : Value} {ts : List Value} {a0 a1 a2 : Value} (hh : w3.heap[wr.heap.size]? = some (.cells #[a0, a1, a2] 40 (0, 0))) (h : Below wr.heap.size wr w3) (hs : SlAt w3 tb sv ts) (ht : wr.heap.size < tb) (x y z : Value) :
    ∃ yb tb, Value.pointer (some ⟨wr.heap.size, 0, none⟩) = .pointer (some ⟨yb, 0, none⟩) ∧ SlAt (((w3.setCell ⟨wr.heap.size, 0, none⟩ x).setCell ⟨wr.heap.size, 1, none⟩ y).setCell ⟨wr.heap.size, 2, none⟩ z) tb sv ts ∧ wr.heap.size ≤ tb ∧ wr.heap.size ≤ yb ∧
    (((w3.setCell ⟨wr.heap.size, 0, none⟩ x).setCell ⟨wr.heap.size, 1, none⟩ y).setCell ⟨wr.heap.size, 2, none⟩ z).heap[yb]? = some (.cells #[x, y, z] 40 (0, 0)) ∧
    Below wr.heap.size wr (((w3.setCell ⟨wr.heap.size, 0, none⟩ x).setCell ⟨wr.heap.size, 1, none⟩ y).setCell ⟨wr.heap.size, 2, none⟩ z) :=
  ⟨_, tb, rfl, hs.grown (set3_grownBy _ _ _ _ _) (by omega), by omega, Nat.le_refl _, set3_heap hh x y z, below_store3 h (Nat.le_refl _) _ _ _⟩
end Go.Proofs.Ytjjafiibbbhnkaa
