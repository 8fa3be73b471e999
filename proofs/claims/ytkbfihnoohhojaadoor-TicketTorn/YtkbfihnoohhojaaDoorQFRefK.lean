/-
  Pages held against each other; a page of two numbers by turns.
-/
import Derived.Test.YtkbfihnoohhojaaDoorQFCut
import Derived.Laws.BytesString
namespace Go.Proofs.YtkbfihnoohhojaaDoor.Fla
open Go.RowKit

theorem hid2' {p : Prop} (h : p) : Hid p := h
theorem hid_all {p : Prop} (h : p) : Hid p := h
/-- Bytes as a string. -/
def strB (b : List Nat) : ByteArray := (b.map fun (x : Nat) => (x : Int)).foldl (fun r n => r.push (UInt8.ofNat n.toNat)) ByteArray.empty
theorem U_ints (b : List Nat) : (b.map fun (x : Nat) => (x : Int)).map (Value.int .u8) = U b := by simp [U]
theorem conv_any {w : World} {v : Value} {b : List Nat} (h : BAt w v b) (hl : b.length = 256) : (convert 23 9 v).run Tryd.prog w = .ok (.string (strB b)) w := by
  obtain ⟨bb, off, cap, rfl, hr⟩ := h.page hl
  rw [run_convert_bytes_string w 23 9 5 _ _ _ Tryd.underlying23 Tryd.underlying5 Tryd.underlying9]
  refine run_bytesToString w _ _ _ (b.map fun (x : Nat) => (x : Int)) ?_
  rw [U_ints]
  have := run_loadCells_list (P := Tryd.prog) w ⟨bb, off, none⟩ (U b) (fun j u hj => by rw [Addr.add_mid]; exact hr j u hj)
  rw [U_length, hl] at this
  exact this

/-- A page of two numbers by turns. -/
def turn (a b i : Nat) : Nat := if i % 3 = 1 then b else a
def bytN (a b k : Nat) : List Nat := (List.range 256).map fun i => if i < k then turn a b i else 0
def bytP (a b : Nat) : List Nat := bytN a b 256
theorem bytN_length (a b k : Nat) : (bytN a b k).length = 256 := by simp [bytN]
theorem bytN_zero (a b : Nat) : bytN a b 0 = zeros := by
  unfold zeros
  rw [List.eq_replicate_iff]
  refine ⟨bytN_length a b 0, fun x hx => ?_⟩
  simp only [bytN, List.mem_map] at hx
  obtain ⟨i, _, rfl⟩ := hx
  rfl
theorem bytN_at (a b k : Nat) {i : Nat} (hi : i < 256) : (bytN a b k)[i]? = some (if i < k then turn a b i else 0) := by
  unfold bytN
  rw [List.getElem?_map, List.getElem?_range hi]
  rfl
theorem bytN_set (a b : Nat) {k : Nat} (hk : k < 256) : (pgV (bytN a b k)).setIfInBounds k (.int .u8 (turn a b k : Nat)) = pgV (bytN a b (k + 1)) := by
  apply Array.ext_getElem?
  intro i
  simp only [Array.getElem?_setIfInBounds, pgV, List.size_toArray, U_length, bytN_length, List.getElem?_toArray]
  by_cases h : k = i
  · subst h
    have e2 := bytN_at a b (k + 1) hk
    simp [hk, U, e2]
  · by_cases hi : i < 256
    · have e1 := bytN_at a b k hi
      have e2 := bytN_at a b (k + 1) hi
      have : (i < k) = (i < k + 1) := by simp; omega
      simp [h, U, e1, e2, this]
    · have e1 : (bytN a b k)[i]? = none := List.getElem?_eq_none (by rw [bytN_length]; omega)
      have e2 : (bytN a b (k + 1))[i]? = none := List.getElem?_eq_none (by rw [bytN_length]; omega)
      simp [h, U, e1, e2]
theorem bytN_byt {a b : Nat} (ha : a < 256) (hb : b < 256) (k : Nat) : ∀ x ∈ bytN a b k, x < 256 := by
  intro x hx
  simp only [bytN, List.mem_map] at hx
  obtain ⟨i, _, rfl⟩ := hx
  unfold turn
  split
  · split <;> omega
  · omega

set_option maxHeartbeats 1000000 in
set_option maxRecDepth 10000 in
theorem bytes_any (w : World) (a b : Nat) : Calls Tryd.prog 22 #[.int .u8 (a : Int), .int .u8 (b : Int)] w fun e w' => e = .returned (.slice (some ⟨w.heap.size, 0, none⟩) 256 256) ∧ w'.heap[w.heap.size]? = some (.cells (pgV (bytP a b)) 5 (0, 0)) ∧ Below w.heap.size w w' := by
  have hmk := Tryd.make46
  have H0 : Hid ((w.alloc (.cells (pgV zeros) 5)).heap[w.heap.size]? = some (.cells (pgV (bytN a b 0)) 5 (0, 0))) := by show _ = _; rw [bytN_zero]; exact heap_alloc_last _ _
  have HB0 : Hid (Below w.heap.size w (w.alloc (.cells (pgV zeros) 5))) := by show Below _ _ _; go_grown
  go_enter Tryd.func22, Tryd.ntmps22
  go_wp2_with fail
  go_loopw [6] (fun i wr => ∃ k : Nat, i = .int .i64 (k : Int) ∧ k ≤ 256 ∧ wr.heap[w.heap.size]? = some (.cells (pgV (bytN a b k)) 5 (0, 0)) ∧ Below w.heap.size w wr) (fun i _ => 256 - (intOf i).toNat)
  case atStart => exact ⟨0, rfl, by omega, H0.out, HB0.out⟩
  case round =>
    obtain ⟨k, rfl, hk, hh, hb⟩ := hrel
    have HH := hid2' hh
    have HB := hid2' hb
    have hsz : w.heap.size < wr.heap.size := (Array.getElem?_eq_some_iff.1 hh).1
    by_cases hlt : k < 256
    · have hc : ∃ u, wr.cell? ⟨w.heap.size, k, none⟩ = some u := by
        simp only [World.cell?, hh]
        exact ⟨_, Array.getElem?_eq_getElem (by rw [pgV_size, bytN_length]; exact hlt)⟩
      obtain ⟨u, hcu⟩ := hc
      have hfz : wr.frozen? ⟨w.heap.size, k, none⟩ = false := by simp [World.frozen?, hh]
      have hki : (k : Int) < 256 := by omega
      clear hh hb
      by_cases h3 : k % 3 = 1
      · have hm : ((k : Int) % 3 == 1) = true := by simp; omega
        have HT : Hid (turn a b k = b) := by show _ = _; simp [turn, h3]
        clear h3
        go_wp2_with fail
        go_roundw
        case rel => exact ⟨k + 1, by go_num, by omega, by have k1 := setCell_heap (o := k) HH.out (.int .u8 (a : Int)); have k2 := setCell_heap (o := k) k1 (.int .u8 (b : Int)); rw [Array.setIfInBounds_setIfInBounds] at k2; rw [← bytN_set a b hlt, HT.out]; exact k2, HB.out.trans ((grown_below (setCell_grown (o := k) HH.out _) (Nat.le_refl _) HB.out.size).trans (grown_below (setCell_grown (o := k) (setCell_heap (o := k) HH.out (.int .u8 (a : Int))) _) (Nat.le_refl _) (by have := HB.out.size; simp; omega)))⟩
        case measure => simp [intOf]; omega
      · have hm : ((k : Int) % 3 == 1) = false := by simp; omega
        have HT : Hid (turn a b k = a) := by show _ = _; simp [turn, h3]
        clear h3
        go_wp2_with fail
        go_roundw
        case rel => exact ⟨k + 1, by go_num, by omega, by have := setCell_heap (o := k) HH.out (.int .u8 (a : Int)); rw [← bytN_set a b hlt, HT.out]; exact this, HB.out.trans (grown_below (setCell_grown (o := k) HH.out _) (Nat.le_refl _) HB.out.size)⟩
        case measure => simp [intOf]; omega
    · obtain rfl : k = 256 := by omega
      clear hh hb
      go_wp2
      go_ret
      exact ⟨rfl, HH.out, HB.out⟩
end Go.Proofs.YtkbfihnoohhojaaDoor.Fla
