/-
  The document's side: blank, safe, and bytes held against each other; a page of two numbers by turns.
-/
import Derived.Test.YtfogocappakbdaaDoorDv
namespace Go.Proofs.YtfogocappakbdaaDoor
open Go.RowKit

theorem Tryd.make46 (w : World) : (Instr.makeSlice 46 (.int .i64 256) (.int .i64 256)).run Tryd.prog w = .ok (.slice (some ⟨w.heap.size, 0, none⟩) 256 256) (w.alloc (.cells (pgV zeros) 5)) := by kernel_rfl
theorem zeros_row {w : World} {b : Nat} (h : w.heap[b]? = some (.cells (pgV zeros) 5 (0, 0))) : BAt w (.slice (some ⟨b, 0, none⟩) 256 256) zeros :=
  ⟨some ⟨b, 0, none⟩, 256, by rw [zeros_length], by rw [zeros_length]; omega, by unfold maxLen; omega, by rw [U_length]; omega, .inr ⟨b, 0, pgV zeros, rfl, ⟨5, (0, 0), h, by decide, by decide, by decide, by decide⟩, fun k u hk => by simpa [pgV] using hk⟩⟩

theorem isBlank_false {b : List Nat} {k x : Nat} (h : b[k]? = some x) (hx : x ≠ 0) : isBlank b = false := by
  unfold isBlank
  rw [List.all_eq_false]
  exact ⟨x, List.mem_of_getElem? h, by simpa using hx⟩
theorem isBlank_true {b : List Nat} (h : ∀ (k x : Nat), b[k]? = some x → x = 0) : isBlank b = true := by
  unfold isBlank
  rw [List.all_eq_true]
  intro x hx
  obtain ⟨k, hk⟩ := List.getElem?_of_mem hx
  simpa using h k x hk

set_option maxHeartbeats 1000000 in
theorem blank_any {w : World} {v : Value} {b : List Nat} (h : BAt w v b) : Calls Tryd.prog 49 #[v] w fun e w' => e = .returned (.bool (isBlank b)) ∧ w' = w := by
  obtain ⟨p, cap, rfl, h2, h3, h4, h5⟩ := h.each
  unfold maxLen at h3
  have HE : Hid (∀ k u, (U b)[k]? = some u → ∃ bb off, p = some ⟨bb, off, none⟩ ∧ bb < w.heap.size ∧ w.cell? ⟨bb, off + k, none⟩ = some u) := h5
  clear h h4 h5
  go_enter Tryd.func49, Tryd.ntmps49
  go_wp2_with fail
  go_loop [3] (fun i => ∃ k : Nat, i = .int .i64 (k : Int) ∧ k ≤ b.length ∧ Hid (∀ j x, j < k → b[j]? = some x → x = 0)) (fun i => b.length - (intOf i).toNat)
  case atStart => exact ⟨0, rfl, Nat.zero_le _, fun j x hj => by omega⟩
  case round =>
    obtain ⟨k, rfl, hk, HZ⟩ := hrel
    by_cases hlt : k < b.length
    · obtain ⟨x, hx⟩ : ∃ x, b[k]? = some x := ⟨_, List.getElem?_eq_getElem hlt⟩
      obtain ⟨bb, off, rfl, hbb, hc⟩ := HE.out k _ (U_at hx)
      have hki : (k : Int) < (b.length : Int) := by omega
      have HX : Hid (b[k]? = some x) := hx
      clear hx
      by_cases h0 : x = 0
      · subst h0
        go_wp2_with fail
        go_round
        case rel => exact ⟨k + 1, by go_num, by omega, fun j y hj hy => by
          by_cases e : j = k
          · subst e; rw [HX.out] at hy; cases hy; rfl
          · exact HZ.out j y (by omega) hy⟩
        case measure => simp [intOf]; omega
      · have hb : ((x : Int) == 0) = false := by simp; omega
        have H0 : Hid (x ≠ 0) := h0
        clear h0
        go_wp2
        go_ret
        exact ⟨by rw [isBlank_false HX.out H0.out]; rfl, rfl⟩
    · have hki : ¬ ((k : Int) < (b.length : Int)) := by omega
      go_wp2
      go_ret
      exact ⟨by rw [isBlank_true (fun j x hj => HZ.out j x (by have := (List.getElem?_eq_some_iff.1 hj).1; omega) hj)]; rfl, rfl⟩

theorem rsafe_cons (a : Int) (b : List Nat) (r : List (Int × List Nat)) (k : Int) : rsafe ((a, b) :: r) k = if a = k then b else rsafe r k := rfl
theorem plainC_drop {cs : List Cl} {i : Nat} {x : Cl} (h : cs[i]? = some x) : plainC (cs.drop i) = (x.1, x.2.2) :: plainC (cs.drop (i + 1)) := by
  obtain ⟨h1, h2⟩ := List.getElem?_eq_some_iff.1 h
  rw [List.drop_eq_getElem_cons h1, h2]
  rfl
/-- Pages in memory, one by one. -/
theorem CellsAt.each {w : World} {v : Value} {cs : List Cl} (h : CellsAt w v cs) : ∃ p cap, v = .slice p cs.length cap ∧ cs.length ≤ cap ∧ cap ≤ maxLen ∧
    ∀ i x, cs[i]? = some x → ∃ b off, p = some ⟨b, off, none⟩ ∧ b < w.heap.size ∧ w.cell? ⟨b, off + i * 2, none⟩ = some (.int .i64 x.1) ∧ w.cell? ⟨b, off + i * 2 + 1, none⟩ = some x.2.1 ∧ BAt w x.2.1 x.2.2 := by
  obtain ⟨p, cap, h1, h2, h3, h4, h5⟩ := h.1.each
  refine ⟨p, cap, h1, h2, h3, fun i x hi => ?_⟩
  obtain ⟨a0, a1⟩ := clL_at hi
  obtain ⟨b, off, e1, e2, e3⟩ := h5 _ _ a0
  obtain ⟨b', off', e1', e2', e3'⟩ := h5 _ _ a1
  rw [e1] at e1'
  cases e1'
  exact ⟨b, off, e1, e2, e3, by rw [Nat.add_assoc]; exact e3', h.2 x (List.mem_of_getElem? hi)⟩

set_option maxHeartbeats 1000000 in
theorem safe_any {w : World} {v : Value} {cs : List Cl} (h : CellsAt w v cs) (at_ : Int) : Calls Tryd.prog 53 #[v, .int .i64 at_] w fun e w' => ∃ u, e = .returned u ∧ BAt w' u (rsafe (plainC cs) at_) ∧ Below w.heap.size w w' := by
  obtain ⟨p, cap, rfl, h2, h3, h5⟩ := h.each
  unfold maxLen at h3
  have HE := show Hid (∀ i x, cs[i]? = some x → ∃ b off, p = some ⟨b, off, none⟩ ∧ b < w.heap.size ∧ w.cell? ⟨b, off + i * 2, none⟩ = some (.int .i64 x.1) ∧ w.cell? ⟨b, off + i * 2 + 1, none⟩ = some x.2.1 ∧ BAt w x.2.1 x.2.2) from h5
  have hmk := Tryd.make46
  clear h h5
  go_enter Tryd.func53, Tryd.ntmps53
  go_wp2_with fail
  go_loop [5] (fun i => ∃ k : Nat, i = .int .i64 (k : Int) ∧ k ≤ cs.length ∧ Hid (rsafe (plainC cs) at_ = rsafe (plainC (cs.drop k)) at_)) (fun i => cs.length - (intOf i).toNat)
  case atStart => exact ⟨0, rfl, Nat.zero_le _, rfl⟩
  case round =>
    obtain ⟨k, rfl, hk, HZ⟩ := hrel
    by_cases hlt : k < cs.length
    · obtain ⟨x, hx⟩ : ∃ x, cs[k]? = some x := ⟨_, List.getElem?_eq_getElem hlt⟩
      obtain ⟨bb, off, rfl, hbb, hc0, hc1, hba⟩ := HE.out k _ hx
      have hki : (k : Int) < (cs.length : Int) := by omega
      have HX : Hid (cs[k]? = some x) := hx
      have HBA : Hid (BAt w x.2.1 x.2.2) := hba
      clear hx hba
      by_cases h0 : x.1 = at_
      · have hb : (x.1 == at_) = true := by simpa using h0
        have H0 : Hid (x.1 = at_) := h0
        clear h0
        go_wp2
        go_ret
        exact ⟨_, rfl, by rw [HZ.out, plainC_drop HX.out, rsafe_cons, if_pos H0.out]; exact HBA.out, Below.refl _ _⟩
      · have hb : (x.1 == at_) = false := by simpa using h0
        have H0 : Hid (¬ x.1 = at_) := h0
        clear h0
        go_wp2_with fail
        go_round
        case rel => exact ⟨k + 1, by go_num, by omega, by show _ = _; rw [HZ.out, plainC_drop HX.out, rsafe_cons, if_neg H0.out]⟩
        case measure => simp [intOf]; omega
    · have hki : ¬ ((k : Int) < (cs.length : Int)) := by omega
      have HK : Hid (cs.drop k = []) := List.drop_eq_nil_of_le (by omega)
      go_wp2
      go_ret
      exact ⟨_, rfl, by rw [HZ.out, HK.out]; exact zeros_row (heap_alloc_last _ _), by go_grown⟩

set_option maxHeartbeats 1000000 in
theorem same02_any {w : World} {u v : Value} {b : List Nat} (h : BAt w u b) (k : BAt w v b) : Calls Tryd.prog 17 #[u, v] w fun e w' => e = .returned (.bool true) ∧ Below w.heap.size w w' := by
  obtain ⟨p, cap, rfl, h2, h3, h4, h5⟩ := h.each
  obtain ⟨q, cap2, rfl, k2, k3, k4, k5⟩ := k.each
  unfold maxLen at h3 k3
  have HE : Hid (∀ k u, (U b)[k]? = some u → ∃ bb off, p = some ⟨bb, off, none⟩ ∧ bb < w.heap.size ∧ w.cell? ⟨bb, off + k, none⟩ = some u) := h5
  have HF : Hid (∀ k u, (U b)[k]? = some u → ∃ bb off, q = some ⟨bb, off, none⟩ ∧ bb < w.heap.size ∧ w.cell? ⟨bb, off + k, none⟩ = some u) := k5
  clear h h4 h5 k k4 k5
  go_enter Tryd.func17, Tryd.ntmps17
  go_wp2_with fail
  go_loopw [5] (fun i wr => ∃ k : Nat, i = .int .i64 (k : Int) ∧ k ≤ b.length ∧ ∃ n, wr = w.drewN n) (fun i _ => b.length - (intOf i).toNat)
  case atStart => exact ⟨0, rfl, Nat.zero_le _, 0, rfl⟩
  case round =>
    obtain ⟨k, rfl, hk, n, rfl⟩ := hrel
    by_cases hlt : k < b.length
    · obtain ⟨x, hx⟩ : ∃ x, b[k]? = some x := ⟨_, List.getElem?_eq_getElem hlt⟩
      obtain ⟨bb, off, rfl, hbb, hc⟩ := HE.out k _ (U_at hx)
      obtain ⟨bb2, off2, rfl, hbb2, hc2⟩ := HF.out k _ (U_at hx)
      have hki : (k : Int) < (b.length : Int) := by omega
      clear hx
      go_wp2_with fail
      go_quiet (fail)
      go_wp2
      go_roundw
      case rel => exact ⟨k + 1, by go_num, by omega, _, rfl⟩
      case measure => simp [intOf]; omega
    · have hki : ¬ ((k : Int) < (b.length : Int)) := by omega
      go_wp2
      go_ret
      exact ⟨rfl, below_drewN (Below.refl _ _) _⟩
end Go.Proofs.YtfogocappakbdaaDoor
