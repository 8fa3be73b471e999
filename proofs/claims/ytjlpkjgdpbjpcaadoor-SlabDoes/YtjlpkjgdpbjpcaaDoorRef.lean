/-
  New, Used, Count and Fits of the document.
-/
import Derived.Test.YtjlpkjgdpbjpcaaDoorMem
namespace Go.Proofs.YtjlpkjgdpbjpcaaDoor
open Go.RowKit

theorem sz_le (c : Int) : sz c ≤ 8192 := by
  by_cases hc : c < 0 ∨ 8 < c
  · rw [sz_out hc]; omega
  · exact (sz_in (by omega) (by omega)).2
theorem used_le (l : List Int) : used l ≤ 8192 * (l.length : Int) := by
  induction l with
  | nil => exact Int.le_refl _
  | cons c r ih => have := sz_le c; rw [used_cons, List.length_cons]; omega

theorem rnew_good (w : World) (lim : Int) (h1 : 1 ≤ lim) (h2 : lim ≤ 1099511627776) : Calls Tryd.prog 13 #[.int .i64 lim] w fun e w' => e = .returned (.tuple #[.agg #[.int .i64 lim, .slice none 0 0], .int .i64 0]) ∧ Below w.heap.size w w' := by
  go_enter Tryd.func13, Tryd.ntmps13
  go_wp2
  refine bodyPost_ret (v := .tuple #[.agg #[.int .i64 lim, .slice none 0 0], .int .i64 0]) (by simp [results, Tryd.results13, go_sem]) rfl ⟨rfl, ?_⟩
  go_grown
theorem rnew_bad (w : World) (lim : Int) (h : lim < 1 ∨ 1099511627776 < lim) : Calls Tryd.prog 13 #[.int .i64 lim] w fun e w' => e = .returned (.tuple #[.agg #[.int .i64 0, .slice none 0 0], .int .i64 2]) ∧ Below w.heap.size w w' := by
  go_enter Tryd.func13, Tryd.ntmps13
  go_wp2
  all_goals first | (refine bodyPost_ret (v := .tuple #[.agg #[.int .i64 0, .slice none 0 0], .int .i64 2]) (by simp [results, Tryd.results13, go_sem]) rfl ⟨rfl, ?_⟩; go_grown) | (exfalso; omega)

set_option maxHeartbeats 1000000 in
theorem rused_any {w : World} {v : Value} {l : List Int} (lim : Int) (h : Ls w v l) (hl : l.length ≤ 5000) : Calls Tryd.prog 23 #[.agg #[.int .i64 lim, v]] w fun e w' => e = .returned (.int .i64 (used l)) ∧ Below w.heap.size w w' := by
  obtain ⟨p, cap, hv, h2, h3, hel⟩ := h.each
  unfold maxLen at h3
  subst hv
  have HEL := hid2 hel
  clear h hel
  have A1 : Below w.heap.size w (w.alloc (.cells #[.int .i64 lim, .slice p l.length cap] 33)) := by go_grown
  have HZ := heap_alloc_new w (.cells #[.int .i64 lim, .slice p l.length cap] 33)
  obtain ⟨w1, hw1⟩ : ∃ w1, w1 = w.alloc (.cells #[.int .i64 lim, .slice p l.length cap] 33) := ⟨_, rfl⟩
  obtain ⟨g, hg⟩ : ∃ g, g = w.heap.size := ⟨_, rfl⟩
  have HW := hid2 hw1
  have HG := hid2 hg
  rw [← hw1] at A1 HZ
  rw [← hg] at HZ
  have c1 : w1.cell? ⟨g, 1, none⟩ = some (.slice p l.length cap) := by simp [World.cell?, HZ]
  have c2 : g < w1.heap.size := lt_of_block HZ
  have HA := hid2 A1
  clear HZ A1 hg hw1
  go_enter Tryd.func23, Tryd.ntmps23
  go_wp2_with fail
  rw [← HW.out, ← HG.out]
  go_loop [3, 4] (fun s i => ∃ k : Nat, k ≤ l.length ∧ i = .int .i64 (k : Int) ∧ s = .int .i64 (used (l.take k))) (fun _ i => l.length - (intOf i).toNat)
  case atStart => exact ⟨0, Nat.zero_le _, rfl, rfl⟩
  case round =>
    obtain ⟨k, hk, rfl, rfl⟩ := hrel
    by_cases hlt : k < l.length
    · obtain ⟨x, hx⟩ : ∃ x, l[k]? = some x := ⟨l[k], List.getElem?_eq_getElem hlt⟩
      obtain ⟨b, off, rfl, hbl, hce⟩ := HEL.out k x hx
      have c3 := (HA.out.cell (p := ⟨b, off + k, none⟩) hbl).trans hce
      have c4 : b < w1.heap.size := Nat.lt_of_lt_of_le hbl HA.out.size
      have KS := hid2 (rsize_any w1 x)
      have u1 := used_nonneg (l.take k)
      have u2 := used_le (l.take k)
      have u3 : (l.take k).length ≤ 5000 := by simp; omega
      have s1 := sz_nonneg x
      have s2 := sz_le x
      have HU := hid2 (used_take_snoc hx)
      generalize sz x = s at *
      generalize used (l.take k) = u at *
      generalize (l.take k).length = ll at *
      clear hx hbl hce
      go_wp2_with fail
      refine (show Calls _ _ _ _ _ from KS.out).mono ?_
      rintro e wx ⟨rfl, hw⟩
      cases hw
      go_wp2
      go_round
      case rel => exact ⟨k + 1, by omega, by go_num, by rw [HU.out]⟩
      case measure => simp [intOf]; omega
    · have hkn : l.take k = l := List.take_of_length_le (by omega)
      go_wp2
      go_ret
      exact ⟨rfl, HA.out⟩

set_option maxHeartbeats 1000000 in
theorem rcount_any {w : World} {v : Value} {l : List Int} (lim c : Int) (h : Ls w v l) (hl : l.length ≤ 5000) : Calls Tryd.prog 27 #[.agg #[.int .i64 lim, v], .int .i64 c] w fun e w' => e = .returned (.int .i64 (cnt l c : Int)) ∧ Below w.heap.size w w' := by
  obtain ⟨p, cap, hv, h2, h3, hel⟩ := h.each
  unfold maxLen at h3
  subst hv
  have HEL := hid2 hel
  clear h hel
  have A1 : Below w.heap.size w (w.alloc (.cells #[.int .i64 lim, .slice p l.length cap] 33)) := by go_grown
  have HZ := heap_alloc_new w (.cells #[.int .i64 lim, .slice p l.length cap] 33)
  obtain ⟨w1, hw1⟩ : ∃ w1, w1 = w.alloc (.cells #[.int .i64 lim, .slice p l.length cap] 33) := ⟨_, rfl⟩
  obtain ⟨g, hg⟩ : ∃ g, g = w.heap.size := ⟨_, rfl⟩
  have HW := hid2 hw1
  have HG := hid2 hg
  rw [← hw1] at A1 HZ
  rw [← hg] at HZ
  have c1 : w1.cell? ⟨g, 1, none⟩ = some (.slice p l.length cap) := by simp [World.cell?, HZ]
  have c2 : g < w1.heap.size := lt_of_block HZ
  have HA := hid2 A1
  clear HZ A1 hg hw1
  go_enter Tryd.func27, Tryd.ntmps27
  go_wp2_with fail
  rw [← HW.out, ← HG.out]
  go_loop [5, 6] (fun s i => ∃ k : Nat, k ≤ l.length ∧ i = .int .i64 (k : Int) ∧ s = .int .i64 (cnt (l.take k) c : Int)) (fun _ i => l.length - (intOf i).toNat)
  case atStart => exact ⟨0, Nat.zero_le _, rfl, rfl⟩
  case round =>
    obtain ⟨k, hk, rfl, rfl⟩ := hrel
    by_cases hlt : k < l.length
    · obtain ⟨x, hx⟩ : ∃ x, l[k]? = some x := ⟨l[k], List.getElem?_eq_getElem hlt⟩
      obtain ⟨b, off, rfl, hbl, hce⟩ := HEL.out k x hx
      have c3 := (HA.out.cell (p := ⟨b, off + k, none⟩) hbl).trans hce
      have c4 : b < w1.heap.size := Nat.lt_of_lt_of_le hbl HA.out.size
      have u2 : cnt (l.take k) c ≤ (l.take k).length := List.count_le_length
      have u3 : (l.take k).length ≤ 5000 := by simp; omega
      have HU : Hid (cnt (l.take (k + 1)) c = cnt (l.take k) c + if c = x then 1 else 0) := by show _ = _; rw [take_snoc hx, cnt_snoc]
      generalize cnt (l.take k) c = u at *
      generalize (l.take k).length = ll at *
      clear hx hbl hce
      by_cases hcx : x = c
      · subst hcx
        go_wp2
        go_round
        case rel => exact ⟨k + 1, by omega, by go_num, by rw [HU.out]; simp⟩
        case measure => simp [intOf]; omega
      · have hcx2 : ¬ c = x := fun e => hcx e.symm
        go_wp2
        go_round
        case rel => exact ⟨k + 1, by omega, by go_num, by rw [HU.out, if_neg hcx2]; simp⟩
        case measure => simp [intOf]; omega
    · have hkn : l.take k = l := List.take_of_length_le (by omega)
      go_wp2
      go_ret
      exact ⟨rfl, HA.out⟩

set_option maxHeartbeats 1000000 in
theorem rfits_any (w : World) (lim n : Int) (p : Option Addr) (k cap : Nat) : Calls Tryd.prog 29 #[.agg #[.int .i64 lim, .slice p k cap], .int .i64 n] w fun e w' => e = .returned (.bool (fitsP lim n)) ∧ Below w.heap.size w w' := by
  have KC := hid2 (fun W => rclass_any W n)
  have KS := hid2 (fun W => rsize_any W (cls n))
  unfold fitsP
  generalize sz (cls n) = s at *
  generalize cls n = c at *
  by_cases hc : 0 ≤ c
  · have hd : decide (0 ≤ c) = true := by simpa using hc
    go_enter Tryd.func29, Tryd.ntmps29
    go_wp2_with fail
    go_quiet (first | (go_at_call_of 10 (Value.int .i64 n); exact Calls.quiet_of_same (KC.out _)) | (go_at_call_of 8 (Value.int .i64 c); exact Calls.quiet_of_same (KS.out _)))
    go_wp2
    go_ret
    exact ⟨by simp [hd], ((Below.refl _ _).alloc (Nat.le_refl _) _).trans (drew_below _ _ _)⟩
  · have hd : decide (0 ≤ c) = false := by simpa using hc
    go_enter Tryd.func29, Tryd.ntmps29
    go_wp2_with fail
    go_quiet (first | (go_at_call_of 10 (Value.int .i64 n); exact Calls.quiet_of_same (KC.out _)))
    go_wp2
    go_ret
    exact ⟨by simp [hd], ((Below.refl _ _).alloc (Nat.le_refl _) _).trans (drew_below _ _ _)⟩
end Go.Proofs.YtjlpkjgdpbjpcaaDoor
