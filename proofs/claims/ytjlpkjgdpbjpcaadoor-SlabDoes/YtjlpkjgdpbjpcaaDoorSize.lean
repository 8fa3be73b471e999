/-
  Size and Class of both.
-/
import Derived.Test.YtjlpkjgdpbjpcaaDoorMath
import Derived.Test.YtjlpkjgdpbjpcaaDoorFlt
import Derived.WalkKit
import Derived.WalkSpells
import Derived.WalkLawsBesides
import Derived.Handy
import Derived.Deep.LoopGhost
import Derived.Deep.QuietTactic
import Derived.BigQuiet
namespace Go.Proofs.YtjlpkjgdpbjpcaaDoor
open Go.RowKit

/-- Size. -/
theorem size_any (w : World) (c : Int) : Calls Tryd.prog 7 #[.int .i64 c] w fun e w' => e = .returned (.int .i64 (sz c)) ∧ w' = w := by
  by_cases hc : c < 0 ∨ 8 < c
  · rw [sz_out hc]
    go_enter Tryd.func7, Tryd.ntmps7
    go_wp2
    all_goals first | (go_ret; exact ⟨rfl, rfl⟩) | (exfalso; omega)
  · rcases nine (c := c) (by omega) (by omega) with rfl | rfl | rfl | rfl | rfl | rfl | rfl | rfl | rfl <;> (clear hc; go_enter Tryd.func7, Tryd.ntmps7; go_wp2; go_ret; exact ⟨by first | rfl | kernel_rfl, rfl⟩)

/-- Size, of the document. -/
theorem rsize_any (w : World) (c : Int) : Calls Tryd.prog 8 #[.int .i64 c] w fun e w' => e = .returned (.int .i64 (sz c)) ∧ w' = w := by
  by_cases hc : c < 0 ∨ 8 < c
  · rw [sz_out hc]
    go_enter Tryd.func8, Tryd.ntmps8
    go_wp2
    all_goals first | (go_ret; exact ⟨rfl, rfl⟩) | (exfalso; omega)
  · obtain ⟨n, rfl⟩ := Int.eq_ofNat_of_zero_le (show 0 ≤ c by omega)
    have hn : n ≤ 8 := by omega
    have HZ := hid2 (sz_pow hn)
    clear hc
    go_enter Tryd.func8, Tryd.ntmps8
    go_wp2_with fail
    go_loop [3, 4] (fun s i => ∃ k m : Nat, k ≤ n ∧ m ≤ 8192 ∧ s = .int .i64 m ∧ i = .int .i64 k ∧ m = 32 * 2 ^ k) (fun _ i => n - (intOf i).toNat)
    case atStart => exact ⟨0, 32, Nat.zero_le _, by omega, rfl, rfl, rfl⟩
    case round =>
      obtain ⟨k, m, hk, hm, rfl, rfl, he⟩ := hrel
      have HE := hid2 he
      clear he
      by_cases hlt : k < n
      · have hm2 : m ≤ 4096 := by
          rw [HE.out]
          have : 2 ^ k ≤ 2 ^ 7 := Nat.pow_le_pow_right (by omega) (by omega)
          omega
        go_wp2
        go_round
        case rel => exact ⟨k + 1, m * 2, by omega, by omega, by go_num, by go_num, by rw [HE.out, Nat.pow_succ]; omega⟩
        case measure => simp [intOf]; omega
      · have hkn : k = n := by omega
        go_wp2
        go_ret
        rw [HZ.out, HE.out, hkn]
        exact ⟨rfl, rfl⟩

/-- Class. -/
theorem class_any (w : World) (n : Int) : Calls Tryd.prog 9 #[.int .i64 n] w fun e w' => e = .returned (.int .i64 (cls n)) ∧ w' = w := by
  by_cases hn : n < 0
  · rw [cls_out (.inl hn)]
    go_enter Tryd.func9, Tryd.ntmps9
    go_wp2
    go_ret
    exact ⟨rfl, rfl⟩
  · have HC : Hid (∀ c : Nat, c ≤ 8 → (n ≤ sz c ↔ 0 ≤ cls n ∧ cls n ≤ c)) := fun c hc => cls_least (by omega) (by omega) (by omega)
    go_enter Tryd.func9, Tryd.ntmps9
    go_wp2_with fail
    go_loop [6] (fun i => ∃ k : Nat, k ≤ 9 ∧ i = .int .i64 k ∧ ∀ c : Nat, c < k → ¬ n ≤ sz c) (fun i => 9 - (intOf i).toNat)
    case atStart => exact ⟨0, Nat.zero_le _, rfl, fun c hc => absurd hc (by omega)⟩
    case round =>
      obtain ⟨k, hk, rfl, he⟩ := hrel
      have HE := hid2 he
      clear he
      by_cases hlt : k < 9
      · have KS := hid2 (size_any w k)
        have hc := HC.out k (by omega)
        have hs := sz_nonneg (k : Int)
        obtain ⟨s, hsz⟩ : ∃ s, sz (k : Int) = s := ⟨_, rfl⟩
        rw [hsz] at KS hc hs
        have HSZ := hid2 hsz
        clear hsz
        have HCC := hid2 hc
        clear hc
        by_cases h2 : n ≤ s
        · have E : Hid (cls n = k) := by
            show _ = _
            have h3 := HCC.out.1 h2
            rcases Nat.eq_zero_or_pos k with h0 | h0
            · omega
            · have h4 := HE.out (k - 1) (by omega)
              rw [HC.out (k - 1) (by omega)] at h4
              omega
          go_wp2_with fail
          refine (show Calls _ _ _ _ _ from KS.out).mono ?_
          rintro e w1 ⟨rfl, hw⟩
          cases hw
          go_wp2
          go_ret
          rw [E.out]
          exact ⟨rfl, rfl⟩
        · have H2 := hid2 h2
          go_wp2_with fail
          refine (show Calls _ _ _ _ _ from KS.out).mono ?_
          rintro e w1 ⟨rfl, hw⟩
          cases hw
          go_wp2
          go_round
          case rel => exact ⟨k + 1, by omega, by go_num, fun c hc => by
            rcases (by omega : c < k ∨ c = k) with h | h
            · have := HE.out c h; omega
            · rw [h, HSZ.out]; have := H2.out; omega⟩
          case measure => simp [intOf]; omega
      · have E : Hid (cls n = -1) := by
          show _ = _
          have h4 := HE.out 8 (by omega)
          have h5 := cls_spec (n := n) (by omega)
          have h6 : sz ((8 : Nat) : Int) = 8192 := rfl
          rw [h6] at h4
          omega
        go_wp2
        go_ret
        rw [E.out]
        exact ⟨rfl, rfl⟩

/-- Class, of the document. -/
theorem rclass_any (w : World) (n : Int) : Calls Tryd.prog 10 #[.int .i64 n] w fun e w' => e = .returned (.int .i64 (cls n)) ∧ w' = w := by
  by_cases hn : n < 0
  · rw [cls_out (.inl hn)]
    go_enter Tryd.func10, Tryd.ntmps10
    go_wp2_with fail
    go_loop [3] (fun i => i = .int .i64 0) (fun _ => 0)
    case atStart => rfl
    case round =>
      obtain rfl := hrel
      go_wp2
      go_ret
      exact ⟨rfl, rfl⟩
  · have HC : Hid (∀ c : Nat, c ≤ 8 → (n ≤ sz c ↔ 0 ≤ cls n ∧ cls n ≤ c)) := fun c hc => cls_least (by omega) (by omega) (by omega)
    go_enter Tryd.func10, Tryd.ntmps10
    go_wp2_with fail
    go_loop [3] (fun i => ∃ k : Nat, k ≤ 9 ∧ i = .int .i64 k ∧ ∀ c : Nat, c < k → ¬ n ≤ sz c) (fun i => 9 - (intOf i).toNat)
    case atStart => exact ⟨0, Nat.zero_le _, rfl, fun c hc => absurd hc (by omega)⟩
    case round =>
      obtain ⟨k, hk, rfl, he⟩ := hrel
      have HE := hid2 he
      clear he
      by_cases hlt : k < 9
      · have KS := hid2 (rsize_any w k)
        have hc := HC.out k (by omega)
        have hs := sz_nonneg (k : Int)
        obtain ⟨s, hsz⟩ : ∃ s, sz (k : Int) = s := ⟨_, rfl⟩
        rw [hsz] at KS hc hs
        have HSZ := hid2 hsz
        clear hsz
        have HCC := hid2 hc
        clear hc
        by_cases h2 : n ≤ s
        · have E : Hid (cls n = k) := by
            show _ = _
            have h3 := HCC.out.1 h2
            rcases Nat.eq_zero_or_pos k with h0 | h0
            · omega
            · have h4 := HE.out (k - 1) (by omega)
              rw [HC.out (k - 1) (by omega)] at h4
              omega
          go_wp2_with fail
          refine (show Calls _ _ _ _ _ from KS.out).mono ?_
          rintro e w1 ⟨rfl, hw⟩
          cases hw
          go_wp2
          go_ret
          rw [E.out]
          exact ⟨rfl, rfl⟩
        · have H2 := hid2 h2
          go_wp2_with fail
          refine (show Calls _ _ _ _ _ from KS.out).mono ?_
          rintro e w1 ⟨rfl, hw⟩
          cases hw
          go_wp2
          go_round
          case rel => exact ⟨k + 1, by omega, by go_num, fun c hc => by
            rcases (by omega : c < k ∨ c = k) with h | h
            · have := HE.out c h; omega
            · rw [h, HSZ.out]; have := H2.out; omega⟩
          case measure => simp [intOf]; omega
      · have E : Hid (cls n = -1) := by
          show _ = _
          have h4 := HE.out 8 (by omega)
          have h5 := cls_spec (n := n) (by omega)
          have h6 : sz ((8 : Nat) : Int) = 8192 := rfl
          rw [h6] at h4
          omega
        go_wp2
        go_ret
        rw [E.out]
        exact ⟨rfl, rfl⟩
end Go.Proofs.YtjlpkjgdpbjpcaaDoor
