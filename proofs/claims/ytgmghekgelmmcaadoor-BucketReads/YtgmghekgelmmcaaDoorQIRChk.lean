/-
  Check of the document; whether an entry has ended; how many bytes a text takes.
-/
import Derived.Test.YtgmghekgelmmcaaDoorQIChk
namespace Go.Proofs.YtgmghekgelmmcaaDoor.Ite
open Go.RowKit

set_option maxHeartbeats 2000000 in
set_option maxRecDepth 10000 in
theorem rcheck_any (k : ByteArray) (v a e : Int) (p : Option Addr) (n cap : Nat) (w : World) (hk : k.size ≤ maxLen) (hn : n ≤ maxLen) :
    Calls Tryd.prog 33 #[.agg #[.string k, .int .i64 v, .int .i64 a, .int .i64 e, .slice p n cap]] w fun en w' => en = .returned (.int .i64 (chk k v a e n)) ∧ Below w.heap.size w w' := by
  have B0 : Hid (Below w.heap.size w (w.alloc (.cells #[.string k, .int .i64 v, .int .i64 a, .int .i64 e, .slice p n cap] 39))) := by show Below _ _ _; go_grown
  have hk' := hk
  unfold maxLen at hk' hn
  by_cases h1 : keyC k = 0
  · by_cases h2 : numsC v a e = 0
    · have h2b : ¬ (v < 1 ∨ 1099511627776 < v ∨ a < v ∨ 1099511627776 < a ∨ e < 0 ∨ 1099511627776 < e) := by
        intro h
        unfold numsC at h2
        rw [if_pos h] at h2
        cases h2
      have i1 : ¬ v < 1 := by omega
      have i2 : ¬ 1099511627776 < v := by omega
      have i3 : ¬ a < v := by omega
      have i4 : ¬ 1099511627776 < a := by omega
      have i5 : ¬ e < 0 := by omega
      have i6 : ¬ 1099511627776 < e := by omega
      by_cases h3 : 4096 < n
      · have HC : Hid (chk k v a e n = 3) := by show _ = _; unfold chk; rw [if_neg (by simpa using h1), if_neg (by simpa using h2), if_pos h3]
        have h3' : 4096 < (n : Int) := by omega
        clear h2 h2b
        go_enter Tryd.func33, Tryd.ntmps33
        go_wp2_with (go_at_call 59; refine (rkey_any k _ hk).mono ?_; rintro en w1 ⟨rfl, hw⟩; cases hw; rw [h1])
        go_ret
        rw [HC.out]
        exact ⟨rfl, B0.out⟩
      · have HC : Hid (chk k v a e n = 0) := by show _ = _; unfold chk; rw [if_neg (by simpa using h1), if_neg (by simpa using h2), if_neg h3]
        have h3' : ¬ 4096 < (n : Int) := by omega
        clear h2 h2b
        go_enter Tryd.func33, Tryd.ntmps33
        go_wp2_with (go_at_call 59; refine (rkey_any k _ hk).mono ?_; rintro en w1 ⟨rfl, hw⟩; cases hw; rw [h1])
        go_ret
        rw [HC.out]
        exact ⟨rfl, B0.out⟩
    · have HC : Hid (chk k v a e n = 2) := by
        show _ = _
        unfold chk
        rw [if_neg (by simpa using h1), if_pos (by simpa using h2)]
        unfold numsC at h2 ⊢
        split
        · rfl
        · rename_i h; rw [if_neg h] at h2; exact absurd rfl h2
      have h2b : (v < 1 ∨ 1099511627776 < v ∨ a < v ∨ 1099511627776 < a ∨ e < 0 ∨ 1099511627776 < e) := by
        by_cases h : (v < 1 ∨ 1099511627776 < v ∨ a < v ∨ 1099511627776 < a ∨ e < 0 ∨ 1099511627776 < e)
        · exact h
        · unfold numsC at h2; rw [if_neg h] at h2; exact absurd rfl h2
      have six : (v < 1) ∨ (¬ v < 1 ∧ 1099511627776 < v) ∨ (¬ v < 1 ∧ ¬ 1099511627776 < v ∧ a < v) ∨ (¬ v < 1 ∧ ¬ 1099511627776 < v ∧ ¬ a < v ∧ 1099511627776 < a) ∨ (¬ v < 1 ∧ ¬ 1099511627776 < v ∧ ¬ a < v ∧ ¬ 1099511627776 < a ∧ e < 0) ∨ (¬ v < 1 ∧ ¬ 1099511627776 < v ∧ ¬ a < v ∧ ¬ 1099511627776 < a ∧ ¬ e < 0 ∧ 1099511627776 < e) := by omega
      clear h2 h2b
      rcases six with i1 | ⟨i1, i2⟩ | ⟨i1, i2, i3⟩ | ⟨i1, i2, i3, i4⟩ | ⟨i1, i2, i3, i4, i5⟩ | ⟨i1, i2, i3, i4, i5, i6⟩
      all_goals
        go_enter Tryd.func33, Tryd.ntmps33
        go_wp2_with (go_at_call 59; refine (rkey_any k _ hk).mono ?_; rintro en w1 ⟨rfl, hw⟩; cases hw; rw [h1])
        go_ret
        rw [HC.out]
        exact ⟨rfl, B0.out⟩
  · have HC : Hid (chk k v a e n = keyC k) := by show _ = _; unfold chk; rw [if_pos (by simpa using h1)]
    have hK : Hid (∀ w, Calls Tryd.prog 59 #[.string k] w fun e w' => e = .returned (.int .i64 (keyC k)) ∧ w' = w) := fun w => rkey_any k w hk
    generalize keyC k = c at *
    have hc : (c != 0) = true := by simpa using h1
    clear h1
    go_enter Tryd.func33, Tryd.ntmps33
    go_wp2_with (go_at_call 59; refine (hK.out _).mono ?_; rintro en w1 ⟨rfl, hw⟩; cases hw)
    go_ret
    rw [HC.out]
    exact ⟨rfl, B0.out⟩

/-- Has an entry not ended? -/
def liveB (e now : Int) : Bool := decide (e = 0) || decide (now < e)

theorem tsize_any (n : Nat) (w : World) (hn : n ≤ 100000) : Calls Tryd.prog 61 #[.int .i64 n] w fun en w' => en = .returned (.int .i64 ((lenN n + n : Nat) : Int)) ∧ w' = w := by
  have hl := lenN_bd n
  go_enter Tryd.func61, Tryd.ntmps61
  go_wp2_with (go_at_call 60; refine (len_any n _ (by omega)).mono ?_; rintro e w' ⟨rfl, hw⟩; cases hw)
  go_ret
  exact ⟨by go_num, rfl⟩
end Go.Proofs.YtgmghekgelmmcaaDoor.Ite
