/-
  Len of the program and of the document.
-/
import Derived.Test.YtgmghekgelmmcaaDoorQIMem
namespace Go.Proofs.YtgmghekgelmmcaaDoor.Ite
open Go.RowKit

theorem ret_int {k : IntKind} {a b : Int} (h : a = b) : Ending.returned (.int k a) = .returned (.int k b) := by rw [h]

theorem len_of (n : Int) (k : Nat) (h : (k = 1 ∧ n < 128) ∨ (k = 2 ∧ 128 ≤ n ∧ n < 16384) ∨ (k = 3 ∧ 16384 ≤ n ∧ n < 2097152) ∨ (k = 4 ∧ 2097152 ≤ n ∧ n < 268435456) ∨ (k = 5 ∧ 268435456 ≤ n ∧ n < 34359738368) ∨
    (k = 6 ∧ 34359738368 ≤ n ∧ n < 4398046511104) ∨ (k = 7 ∧ 4398046511104 ≤ n ∧ n < 562949953421312) ∨ (k = 8 ∧ 562949953421312 ≤ n ∧ n < 72057594037927936) ∨ (k = 9 ∧ 72057594037927936 ≤ n)) : (lenN n : Int) = k := by
  unfold lenN
  repeat' split
  all_goals omega

set_option maxHeartbeats 1000000 in
set_option maxRecDepth 10000 in
theorem len_any (n : Int) (w : World) (h0 : 0 ≤ n) :
    Calls Tryd.prog 60 #[.int .i64 n] w fun e w' => e = .returned (.int .i64 (lenN n)) ∧ w' = w := by
  have cases9 : (0 ≤ n ∧ n < 128) ∨ (128 ≤ n ∧ n < 16384) ∨ (16384 ≤ n ∧ n < 2097152) ∨ (2097152 ≤ n ∧ n < 268435456) ∨ (268435456 ≤ n ∧ n < 34359738368) ∨ (34359738368 ≤ n ∧ n < 4398046511104) ∨
    (4398046511104 ≤ n ∧ n < 562949953421312) ∨ (562949953421312 ≤ n ∧ n < 72057594037927936) ∨ (72057594037927936 ≤ n ∧ 0 ≤ n) := by omega
  rcases cases9 with ⟨a, b⟩ | ⟨a, b⟩ | ⟨a, b⟩ | ⟨a, b⟩ | ⟨a, b⟩ | ⟨a, b⟩ | ⟨a, b⟩ | ⟨a, b⟩ | ⟨a, b⟩
  all_goals
    go_enter Tryd.func60, Tryd.ntmps60
    go_wp2
    go_ret
  · exact ⟨ret_int (len_of n 1 (by omega)).symm, rfl⟩
  · exact ⟨ret_int (len_of n 2 (by omega)).symm, rfl⟩
  · exact ⟨ret_int (len_of n 3 (by omega)).symm, rfl⟩
  · exact ⟨ret_int (len_of n 4 (by omega)).symm, rfl⟩
  · exact ⟨ret_int (len_of n 5 (by omega)).symm, rfl⟩
  · exact ⟨ret_int (len_of n 6 (by omega)).symm, rfl⟩
  · exact ⟨ret_int (len_of n 7 (by omega)).symm, rfl⟩
  · exact ⟨ret_int (len_of n 8 (by omega)).symm, rfl⟩
  · exact ⟨ret_int (len_of n 9 (by omega)).symm, rfl⟩

theorem pos_of_ediv {n : Int} {k : Nat} (h : 0 < n / 128 ^ k) : 128 ^ k ≤ n := by
  have hp : (0:Int) < 128 ^ k := Int.pow_pos (by omega)
  have : 1 * 128 ^ k ≤ n := (Int.le_ediv_iff_mul_le hp).1 (by omega)
  omega

theorem lt_of_ediv {n : Int} {k : Nat} (h : ¬ 0 < n / 128 ^ k) : n < 128 ^ k := by
  have hp : (0:Int) < 128 ^ k := Int.pow_pos (by omega)
  have : n < 1 * 128 ^ k := (Int.ediv_lt_iff_lt_mul hp).1 (by omega)
  omega

/-- How many digits were counted is below nine, while more are there. -/
theorem few9 {n : Int} {k : Nat} (h1 : n ≤ 9223372036854775807) (h : 0 < n / 128 ^ k) : k ≤ 8 := by
  have a := pos_of_ediv h
  rcases Nat.lt_or_ge k 9 with g | g
  · omega
  · exfalso
    have := pow_ge (k - 8)
    rw [show 8 + (k - 8) = k by omega] at this
    have b : (128 : Int) ^ 9 ≤ 128 ^ k := by
      have := pow_ge (k - 9)
      have e : (128 : Int) ^ k = 128 ^ (8 + (k - 9)) * 128 := by rw [← Int.pow_succ]; congr 1; omega
      rw [e]; simp; omega
    simp at b; omega

theorem ediv_nn {n : Int} (k : Nat) (h : 0 ≤ n) : 0 ≤ n / 128 ^ k := Int.ediv_nonneg h (Int.le_of_lt (Int.pow_pos (by omega)))

theorem lenN_at {n : Int} {k : Nat} (h1 : n ≤ 9223372036854775807) (hk : 1 ≤ k) (h : ¬ 0 < n / 128 ^ k) (hp : k = 1 ∨ 0 < n / 128 ^ (k - 1)) : lenN n = k := by
  refine lenN_uniq n k hk ?_ (lt_of_ediv h) ?_
  · rcases hp with hp | hp
    · omega
    · have := few9 h1 hp; omega
  · rcases hp with hp | hp
    · exact .inl hp
    · exact .inr (pos_of_ediv hp)


end Go.Proofs.YtgmghekgelmmcaaDoor.Ite
