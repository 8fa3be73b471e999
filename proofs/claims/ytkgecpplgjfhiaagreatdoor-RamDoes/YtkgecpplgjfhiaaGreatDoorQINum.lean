/-
  putNumber of the program.
-/
import Derived.Test.YtkgecpplgjfhiaaGreatDoorQIMem
namespace Go.Proofs.YtkgecpplgjfhiaaGreatDoor.Ite
open Go.RowKit

theorem ret_int {k : IntKind} {a b : Int} (h : a = b) : Ending.returned (.int k a) = .returned (.int k b) := by rw [h]

theorem len_of (n : Int) (k : Nat) (h : (k = 1 ∧ n < 128) ∨ (k = 2 ∧ 128 ≤ n ∧ n < 16384) ∨ (k = 3 ∧ 16384 ≤ n ∧ n < 2097152) ∨ (k = 4 ∧ 2097152 ≤ n ∧ n < 268435456) ∨ (k = 5 ∧ 268435456 ≤ n ∧ n < 34359738368) ∨
    (k = 6 ∧ 34359738368 ≤ n ∧ n < 4398046511104) ∨ (k = 7 ∧ 4398046511104 ≤ n ∧ n < 562949953421312) ∨ (k = 8 ∧ 562949953421312 ≤ n ∧ n < 72057594037927936) ∨ (k = 9 ∧ 72057594037927936 ≤ n)) : (lenN n : Int) = k := by
  unfold lenN
  repeat' split
  all_goals omega

set_option maxHeartbeats 1000000 in
set_option maxRecDepth 10000 in
theorem len_any (n : Int) (w : World) (h0 : 0 ≤ n) :
    Calls Tryz.prog 71 #[.int .i64 n] w fun e w' => e = .returned (.int .i64 (lenN n)) ∧ w' = w := by
  have cases9 : (0 ≤ n ∧ n < 128) ∨ (128 ≤ n ∧ n < 16384) ∨ (16384 ≤ n ∧ n < 2097152) ∨ (2097152 ≤ n ∧ n < 268435456) ∨ (268435456 ≤ n ∧ n < 34359738368) ∨ (34359738368 ≤ n ∧ n < 4398046511104) ∨
    (4398046511104 ≤ n ∧ n < 562949953421312) ∨ (562949953421312 ≤ n ∧ n < 72057594037927936) ∨ (72057594037927936 ≤ n ∧ 0 ≤ n) := by omega
  rcases cases9 with ⟨a, b⟩ | ⟨a, b⟩ | ⟨a, b⟩ | ⟨a, b⟩ | ⟨a, b⟩ | ⟨a, b⟩ | ⟨a, b⟩ | ⟨a, b⟩ | ⟨a, b⟩
  all_goals
    go_enter Tryz.func71, Tryz.ntmps71
    go_wp2
    go_ret
  · exact ⟨ret_int (len_of n 1 (by omega)).symm, rfl⟩
  · exact ⟨ret_int (len_of n 2 (by omega)).symm, rfl⟩
  · exact ⟨ret_int (len_of n 3 (by omega)).symm, rfl⟩
  · exact ⟨ret_int (len_of n 4 (by omega)).symm, rfl⟩
  · exact ⟨ret_int (len_of n 5 (by omega)).symm, rfl⟩
  · exact ⟨ret_int (len_of n 6 (by omega)).symm, rfl⟩
  · exact ⟨ret_int (len_of n 7 (by omega)).symm, rfl⟩
  · exact ⟨ret_int (len_of n 8 (by omega)).symm, rfl⟩
  · exact ⟨ret_int (len_of n 9 (by omega)).symm, rfl⟩

theorem pos_of_ediv {n : Int} {k : Nat} (h : 0 < n / 128 ^ k) : 128 ^ k ≤ n := by
  have hp : (0:Int) < 128 ^ k := Int.pow_pos (by omega)
  have : 1 * 128 ^ k ≤ n := (Int.le_ediv_iff_mul_le hp).1 (by omega)
  omega

theorem lt_of_ediv {n : Int} {k : Nat} (h : ¬ 0 < n / 128 ^ k) : n < 128 ^ k := by
  have hp : (0:Int) < 128 ^ k := Int.pow_pos (by omega)
  have : n < 1 * 128 ^ k := (Int.ediv_lt_iff_lt_mul hp).1 (by omega)
  omega

/-- How many digits were counted is below nine, while more are there. -/
theorem few9 {n : Int} {k : Nat} (h1 : n ≤ 9223372036854775807) (h : 0 < n / 128 ^ k) : k ≤ 8 := by
  have a := pos_of_ediv h
  rcases Nat.lt_or_ge k 9 with g | g
  · omega
  · exfalso
    have := pow_ge (k - 8)
    rw [show 8 + (k - 8) = k by omega] at this
    have b : (128 : Int) ^ 9 ≤ 128 ^ k := by
      have := pow_ge (k - 9)
      have e : (128 : Int) ^ k = 128 ^ (8 + (k - 9)) * 128 := by rw [← Int.pow_succ]; congr 1; omega
      rw [e]; simp; omega
    simp at b; omega

theorem ediv_nn {n : Int} (k : Nat) (h : 0 ≤ n) : 0 ≤ n / 128 ^ k := Int.ediv_nonneg h (Int.le_of_lt (Int.pow_pos (by omega)))

theorem lenN_at {n : Int} {k : Nat} (h1 : n ≤ 9223372036854775807) (hk : 1 ≤ k) (h : ¬ 0 < n / 128 ^ k) (hp : k = 1 ∨ 0 < n / 128 ^ (k - 1)) : lenN n = k := by
  refine lenN_uniq n k hk ?_ (lt_of_ediv h) ?_
  · rcases hp with hp | hp
    · omega
    · have := few9 h1 hp; omega
  · rcases hp with hp | hp
    · exact .inl hp
    · exact .inr (pos_of_ediv hp)


end Go.Proofs.YtkgecpplgjfhiaaGreatDoor.Ite

namespace Go.Proofs.YtkgecpplgjfhiaaGreatDoor.Ite
open Go.RowKit

end Go.Proofs.YtkgecpplgjfhiaaGreatDoor.Ite

namespace Go.Proofs.YtkgecpplgjfhiaaGreatDoor.Ite
open Go.RowKit

theorem and127 (x : Int) (h0 : 0 ≤ x) (h1 : x < 256) : bits .and .u8 x 127 = x % 128 := bits_mask .u8 8 (by decide) wraps_u8 7 (by decide) x h0 h1

theorem bits_or_comm (k : IntKind) (x y : Int) : bits .or k x y = bits .or k y x := by
  simp only [bits, BitVec.toNat_or, Nat.or_comm]

theorem or128 (y : Int) (h0 : 0 ≤ y) (h1 : y < 128) : bits .or .u8 y 128 = y + 128 := by
  rw [bits_or_comm, bits_join .u8 8 (by decide) wraps_u8 7 128 y (by omega) (by decide) (by decide) h0 (by simpa using h1) (by simp; omega)]
  omega

theorem or_i64 (n d : Int) (h0 : 0 ≤ n) (h1 : n ≤ 72057594037927935) (h2 : 0 ≤ d) (h3 : d < 128) : bits .or .i64 (n * 128) d = n * 128 + d :=
  bits_join .i64 63 (by decide) (fun x a b => by rw [IntKind.wrap_i64]; simp at b; omega) 7 (n * 128) d (by omega) (by simp) (by simp; omega) h2 (by simpa using h3) (by simp; omega)

theorem or_u64 (n d : Int) (h0 : 0 ≤ n) (h1 : n ≤ 72057594037927935) (h2 : 0 ≤ d) (h3 : d < 256) : bits .or .u64 (n * 256) d = n * 256 + d :=
  bits_join .u64 64 (by decide) (fun x a b => by rw [IntKind.wrap_u64]; simp at b; omega) 8 (n * 256) d (by omega) (by simp) (by simp; omega) h2 (by simpa using h3) (by simp; omega)

theorem pow_min (k : Nat) (hk : k ≤ 8) : (2 : Int) ^ min (7 * (k : Int)).toNat 64 = 128 ^ k := by
  have e : min (7 * (k : Int)).toNat 64 = 7 * k := by omega
  rw [e, Int.pow_mul]; rfl

theorem pow_min8 (k : Nat) (hk : k ≤ 7) : (2 : Int) ^ min (8 * (k : Int)).toNat 64 = 256 ^ k := by
  have e : min (8 * (k : Int)).toNat 64 = 8 * k := by omega
  rw [e, Int.pow_mul]; rfl

theorem sl_one_new (w : World) (c : Int) : SlAt (w.alloc (.cells #[.int .u8 c] 5)) w.heap.size (.slice (some ⟨w.heap.size, 0, none⟩) 1 1) (U [c]) := by
  refine .inr ⟨_, 1, rfl, by simp [U], by unfold maxLen; omega, .inr ⟨0, rfl, by simp, fun k u hk => ?_⟩⟩
  cases k with
  | zero => simp [U] at hk; subst hk; simp
  | succ k => simp [U] at hk

theorem byte_last (n : Int) : bits .and .u8 (n % 256) 127 = n / 128 ^ 0 % 128 + if 0 = 0 then 0 else 128 := by
  rw [and127 _ (by omega) (by omega)]; simp
end Go.Proofs.YtkgecpplgjfhiaaGreatDoor.Ite

namespace Go.Proofs.YtkgecpplgjfhiaaGreatDoor.Ite
open Go.RowKit

theorem byte_more (n : Int) (k : Nat) : bits .or .u8 (bits .and .u8 (n / 2 ^ (7 * (k + 1)) % 256) 127) 128 = n / 128 ^ (k + 1) % 128 + if k + 1 = 0 then 0 else 128 := by
  have e : (2 : Int) ^ (7 * (k + 1)) = 128 ^ (k + 1) := by rw [Int.pow_mul]; rfl
  rw [e, and127 _ (by omega) (by omega), or128 _ (by omega) (by omega), if_neg (by omega)]
  omega

end Go.Proofs.YtkgecpplgjfhiaaGreatDoor.Ite
