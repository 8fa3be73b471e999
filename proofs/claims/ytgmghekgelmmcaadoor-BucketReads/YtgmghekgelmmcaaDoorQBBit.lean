/-
  Bits of numbers of 64 bits: what exclusive-or, or, and, and the moves of the model are as numbers; laid ahead for layer 7.
-/
import Derived.Test.YtgmghekgelmmcaaDoorQBMem
import Derived.WalkKit
import Derived.Laws.BitsLemmas
namespace Go.Proofs.YtgmghekgelmmcaaDoor.Blo
open Go.RowKit

theorem wraps_u64 (n : Int) (h0 : 0 ≤ n) (h1 : n < 2 ^ 64) : IntKind.u64.wrap n = n := by rw [IntKind.wrap_u64]; omega
theorem bits64 : (2 : Nat) ^ IntKind.u64.bits = 18446744073709551616 := by decide
theorem xor_u64 (a b : Nat) (ha : a < 18446744073709551616) (hb : b < 18446744073709551616) : bits .xor .u64 a b = ((a ^^^ b : Nat) : Int) := by
  have ha' : a % 2 ^ IntKind.u64.bits = a := Nat.mod_eq_of_lt (by rw [bits64]; exact ha)
  have hb' : b % 2 ^ IntKind.u64.bits = b := Nat.mod_eq_of_lt (by rw [bits64]; exact hb)
  simp only [bits, BitVec.ofInt_natCast, BitVec.toNat_xor, BitVec.toNat_ofNat, ha', hb']
  exact wraps_u64 _ (Int.natCast_nonneg _) (by exact_mod_cast Nat.xor_lt_two_pow (n := 64) ha hb)
theorem or_u64 (a b : Nat) (ha : a < 18446744073709551616) (hb : b < 18446744073709551616) : bits .or .u64 a b = ((a ||| b : Nat) : Int) := by
  have ha' : a % 2 ^ IntKind.u64.bits = a := Nat.mod_eq_of_lt (by rw [bits64]; exact ha)
  have hb' : b % 2 ^ IntKind.u64.bits = b := Nat.mod_eq_of_lt (by rw [bits64]; exact hb)
  simp only [bits, BitVec.ofInt_natCast, BitVec.toNat_or, BitVec.toNat_ofNat, ha', hb']
  exact wraps_u64 _ (Int.natCast_nonneg _) (by exact_mod_cast Nat.or_lt_two_pow (n := 64) ha hb)
theorem and_u64 (a b : Nat) (ha : a < 18446744073709551616) (hb : b < 18446744073709551616) : bits .and .u64 a b = ((a &&& b : Nat) : Int) := by
  have ha' : a % 2 ^ IntKind.u64.bits = a := Nat.mod_eq_of_lt (by rw [bits64]; exact ha)
  have hb' : b % 2 ^ IntKind.u64.bits = b := Nat.mod_eq_of_lt (by rw [bits64]; exact hb)
  simp only [bits, BitVec.ofInt_natCast, BitVec.toNat_and, BitVec.toNat_ofNat, ha', hb']
  exact wraps_u64 _ (Int.natCast_nonneg _) (by exact_mod_cast Nat.and_lt_two_pow (n := 64) a hb)
/-- A product. -/
theorem mul_u64 (a k : Nat) : IntKind.u64.wrap ((a : Int) * (k : Int)) = ((a * k % 18446744073709551616 : Nat) : Int) := by
  rw [IntKind.wrap_u64]
  omega
/-- One bit of a number. -/
theorem and_bit (n p : Nat) : (n &&& 2 ^ p = 0) ↔ n.testBit p = false := by
  constructor
  · intro h
    have := congrArg (fun m => m.testBit p) h
    simpa [Nat.testBit_and, Nat.testBit_two_pow_self] using this
  · intro h
    apply Nat.eq_of_testBit_eq
    intro i
    rw [Nat.testBit_and, Nat.testBit_two_pow, Nat.zero_testBit]
    by_cases e : p = i
    · subst e; simp [h]
    · simp [e]
end Go.Proofs.YtgmghekgelmmcaaDoor.Blo
