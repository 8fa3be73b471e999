/-
  Whether two arrays of four bytes are the same.
-/
import Derived.Test.YtcdcdlofgeoonaaDoorRefSeal
import Derived.Laws.StructEq
namespace Go.Proofs.YtcdcdlofgeoonaaDoor
open Go.RowKit

/-- Two arrays of four bytes. -/
theorem eq25 (a b c d a' b' c' d' : Int) (w : World) : (Op.equalIn 10000 68 (.agg #[.int .u8 a, .int .u8 b, .int .u8 c, .int .u8 d]) (.agg #[.int .u8 a', .int .u8 b', .int .u8 c', .int .u8 d'])).run Tryd.prog w = .ok (a == a' && b == b' && c == c' && d == d') w := by
  have u5 := Tryd.underlying5
  have a5 := Tryd.isAgg5
  have z5 := Tryd.sizeOf5
  rw [show (10000 : Nat) = 9999 + 1 from rfl, Op.equalIn]
  simp only [Sem.run_bind, run_underlying Tryd.underlying68, Result.andThen_ok]
  simp only [Std.Legacy.Range.forIn_eq_forIn_range', Std.Legacy.Range.size, Nat.sub_zero, Nat.add_sub_cancel, Nat.div_one, List.range'_succ, List.range'_zero, List.forIn_cons, List.forIn_nil]
  go_simp
  by_cases h1 : a = a'
  · by_cases h2 : b = b'
    · by_cases h3 : c = c'
      · by_cases h4 : d = d' <;> simp [h1, h2, h3, h4]
      · simp [h1, h2, h3]
    · simp [h1, h2]
  · simp [h1]

theorem eq25_nat (a b c d a' b' c' d' : Nat) (w : World) : (Op.equalIn 10000 68 (.agg #[.int .u8 (a : Int), .int .u8 (b : Int), .int .u8 (c : Int), .int .u8 (d : Int)]) (.agg #[.int .u8 (a' : Int), .int .u8 (b' : Int), .int .u8 (c' : Int), .int .u8 (d' : Int)])).run Tryd.prog w = .ok (decide ([a', b', c', d'] = [a, b, c, d])) w := by
  rw [eq25]
  congr 1
  rw [Bool.eq_iff_iff]
  simp
  omega

end Go.Proofs.YtcdcdlofgeoonaaDoor
