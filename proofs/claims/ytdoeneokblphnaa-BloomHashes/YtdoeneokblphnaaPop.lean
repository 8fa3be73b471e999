/-
  How many bits a number of 64 bits has, as math/bits counts them: by twos, by fours, by eights.
-/
import Derived.Test.YtdoeneokblphnaaMath
namespace Go.Proofs.Ytdoeneokblphnaa

theorem and_split {s a x c y : Nat} (ha : a < 2 ^ s) (hc : c < 2 ^ s) : (a + 2 ^ s * x) &&& (c + 2 ^ s * y) = (a &&& c) + 2 ^ s * (x &&& y) := by
  have hp : 0 < 2 ^ s := Nat.two_pow_pos s
  have e1 : ((a + 2 ^ s * x) &&& (c + 2 ^ s * y)) % 2 ^ s = a &&& c := by
    rw [Nat.and_mod_two_pow, Nat.add_mul_mod_self_left, Nat.add_mul_mod_self_left, Nat.mod_eq_of_lt ha, Nat.mod_eq_of_lt hc]
  have e2 : ((a + 2 ^ s * x) &&& (c + 2 ^ s * y)) / 2 ^ s = x &&& y := by
    rw [Nat.and_div_two_pow, Nat.add_mul_div_left _ _ hp, Nat.add_mul_div_left _ _ hp, Nat.div_eq_of_lt ha, Nat.div_eq_of_lt hc, Nat.zero_add, Nat.zero_add]
  have := Nat.mod_add_div ((a + 2 ^ s * x) &&& (c + 2 ^ s * y)) (2 ^ s)
  rw [e1, e2] at this
  exact this.symm
theorem and256 {a x c y : Nat} (ha : a < 256) (hc : c < 256) : (a + 256 * x) &&& (c + 256 * y) = (a &&& c) + 256 * (x &&& y) := and_split (s := 8) ha hc

/-- By twos, by fours, by eights, of a number with these masks. -/
def s1 (m x : Nat) : Nat := (x / 2 &&& m) + (x &&& m)
def s2 (m x : Nat) : Nat := (x / 4 &&& m) + (x &&& m)
def s3 (m x : Nat) : Nat := (x / 16 + x) &&& m

theorem and85 : ∀ p < 128, (p + 128) &&& 85 = p &&& 85 := by decide +kernel
theorem and51 : ∀ p < 64, ∀ t < 4, (p + 64 * t) &&& 51 = p &&& 51 := by decide +kernel
theorem and15 (p : Nat) : p &&& 15 = p % 16 := Nat.and_two_pow_sub_one_eq_mod p 4
theorem s1_step {a y m : Nat} (ha : a < 256) : s1 (85 + 256 * m) (a + 256 * y) = s1 85 a + 256 * s1 m y := by
  have e : (a + 256 * y) / 2 = (a / 2 + 128 * (y % 2)) + 256 * (y / 2) := by omega
  unfold s1
  rw [e, and256 (by omega) (by omega), and256 ha (by omega)]
  have : (a / 2 + 128 * (y % 2)) &&& 85 = a / 2 &&& 85 := by
    rcases Nat.mod_two_eq_zero_or_one y with h | h
    · rw [h]
      rfl
    · rw [h, Nat.mul_one]
      exact and85 (a / 2) (by omega)
  rw [this]
  omega
theorem s2_step {a y m : Nat} (ha : a < 256) : s2 (51 + 256 * m) (a + 256 * y) = s2 51 a + 256 * s2 m y := by
  have e : (a + 256 * y) / 4 = (a / 4 + 64 * (y % 4)) + 256 * (y / 4) := by omega
  unfold s2
  rw [e, and256 (by omega) (by omega), and256 ha (by omega), and51 _ (by omega) _ (by omega)]
  omega
theorem s3_step {a y m : Nat} (ha : a ≤ 102) (hy : y % 16 ≤ 6) : s3 (15 + 256 * m) (a + 256 * y) = s3 15 a + 256 * s3 m y := by
  have e : (a + 256 * y) / 16 + (a + 256 * y) = (a / 16 + a + 16 * (y % 16)) + 256 * (y / 16 + y) := by omega
  unfold s3
  rw [e, and256 (by omega) (by omega), and15, and15]
  omega
theorem byte1 : ∀ a < 256, s1 85 a < 256 := by decide +kernel
theorem byte2 : ∀ a < 256, s2 51 a ≤ 102 := by decide +kernel
/-- The bits of a byte. -/
def pop8 (n : Nat) : Nat := (List.range 8).countP (fun k => n.testBit k)
theorem byte3 : ∀ a < 256, s3 15 (s2 51 (s1 85 a)) = pop8 a := by decide +kernel
theorem pop8_le (n : Nat) : pop8 n ≤ 8 := by
  have := List.countP_le_length (l := List.range 8) (p := fun k => n.testBit k)
  simpa [pop8] using this
theorem s2_low (m y : Nat) (hm : m % 16 = 3 ∨ m = 0) : s2 m y % 16 ≤ 6 := by
  unfold s2
  rcases hm with hm | rfl
  · have h1 : (y / 4 &&& m) % 16 ≤ 3 := by
      rw [show (16 : Nat) = 2 ^ 4 from rfl, Nat.and_mod_two_pow, show m % 2 ^ 4 = 3 from hm]; exact Nat.and_le_right
    have h2 : (y &&& m) % 16 ≤ 3 := by
      rw [show (16 : Nat) = 2 ^ 4 from rfl, Nat.and_mod_two_pow, show m % 2 ^ 4 = 3 from hm]; exact Nat.and_le_right
    omega
  · simp
/-- The three steps, over k bytes. -/
def mk (c : Nat) : Nat → Nat
  | 0 => 0
  | k + 1 => c + 256 * mk c k
def byteSum : Nat → Nat → Nat
  | 0, _ => 0
  | k + 1, n => pop8 (n % 256) + 256 * byteSum k (n / 256)
theorem mk51 (k : Nat) : mk 51 k % 16 = 3 ∨ mk 51 k = 0 := by
  cases k with
  | zero => exact .inr rfl
  | succ k => left; simp only [mk]; omega
theorem three (k : Nat) : ∀ n, s3 (mk 15 k) (s2 (mk 51 k) (s1 (mk 85 k) n)) = byteSum k n := by
  induction k with
  | zero => intro n; simp [mk, s3, byteSum]
  | succ k ih =>
    intro n
    have hn : n = n % 256 + 256 * (n / 256) := by omega
    have ha : n % 256 < 256 := by omega
    show s3 (15 + 256 * mk 15 k) (s2 (51 + 256 * mk 51 k) (s1 (85 + 256 * mk 85 k) n)) = pop8 (n % 256) + 256 * byteSum k (n / 256)
    rw [hn, s1_step ha, s2_step (byte1 _ ha), s3_step (byte2 _ (byte1 _ ha)) (s2_low _ _ (mk51 k)), byte3 _ ha, ih, ← hn]
theorem m85 : mk 85 8 = 6148914691236517205 := by decide
theorem m51 : mk 51 8 = 3689348814741910323 := by decide
theorem m15 : mk 15 8 = 1085102592571150095 := by decide
theorem countP_add (n a b : Nat) : (List.range (a + b)).countP (fun k => n.testBit k) = (List.range a).countP (fun k => n.testBit k) + (List.range b).countP (fun k => (n / 2 ^ a).testBit k) := by
  rw [List.range_add, List.countP_append, List.countP_map]
  congr 1
  apply List.countP_congr
  intro k _
  simp [Nat.testBit_div_two_pow, Nat.add_comm]
theorem pop8_mod (n : Nat) : pop8 (n % 256) = pop8 n := by
  unfold pop8
  apply List.countP_congr
  intro k hk
  have hk : k < 8 := by simpa using hk
  rw [show (256 : Nat) = 2 ^ 8 from rfl, Nat.testBit_mod_two_pow]
  simp [hk]
/-- The sum of the bits of k bytes. -/
def popK : Nat → Nat → Nat
  | 0, _ => 0
  | k + 1, n => pop8 (n % 256) + popK k (n / 256)
theorem popK_count (k : Nat) : ∀ n, popK k n = (List.range (8 * k)).countP (fun j => n.testBit j) := by
  induction k with
  | zero => intro n; rfl
  | succ k ih =>
    intro n
    rw [show 8 * (k + 1) = 8 + 8 * k by omega, countP_add, show n / 2 ^ 8 = n / 256 from rfl, ← ih, ← pop8.eq_1 n, ← pop8_mod]
    rfl
theorem pop_bytes (n : Nat) : pop n = popK 8 n := (popK_count 8 n).symm
/-- Eight bytes together. -/
theorem sum8 (n : Nat) (x : Nat) (hx : x = byteSum 8 n) : x < 1000000000000000000 ∧ (x + x / 256 + (x + x / 256) / 65536 + (x + x / 256 + (x + x / 256) / 65536) / 4294967296) % 128 = pop n := by
  rw [pop_bytes]
  simp only [byteSum, popK] at *
  have h0 := pop8_le (n % 256)
  have h1 := pop8_le (n / 256 % 256)
  have h2 := pop8_le (n / 256 / 256 % 256)
  have h3 := pop8_le (n / 256 / 256 / 256 % 256)
  have h4 := pop8_le (n / 256 / 256 / 256 / 256 % 256)
  have h5 := pop8_le (n / 256 / 256 / 256 / 256 / 256 % 256)
  have h6 := pop8_le (n / 256 / 256 / 256 / 256 / 256 / 256 % 256)
  have h7 := pop8_le (n / 256 / 256 / 256 / 256 / 256 / 256 / 256 % 256)
  generalize pop8 (n % 256) = b0 at *
  generalize pop8 (n / 256 % 256) = b1 at *
  generalize pop8 (n / 256 / 256 % 256) = b2 at *
  generalize pop8 (n / 256 / 256 / 256 % 256) = b3 at *
  generalize pop8 (n / 256 / 256 / 256 / 256 % 256) = b4 at *
  generalize pop8 (n / 256 / 256 / 256 / 256 / 256 % 256) = b5 at *
  generalize pop8 (n / 256 / 256 / 256 / 256 / 256 / 256 % 256) = b6 at *
  generalize pop8 (n / 256 / 256 / 256 / 256 / 256 / 256 / 256 % 256) = b7 at *
  have hx1 : x + x / 256 = (b0 + b1) + 256 * ((b1 + b2) + 256 * ((b2 + b3) + 256 * ((b3 + b4) + 256 * ((b4 + b5) + 256 * ((b5 + b6) + 256 * ((b6 + b7) + 256 * b7)))))) := by omega
  refine ⟨by omega, ?_⟩
  generalize x + x / 256 = y at *
  have hx2 : y + y / 65536 = (b0 + b1 + b2 + b3) + 256 * ((b1 + b2 + b3 + b4) + 256 * ((b2 + b3 + b4 + b5) + 256 * ((b3 + b4 + b5 + b6) + 256 * ((b4 + b5 + b6 + b7) + 256 * ((b5 + b6 + b7) + 256 * ((b6 + b7) + 256 * b7)))))) := by omega
  generalize y + y / 65536 = z at *
  clear hx hx1
  have hx3 : z / 4294967296 = (b4 + b5 + b6 + b7) + 256 * ((b5 + b6 + b7) + 256 * ((b6 + b7) + 256 * b7)) := by omega
  rw [hx3]
  omega
end Go.Proofs.Ytdoeneokblphnaa
