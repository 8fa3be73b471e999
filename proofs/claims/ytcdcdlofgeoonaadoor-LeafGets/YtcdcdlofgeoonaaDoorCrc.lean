/-
  CRC-32 as plain mathematics: a register that takes bits, that it is linear, that it loses nothing, and that bits turned within 32 side by side are told.
-/
import Derived.KernelRfl
namespace Go.Proofs.YtcdcdlofgeoonaaDoor

/-- One bit into the register. -/
def stp (n b : Nat) : Nat := if (n + b) % 2 = 1 then n / 2 ^^^ 3988292384 else n / 2

/-- Bits into the register, one behind the other. -/
def run (n : Nat) (l : List Nat) : Nat := l.foldl stp n

theorem run_nil (n : Nat) : run n [] = n := rfl
theorem run_cons (n b : Nat) (l : List Nat) : run n (b :: l) = run (stp n b) l := rfl
theorem run_append (n : Nat) (l k : List Nat) : run n (l ++ k) = run (run n l) k := by simp [run]

theorem stp_lt {n : Nat} (b : Nat) (h : n < 2 ^ 32) : stp n b < 2 ^ 32 := by
  unfold stp
  split
  · exact Nat.xor_lt_two_pow (by omega) (by decide)
  · omega

theorem run_lt (l : List Nat) : ∀ {n : Nat}, n < 2 ^ 32 → run n l < 2 ^ 32 := by
  induction l with
  | nil => intro n h; exact h
  | cons b l ih => intro n h; rw [run_cons]; exact ih (stp_lt b h)

theorem xor_mod2 (n m : Nat) : (n ^^^ m) % 2 = (n + m) % 2 := by
  have h : decide ((n ^^^ m) % 2 = 1) = (decide (n % 2 = 1) ^^ decide (m % 2 = 1)) := by
    have := Nat.testBit_xor n m 0
    simpa only [Nat.testBit_zero] using this
  rcases Nat.mod_two_eq_zero_or_one n with a | a <;> rcases Nat.mod_two_eq_zero_or_one m with b | b <;> rcases Nat.mod_two_eq_zero_or_one (n ^^^ m) with c | c <;> rw [a, b, c] at h <;> first | omega | simp at h

theorem xor_eq_zero {a b : Nat} (h : a ^^^ b = 0) : a = b := by
  have e : a ^^^ (a ^^^ b) = b := by rw [← Nat.xor_assoc, Nat.xor_self, Nat.zero_xor]
  rw [h, Nat.xor_zero] at e
  exact e

theorem xor_div2 (n m : Nat) : (n ^^^ m) / 2 = n / 2 ^^^ m / 2 := Nat.xor_div_two

theorem stp_xor (n m b c : Nat) : stp (n ^^^ m) ((b + c) % 2) = stp n b ^^^ stp m c := by
  have h := xor_mod2 n m
  unfold stp
  rw [xor_div2]
  by_cases p : (n + b) % 2 = 1
  · by_cases q : (m + c) % 2 = 1
    · rw [if_pos p, if_pos q, if_neg (by omega)]
      rw [Nat.xor_assoc (n / 2), Nat.xor_comm 3988292384, Nat.xor_assoc (m / 2), Nat.xor_self, Nat.xor_zero]
    · rw [if_pos p, if_neg q, if_pos (by omega)]
      rw [Nat.xor_assoc, Nat.xor_assoc, Nat.xor_comm (m / 2)]
  · by_cases q : (m + c) % 2 = 1
    · rw [if_neg p, if_pos q, if_pos (by omega), Nat.xor_assoc]
    · rw [if_neg p, if_neg q, if_neg (by omega)]

/-- Bits of two rows together. -/
def zipX (l k : List Nat) : List Nat := List.zipWith (fun a b => (a + b) % 2) l k

theorem run_xor : ∀ (l k : List Nat) (n m : Nat), l.length = k.length → run (n ^^^ m) (zipX l k) = run n l ^^^ run m k := by
  intro l
  induction l with
  | nil => intro k n m h; have : k = [] := List.eq_nil_of_length_eq_zero h.symm; subst this; rfl
  | cons b l ih =>
    intro k n m h
    cases k with
    | nil => simp at h
    | cons c k =>
      show run (stp (n ^^^ m) ((b + c) % 2)) (zipX l k) = run (stp n b) l ^^^ run (stp m c) k
      rw [stp_xor]
      exact ih k _ _ (by simpa using h)

/-- So many bits of nothing. -/
def zeros (k : Nat) : List Nat := List.replicate k 0
theorem zeros_succ (k : Nat) : zeros (k + 1) = 0 :: zeros k := rfl

theorem run_zero_zeros (k : Nat) : run 0 (zeros k) = 0 := by
  induction k with
  | zero => rfl
  | succ k ih => rw [zeros_succ, run_cons]; exact ih

theorem stp_inj {n : Nat} (h : n < 2 ^ 32) (e : stp n 0 = 0) : n = 0 := by
  unfold stp at e
  by_cases p : (n + 0) % 2 = 1
  · rw [if_pos p] at e
    have h1 : n / 2 = 3988292384 := xor_eq_zero e
    omega
  · rw [if_neg p] at e
    omega

theorem run_zeros_inj (k : Nat) : ∀ {n : Nat}, n < 2 ^ 32 → run n (zeros k) = 0 → n = 0 := by
  induction k with
  | zero => intro n _ e; exact e
  | succ k ih => intro n h e; exact stp_inj h (ih (stp_lt 0 h) e)

/-- A number's k lowest bits, the lowest first. -/
def bts (x : Nat) : Nat → List Nat
  | 0 => []
  | k + 1 => x % 2 :: bts (x / 2) k

theorem bts_length (k : Nat) : ∀ x, (bts x k).length = k := by
  induction k with
  | zero => intro x; rfl
  | succ k ih => intro x; simp [bts, ih]

/-- Bits come in as if they had been in the register. -/
theorem run_bts (k : Nat) : ∀ (n x : Nat), x < 2 ^ k → run n (bts x k) = run (n ^^^ x) (zeros k) := by
  induction k with
  | zero => intro n x h; have : x = 0 := by omega
            subst this; simp [bts, zeros, run]
  | succ k ih =>
    intro n x h
    have e : stp (n ^^^ x) 0 = stp n (x % 2) ^^^ x / 2 := by
      have h1 := stp_xor n x (x % 2) (x % 2)
      have h2 : (x % 2 + x % 2) % 2 = 0 := by omega
      rw [h2] at h1
      rw [h1]
      congr 1
      unfold stp
      rw [if_neg (by omega)]
    show run (stp n (x % 2)) (bts (x / 2) k) = run (stp (n ^^^ x) 0) (zeros k)
    rw [ih _ _ (by rw [Nat.pow_succ] at h; omega), e]

theorem xor_self_cancel (a b : Nat) : a ^^^ (b ^^^ a) = b := by
  rw [Nat.xor_comm b a, ← Nat.xor_assoc, Nat.xor_self, Nat.zero_xor]

/-- Behind its own sum (each bit turned) every register is the same. -/
theorem run_sealed (n : Nat) (h : n < 2 ^ 32) : run n (bts (4294967295 ^^^ n) 32) = run 4294967295 (zeros 32) := by
  rw [run_bts 32 n _ (Nat.xor_lt_two_pow (by decide) h), xor_self_cancel]

/-- .. and behind nothing else. -/
theorem run_sealed_only (n x : Nat) (h : n < 2 ^ 32) (hx : x < 2 ^ 32) (e : run n (bts x 32) = run 4294967295 (zeros 32)) : x = 4294967295 ^^^ n := by
  rw [run_bts 32 n x hx] at e
  have h1 := run_xor (zeros 32) (zeros 32) (n ^^^ x) 4294967295 rfl
  rw [e, Nat.xor_self] at h1
  have h2 : zipX (zeros 32) (zeros 32) = zeros 32 := by decide
  rw [h2] at h1
  have h3 := run_zeros_inj 32 (Nat.xor_lt_two_pow (Nat.xor_lt_two_pow h hx) (by decide)) h1
  have h4 : n ^^^ x = 4294967295 := xor_eq_zero h3
  rw [← h4, Nat.xor_comm n x, Nat.xor_assoc, Nat.xor_self, Nat.xor_zero]

/-- Some bits within 32 side by side, and nothing else. -/
def burst (k x r : Nat) : List Nat := zeros k ++ bts x 32 ++ zeros r

theorem run_burst (k x r : Nat) (hx : x < 2 ^ 32) (h0 : x ≠ 0) : run 0 (burst k x r) ≠ 0 := by
  intro e
  unfold burst at e
  rw [run_append, run_append, run_zero_zeros, run_bts 32 0 x hx, Nat.zero_xor] at e
  exact h0 (run_zeros_inj 32 hx (run_zeros_inj r (run_lt _ hx) e))

/-- Bits turned within 32 side by side change the register. -/
theorem burst_told (n k x r : Nat) (l : List Nat) (hx : x < 2 ^ 32) (h0 : x ≠ 0) (hl : l.length = k + 32 + r) : run n (zipX l (burst k x r)) ≠ run n l := by
  intro e
  have h := run_xor l (burst k x r) n 0 (by simp [burst, zeros, bts_length, hl]; omega)
  rw [Nat.xor_zero, e] at h
  have h2 : run n l ^^^ run n l = run n l ^^^ (run n l ^^^ run 0 (burst k x r)) := by rw [← h]
  rw [Nat.xor_self, ← Nat.xor_assoc, Nat.xor_self, Nat.zero_xor] at h2
  exact run_burst k x r hx h0 h2.symm

/-- Three registers together. -/
theorem run_xor3 (n : Nat) (l k m : List Nat) (h1 : l.length = k.length) (h2 : k.length = m.length) :
    run n (zipX (zipX l k) m) = run n l ^^^ run n k ^^^ run n m := by
  have e : n = (n ^^^ n) ^^^ n := by rw [Nat.xor_self, Nat.zero_xor]
  have hz : (zipX l k).length = m.length := by simp [zipX, h1, h2]
  have a := run_xor (zipX l k) m (n ^^^ n) n hz
  rw [← e, run_xor l k n n h1] at a
  exact a

/-- The bits of bytes, of each the lowest first. -/
def bitsL (l : List Nat) : List Nat := l.flatMap fun x => bts x 8

theorem bitsL_nil : bitsL [] = [] := rfl
theorem bitsL_cons (x : Nat) (l : List Nat) : bitsL (x :: l) = bts x 8 ++ bitsL l := rfl
theorem bitsL_append (l k : List Nat) : bitsL (l ++ k) = bitsL l ++ bitsL k := by simp [bitsL]
theorem bitsL_length (l : List Nat) : (bitsL l).length = 8 * l.length := by
  induction l with
  | nil => rfl
  | cons x l ih => rw [bitsL_cons, List.length_append, bts_length, ih, List.length_cons]; omega

/-- A number's four bytes, the lowest first, are its bits. -/
theorem bts_split (j k : Nat) : ∀ x, bts x (j + k) = bts x j ++ bts (x / 2 ^ j) k := by
  induction j with
  | zero => intro x; simp [bts]
  | succ j ih =>
    intro x
    rw [show j + 1 + k = (j + k) + 1 by omega]
    show x % 2 :: bts (x / 2) (j + k) = x % 2 :: bts (x / 2) j ++ bts (x / 2 ^ (j + 1)) k
    rw [ih, List.cons_append, Nat.div_div_eq_div_mul, Nat.pow_succ, Nat.mul_comm 2]

theorem bts_mod (k j : Nat) (h : k ≤ j) : ∀ x, bts (x % 2 ^ j) k = bts x k := by
  induction k generalizing j with
  | zero => intro x; rfl
  | succ k ih =>
    intro x
    obtain ⟨i, rfl⟩ : ∃ i, j = i + 1 := ⟨j - 1, by omega⟩
    have e1 : x % 2 ^ (i + 1) % 2 = x % 2 := by
      rw [Nat.pow_succ, Nat.mul_comm]; exact Nat.mod_mul_right_mod x 2 (2 ^ i)
    have e2 : x % 2 ^ (i + 1) / 2 = x / 2 % 2 ^ i := by
      rw [Nat.pow_succ, Nat.mul_comm]; exact Nat.mod_mul_right_div_self x 2 (2 ^ i)
    show x % 2 ^ (i + 1) % 2 :: bts (x % 2 ^ (i + 1) / 2) k = x % 2 :: bts (x / 2) k
    rw [e1, e2, ih i (by omega)]

/-- Four bytes of a number. -/
def four (n : Nat) : List Nat := [n % 256, n / 256 % 256, n / 65536 % 256, n / 16777216 % 256]

theorem bitsL_four (n : Nat) : bitsL (four n) = bts n 32 := by
  have h1 := bts_split 8 24 n
  have h2 := bts_split 8 16 (n / 2 ^ 8)
  have h3 := bts_split 8 8 (n / 2 ^ 8 / 2 ^ 8)
  rw [h1, h2, h3]
  simp only [bitsL, four, List.flatMap_cons, List.flatMap_nil, List.append_nil]
  have m := fun x => bts_mod 8 8 (Nat.le_refl _) x
  rw [show (256 : Nat) = 2 ^ 8 from rfl, m, m, m, m, Nat.div_div_eq_div_mul, Nat.div_div_eq_div_mul]

/-- The complement. -/
theorem compl32 (n : Nat) (h : n < 2 ^ 32) : 4294967295 - n = 4294967295 ^^^ n := by
  have e : BitVec.toNat (~~~ (BitVec.ofNat 32 n)) = 2 ^ 32 - 1 - n := by
    rw [BitVec.toNat_not, BitVec.toNat_ofNat, Nat.mod_eq_of_lt h]
  have e2 : (~~~ (BitVec.ofNat 32 n)) = BitVec.allOnes 32 ^^^ BitVec.ofNat 32 n := by
    rw [BitVec.allOnes_xor]
  rw [e2, BitVec.toNat_xor, BitVec.toNat_allOnes, BitVec.toNat_ofNat, Nat.mod_eq_of_lt h] at e
  exact e.symm

/-- The register behind bytes, and their sum. -/
def reg (l : List Nat) : Nat := run 4294967295 (bitsL l)
def sum32 (l : List Nat) : Nat := 4294967295 - reg l
/-- They with it behind. -/
def sealL (l : List Nat) : List Nat := l ++ four (sum32 l)

theorem reg_lt (l : List Nat) : reg l < 2 ^ 32 := run_lt _ (by decide)
theorem sum32_eq (l : List Nat) : sum32 l = 4294967295 ^^^ reg l := compl32 _ (reg_lt l)
theorem sum32_lt (l : List Nat) : sum32 l < 2 ^ 32 := by unfold sum32; omega

/-- Bytes end with their sum just if the register behind all of them is the one number. -/
theorem reg_seal (l : List Nat) : reg (sealL l) = run 4294967295 (zeros 32) := by
  unfold sealL
  unfold reg
  rw [bitsL_append, run_append, bitsL_four, sum32_eq]
  exact run_sealed _ (reg_lt l)

theorem reg_seal_only (l : List Nat) (x : Nat) (hx : x < 2 ^ 32) (h : reg (l ++ four x) = run 4294967295 (zeros 32)) : x = sum32 l := by
  unfold reg at h
  rw [bitsL_append, run_append, bitsL_four] at h
  rw [sum32_eq]
  exact run_sealed_only _ x (reg_lt l) hx h

/-- A sum goes on. -/
theorem reg_more (a b : List Nat) : reg (a ++ b) = run (4294967295 - sum32 a) (bitsL b) := by
  have h : 4294967295 - sum32 a = reg a := by unfold sum32; have := reg_lt a; omega
  rw [h]; unfold reg; rw [bitsL_append, run_append]
end Go.Proofs.YtcdcdlofgeoonaaDoor
