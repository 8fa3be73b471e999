/-
  CRC-32: bytes together bit by bit, bits turned one by one, sums that do not fit, and the register a byte at a time.
-/
import Derived.Test.YtcdcdlofgeoonaaDoorCrc
namespace Go.Proofs.YtcdcdlofgeoonaaDoor

theorem zipX_cons (a b : Nat) (l k : List Nat) : zipX (a :: l) (b :: k) = (a + b) % 2 :: zipX l k := rfl

theorem zipX_length (l k : List Nat) (h : l.length = k.length) : (zipX l k).length = l.length := by simp [zipX, h]

theorem zipX_append : ∀ (l k l' k' : List Nat), l.length = k.length → zipX (l ++ l') (k ++ k') = zipX l k ++ zipX l' k' := by
  intro l
  induction l with
  | nil => intro k l' k' h; have : k = [] := List.eq_nil_of_length_eq_zero h.symm; subst this; rfl
  | cons a l ih =>
    intro k l' k' h
    cases k with
    | nil => simp at h
    | cons b k => simp only [List.cons_append, zipX_cons]; rw [ih k l' k' (by simpa using h)]

theorem zipX_assoc : ∀ (l k m : List Nat), zipX (zipX l k) m = zipX l (zipX k m) := by
  intro l
  induction l with
  | nil => intro k m; simp [zipX]
  | cons a l ih =>
    intro k m
    cases k with
    | nil => simp [zipX]
    | cons b k =>
      cases m with
      | nil => simp [zipX]
      | cons c m =>
        simp only [zipX_cons]
        rw [ih k m]
        congr 1
        omega

theorem bts_xor (k : Nat) : ∀ x y, bts (x ^^^ y) k = zipX (bts x k) (bts y k) := by
  induction k with
  | zero => intro x y; rfl
  | succ k ih =>
    intro x y
    show (x ^^^ y) % 2 :: bts ((x ^^^ y) / 2) k = (x % 2 + y % 2) % 2 :: zipX (bts (x / 2) k) (bts (y / 2) k)
    rw [xor_mod2, xor_div2, ih]
    congr 1
    omega

theorem bts_zero (k : Nat) : bts 0 k = zeros k := by
  induction k with
  | zero => rfl
  | succ k ih => show 0 % 2 :: bts (0 / 2) k = 0 :: zeros k; rw [Nat.zero_div, ih]

/-- Each is a bit. -/
def Bit (l : List Nat) : Prop := ∀ x ∈ l, x < 2

theorem bts_bit (k : Nat) : ∀ x, Bit (bts x k) := by
  induction k with
  | zero => intro x y hy; cases hy
  | succ k ih =>
    intro x y hy
    rcases List.mem_cons.1 hy with rfl | hy
    · omega
    · exact ih _ y hy

theorem bitsL_bit (l : List Nat) : Bit (bitsL l) := by
  intro x hx
  obtain ⟨y, _, hy⟩ := List.mem_flatMap.1 hx
  exact bts_bit 8 y x hy

theorem zipX_zeros : ∀ (l : List Nat), Bit l → zipX l (zeros l.length) = l := by
  intro l
  induction l with
  | nil => intro _; rfl
  | cons a l ih =>
    intro h
    have ha := h a (List.mem_cons_self ..)
    show (a + 0) % 2 :: zipX l (zeros l.length) = a :: l
    rw [ih (fun x hx => h x (List.mem_cons_of_mem _ hx))]
    congr 1
    omega

/-- Bytes of two rows together. -/
def xorL (a b : List Nat) : List Nat := List.zipWith (fun x y => x ^^^ y) a b

theorem bitsL_xor : ∀ (a b : List Nat), a.length = b.length → bitsL (xorL a b) = zipX (bitsL a) (bitsL b) := by
  intro a
  induction a with
  | nil => intro b h; have : b = [] := List.eq_nil_of_length_eq_zero h.symm; subst this; rfl
  | cons x a ih =>
    intro b h
    cases b with
    | nil => simp at h
    | cons y b =>
      show bts (x ^^^ y) 8 ++ bitsL (xorL a b) = zipX (bts x 8 ++ bitsL a) (bts y 8 ++ bitsL b)
      rw [bts_xor, ih b (by simpa using h), zipX_append _ _ _ _ (by rw [bts_length, bts_length])]

/-- The sums of three rows of one length, together, are the sum of the three together. -/
theorem sum_linear (a b c : List Nat) (h1 : a.length = b.length) (h2 : b.length = c.length) : sum32 a ^^^ sum32 b ^^^ sum32 c = sum32 (xorL (xorL a b) c) := by
  have hl : (xorL a b).length = c.length := by simp [xorL, h1, h2]
  have e : reg (xorL (xorL a b) c) = reg a ^^^ reg b ^^^ reg c := by
    unfold reg
    rw [bitsL_xor _ _ hl, bitsL_xor _ _ h1]
    exact run_xor3 _ _ _ _ (by rw [bitsL_length, bitsL_length, h1]) (by rw [bitsL_length, bitsL_length, h2])
  rw [sum32_eq, sum32_eq, sum32_eq, sum32_eq, e]
  generalize reg a = x
  generalize reg b = y
  generalize reg c = z
  apply Nat.eq_of_testBit_eq
  intro i
  simp only [Nat.testBit_xor]
  cases Nat.testBit 4294967295 i <;> cases Nat.testBit x i <;> cases Nat.testBit y i <;> cases Nat.testBit z i <;> rfl

/-- One bit of n. -/
def unit (j n : Nat) : List Nat := zeros j ++ 1 :: zeros (n - j - 1)

theorem unit_length (j n : Nat) (h : j < n) : (unit j n).length = n := by simp [unit, zeros]; omega

theorem bts_pow (i : Nat) (h : i < 8) : bts (2 ^ i) 8 = unit i 8 := by
  have : i = 0 ∨ i = 1 ∨ i = 2 ∨ i = 3 ∨ i = 4 ∨ i = 5 ∨ i = 6 ∨ i = 7 := by omega
  rcases this with rfl | rfl | rfl | rfl | rfl | rfl | rfl | rfl <;> decide

theorem zeros_add (a b : Nat) : zeros (a + b) = zeros a ++ zeros b := by simp [zeros]

/-- A bit of a byte of a row, turned. -/
theorem bitsL_flip (l : List Nat) (m i : Nat) (hm : m < l.length) (hi : i < 8) : bitsL (l.set m (l[m] ^^^ 2 ^ i)) = zipX (bitsL l) (unit (8 * m + i) (8 * l.length)) := by
  have e1 : l = l.take m ++ l[m] :: l.drop (m + 1) := by rw [← List.drop_eq_getElem_cons hm, List.take_append_drop]
  have e2 : l.set m (l[m] ^^^ 2 ^ i) = l.take m ++ (l[m] ^^^ 2 ^ i) :: l.drop (m + 1) := by
    rw [List.set_eq_take_append_cons_drop, if_pos hm]
  have hlt : (l.take m).length = m := by rw [List.length_take]; omega
  have hld : (l.drop (m + 1)).length = l.length - m - 1 := by rw [List.length_drop]; omega
  have hu : unit (8 * m + i) (8 * l.length) = zeros (8 * m) ++ (unit i 8 ++ zeros (8 * (l.length - m - 1))) := by
    unfold unit
    rw [zeros_add, List.append_assoc, List.append_assoc, List.cons_append, ← zeros_add]
    congr 4
    omega
  have b1 : bitsL l = bitsL (l.take m) ++ (bts l[m] 8 ++ bitsL (l.drop (m + 1))) := by
    conv => lhs; rw [e1]
    rw [bitsL_append, bitsL_cons]
  rw [e2, bitsL_append, bitsL_cons, bts_xor, bts_pow i hi, hu, b1, zipX_append _ _ _ _ (by rw [bitsL_length, hlt]; simp [zeros]), zipX_append _ _ _ _ (by rw [bts_length, unit_length i 8 hi])]
  have z1 : zipX (bitsL (l.take m)) (zeros (8 * m)) = bitsL (l.take m) := by
    have := zipX_zeros (bitsL (l.take m)) (bitsL_bit _)
    rwa [bitsL_length, hlt] at this
  have z2 : zipX (bitsL (l.drop (m + 1))) (zeros (8 * (l.length - m - 1))) = bitsL (l.drop (m + 1)) := by
    have := zipX_zeros (bitsL (l.drop (m + 1))) (bitsL_bit _)
    rwa [bitsL_length, hld] at this
  rw [z1, z2]

/-- The first i of 32 bits. -/
def part (k x i r : Nat) : List Nat := zeros k ++ (bts x i ++ zeros (32 - i + r))

theorem part_zero (k x r : Nat) : part k x 0 r = zeros (k + 32 + r) := by
  show zeros k ++ ([] ++ zeros (32 - 0 + r)) = _
  rw [List.nil_append, ← zeros_add]
  congr 1
  omega

theorem part_full (k x r : Nat) : part k x 32 r = burst k x r := by simp [part, burst]

theorem bts_snoc (x i : Nat) : bts x (i + 1) = bts x i ++ [x / 2 ^ i % 2] := by
  rw [bts_split i 1]; rfl

theorem part_skip (k x i r : Nat) (hi : i < 32) (hb : x / 2 ^ i % 2 = 0) : part k x (i + 1) r = part k x i r := by
  unfold part
  rw [bts_snoc, hb, show 32 - i + r = (32 - (i + 1) + r) + 1 by omega, zeros_succ]
  simp

theorem part_take (k x i r : Nat) (hi : i < 32) (hb : x / 2 ^ i % 2 = 1) : part k x (i + 1) r = zipX (part k x i r) (unit (k + i) (k + 32 + r)) := by
  have hu : unit (k + i) (k + 32 + r) = zeros k ++ (zeros i ++ (1 :: zeros (32 - (i + 1) + r))) := by
    unfold unit
    rw [zeros_add, List.append_assoc]
    congr 4
    omega
  have hz : zipX (zeros k) (zeros k) = zeros k := by
    have := zipX_zeros (zeros k) (fun x hx => by have := List.eq_of_mem_replicate hx; omega)
    simpa [zeros] using this
  have hb2 : zipX (bts x i) (zeros i) = bts x i := by
    have := zipX_zeros (bts x i) (bts_bit i x)
    rwa [bts_length] at this
  have hr : zipX (zeros (32 - (i + 1) + r)) (zeros (32 - (i + 1) + r)) = zeros (32 - (i + 1) + r) := by
    have := zipX_zeros (zeros (32 - (i + 1) + r)) (fun x hx => by have := List.eq_of_mem_replicate hx; omega)
    simpa [zeros] using this
  unfold part
  rw [hu, bts_snoc, hb, show 32 - i + r = (32 - (i + 1) + r) + 1 by omega, zeros_succ, zipX_append _ _ _ _ rfl, hz, zipX_append _ _ _ _ (by rw [bts_length]; simp [zeros]), hb2, zipX_cons, hr]
  simp

/-- Four bytes are those of a number. -/
theorem four_of (a b c d : Nat) (ha : a < 256) (hb : b < 256) (hc : c < 256) (hd : d < 256) : four (a + 256 * b + 65536 * c + 16777216 * d) = [a, b, c, d] := by
  unfold four
  have e1 : (a + 256 * b + 65536 * c + 16777216 * d) % 256 = a := by omega
  have e2 : (a + 256 * b + 65536 * c + 16777216 * d) / 256 % 256 = b := by omega
  have e3 : (a + 256 * b + 65536 * c + 16777216 * d) / 65536 % 256 = c := by omega
  have e4 : (a + 256 * b + 65536 * c + 16777216 * d) / 16777216 % 256 = d := by omega
  rw [e1, e2, e3, e4]

/-- Spoilt bytes are told. -/
theorem told (l s : List Nat) (k x r : Nat) (hx : x < 2 ^ 32) (h0 : x ≠ 0) (hk : k + 32 + r = 8 * (l.length + 4)) (hs : bitsL s = zipX (bitsL (sealL l)) (burst k x r)) (t : List Nat) : s ≠ sealL t := by
  rintro rfl
  have h1 := reg_seal t
  have h2 := reg_seal l
  unfold reg at h1 h2
  rw [hs] at h1
  refine burst_told 4294967295 k x r (bitsL (sealL l)) hx h0 ?_ (h1.trans h2.symm)
  rw [bitsL_length, hk]
  simp [sealL, four]

/-- The register, k bits at a time. -/
theorem run_mul (k : Nat) : ∀ a, run (a * 2 ^ k) (zeros k) = a := by
  induction k with
  | zero => intro a; simp [run, zeros]
  | succ k ih =>
    intro a
    have e : a * 2 ^ (k + 1) = 2 * (a * 2 ^ k) := by rw [Nat.pow_succ, ← Nat.mul_assoc, Nat.mul_comm]
    have : stp (a * 2 ^ (k + 1)) 0 = a * 2 ^ k := by
      unfold stp
      rw [e, if_neg (by omega)]
      omega
    show run (stp (a * 2 ^ (k + 1)) 0) (zeros k) = a
    rw [this, ih]

theorem split_xor (m k : Nat) : m = m / 2 ^ k * 2 ^ k ^^^ m % 2 ^ k := by
  apply Nat.eq_of_testBit_eq
  intro i
  rw [Nat.testBit_xor, Nat.testBit_mul_two_pow, Nat.testBit_mod_two_pow, Nat.testBit_div_two_pow]
  by_cases h : i < k
  · have : ¬ k ≤ i := by omega
    simp [h, this]
  · have h2 : k ≤ i := by omega
    simp [h, h2]

theorem run_table (m k : Nat) : run m (zeros k) = m / 2 ^ k ^^^ run (m % 2 ^ k) (zeros k) := by
  have h := run_xor (zeros k) (zeros k) (m / 2 ^ k * 2 ^ k) (m % 2 ^ k) rfl
  have hz : zipX (zeros k) (zeros k) = zeros k := by
    have := zipX_zeros (zeros k) (fun x hx => by have := List.eq_of_mem_replicate hx; omega)
    simpa [zeros] using this
  rw [hz, ← split_xor, run_mul] at h
  exact h

/-- A byte at a time, by a table. -/
theorem run_byte (n x : Nat) (hx : x < 256) : run n (bts x 8) = n / 256 ^^^ run ((n ^^^ x) % 256) (zeros 8) := by
  rw [run_bts 8 n x hx, run_table]
  congr 1
  have h : (n ^^^ x) / 2 ^ 8 = n / 2 ^ 8 ^^^ x / 2 ^ 8 := Nat.xor_div_two_pow
  rw [h, Nat.div_eq_of_lt hx, Nat.xor_zero]
end Go.Proofs.YtcdcdlofgeoonaaDoor
