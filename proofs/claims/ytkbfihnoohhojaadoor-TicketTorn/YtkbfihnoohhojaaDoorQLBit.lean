/-
  Bits: what exclusive-or, and, and the complement of the program are as numbers.
-/
import Derived.KernelRfl
import Derived.Test.YtkbfihnoohhojaaDoorChecked
import Derived.Test.YtkbfihnoohhojaaDoorQFlt
import Derived.WalkKit
import Derived.WalkSpells
import Derived.WalkLawsBesides
import Derived.Handy
import Derived.Deep.LoopGhost
import Derived.Deep.QuietTactic
import Derived.BigQuiet
import Derived.Deep.DeepFit
import Derived.Laws.AppendOwnNone
import Derived.Laws.BitsLemmas
namespace Go.Proofs.YtkbfihnoohhojaaDoor.Lea

/-- One bit into the register. -/
def stp (n b : Nat) : Nat := if (n + b) % 2 = 1 then n / 2 ^^^ 3988292384 else n / 2

/-- Bits into the register, one behind the other. -/
def run (n : Nat) (l : List Nat) : Nat := l.foldl stp n

theorem run_nil (n : Nat) : run n [] = n := rfl
theorem run_cons (n b : Nat) (l : List Nat) : run n (b :: l) = run (stp n b) l := rfl
theorem run_append (n : Nat) (l k : List Nat) : run n (l ++ k) = run (run n l) k := by simp [run]

theorem stp_lt {n : Nat} (b : Nat) (h : n < 2 ^ 32) : stp n b < 2 ^ 32 := by
  unfold stp
  split
  · exact Nat.xor_lt_two_pow (by omega) (by decide)
  · omega

theorem run_lt (l : List Nat) : ∀ {n : Nat}, n < 2 ^ 32 → run n l < 2 ^ 32 := by
  induction l with
  | nil => intro n h; exact h
  | cons b l ih => intro n h; rw [run_cons]; exact ih (stp_lt b h)

theorem xor_mod2 (n m : Nat) : (n ^^^ m) % 2 = (n + m) % 2 := by
  have h : decide ((n ^^^ m) % 2 = 1) = (decide (n % 2 = 1) ^^ decide (m % 2 = 1)) := by
    have := Nat.testBit_xor n m 0
    simpa only [Nat.testBit_zero] using this
  rcases Nat.mod_two_eq_zero_or_one n with a | a <;> rcases Nat.mod_two_eq_zero_or_one m with b | b <;> rcases Nat.mod_two_eq_zero_or_one (n ^^^ m) with c | c <;> rw [a, b, c] at h <;> first | omega | simp at h

theorem xor_eq_zero {a b : Nat} (h : a ^^^ b = 0) : a = b := by
  have e : a ^^^ (a ^^^ b) = b := by rw [← Nat.xor_assoc, Nat.xor_self, Nat.zero_xor]
  rw [h, Nat.xor_zero] at e
  exact e

theorem xor_div2 (n m : Nat) : (n ^^^ m) / 2 = n / 2 ^^^ m / 2 := Nat.xor_div_two

theorem stp_xor (n m b c : Nat) : stp (n ^^^ m) ((b + c) % 2) = stp n b ^^^ stp m c := by
  have h := xor_mod2 n m
  unfold stp
  rw [xor_div2]
  by_cases p : (n + b) % 2 = 1
  · by_cases q : (m + c) % 2 = 1
    · rw [if_pos p, if_pos q, if_neg (by omega)]
      rw [Nat.xor_assoc (n / 2), Nat.xor_comm 3988292384, Nat.xor_assoc (m / 2), Nat.xor_self, Nat.xor_zero]
    · rw [if_pos p, if_neg q, if_pos (by omega)]
      rw [Nat.xor_assoc, Nat.xor_assoc, Nat.xor_comm (m / 2)]
  · by_cases q : (m + c) % 2 = 1
    · rw [if_neg p, if_pos q, if_pos (by omega), Nat.xor_assoc]
    · rw [if_neg p, if_neg q, if_neg (by omega)]

/-- Bits of two rows together. -/
def zipX (l k : List Nat) : List Nat := List.zipWith (fun a b => (a + b) % 2) l k

theorem run_xor : ∀ (l k : List Nat) (n m : Nat), l.length = k.length → run (n ^^^ m) (zipX l k) = run n l ^^^ run m k := by
  intro l
  induction l with
  | nil => intro k n m h; have : k = [] := List.eq_nil_of_length_eq_zero h.symm; subst this; rfl
  | cons b l ih =>
    intro k n m h
    cases k with
    | nil => simp at h
    | cons c k =>
      show run (stp (n ^^^ m) ((b + c) % 2)) (zipX l k) = run (stp n b) l ^^^ run (stp m c) k
      rw [stp_xor]
      exact ih k _ _ (by simpa using h)

/-- So many bits of nothing. -/
def zeros (k : Nat) : List Nat := List.replicate k 0
theorem zeros_succ (k : Nat) : zeros (k + 1) = 0 :: zeros k := rfl

theorem run_zero_zeros (k : Nat) : run 0 (zeros k) = 0 := by
  induction k with
  | zero => rfl
  | succ k ih => rw [zeros_succ, run_cons]; exact ih

theorem stp_inj {n : Nat} (h : n < 2 ^ 32) (e : stp n 0 = 0) : n = 0 := by
  unfold stp at e
  by_cases p : (n + 0) % 2 = 1
  · rw [if_pos p] at e
    have h1 : n / 2 = 3988292384 := xor_eq_zero e
    omega
  · rw [if_neg p] at e
    omega

theorem run_zeros_inj (k : Nat) : ∀ {n : Nat}, n < 2 ^ 32 → run n (zeros k) = 0 → n = 0 := by
  induction k with
  | zero => intro n _ e; exact e
  | succ k ih => intro n h e; exact stp_inj h (ih (stp_lt 0 h) e)

/-- A number's k lowest bits, the lowest first. -/
def bts (x : Nat) : Nat → List Nat
  | 0 => []
  | k + 1 => x % 2 :: bts (x / 2) k

theorem bts_length (k : Nat) : ∀ x, (bts x k).length = k := by
  induction k with
  | zero => intro x; rfl
  | succ k ih => intro x; simp [bts, ih]

/-- Bits come in as if they had been in the register. -/
theorem run_bts (k : Nat) : ∀ (n x : Nat), x < 2 ^ k → run n (bts x k) = run (n ^^^ x) (zeros k) := by
  induction k with
  | zero => intro n x h; have : x = 0 := by omega
            subst this; simp [bts, zeros, run]
  | succ k ih =>
    intro n x h
    have e : stp (n ^^^ x) 0 = stp n (x % 2) ^^^ x / 2 := by
      have h1 := stp_xor n x (x % 2) (x % 2)
      have h2 : (x % 2 + x % 2) % 2 = 0 := by omega
      rw [h2] at h1
      rw [h1]
      congr 1
      unfold stp
      rw [if_neg (by omega)]
    show run (stp n (x % 2)) (bts (x / 2) k) = run (stp (n ^^^ x) 0) (zeros k)
    rw [ih _ _ (by rw [Nat.pow_succ] at h; omega), e]

theorem xor_self_cancel (a b : Nat) : a ^^^ (b ^^^ a) = b := by
  rw [Nat.xor_comm b a, ← Nat.xor_assoc, Nat.xor_self, Nat.zero_xor]

/-- Behind its own sum (each bit turned) every register is the same. -/
theorem run_sealed (n : Nat) (h : n < 2 ^ 32) : run n (bts (4294967295 ^^^ n) 32) = run 4294967295 (zeros 32) := by
  rw [run_bts 32 n _ (Nat.xor_lt_two_pow (by decide) h), xor_self_cancel]

/-- .. and behind nothing else. -/
theorem run_sealed_only (n x : Nat) (h : n < 2 ^ 32) (hx : x < 2 ^ 32) (e : run n (bts x 32) = run 4294967295 (zeros 32)) : x = 4294967295 ^^^ n := by
  rw [run_bts 32 n x hx] at e
  have h1 := run_xor (zeros 32) (zeros 32) (n ^^^ x) 4294967295 rfl
  rw [e, Nat.xor_self] at h1
  have h2 : zipX (zeros 32) (zeros 32) = zeros 32 := by decide
  rw [h2] at h1
  have h3 := run_zeros_inj 32 (Nat.xor_lt_two_pow (Nat.xor_lt_two_pow h hx) (by decide)) h1
  have h4 : n ^^^ x = 4294967295 := xor_eq_zero h3
  rw [← h4, Nat.xor_comm n x, Nat.xor_assoc, Nat.xor_self, Nat.xor_zero]

/-- Some bits within 32 side by side, and nothing else. -/
def burst (k x r : Nat) : List Nat := zeros k ++ bts x 32 ++ zeros r

theorem run_burst (k x r : Nat) (hx : x < 2 ^ 32) (h0 : x ≠ 0) : run 0 (burst k x r) ≠ 0 := by
  intro e
  unfold burst at e
  rw [run_append, run_append, run_zero_zeros, run_bts 32 0 x hx, Nat.zero_xor] at e
  exact h0 (run_zeros_inj 32 hx (run_zeros_inj r (run_lt _ hx) e))

/-- Bits turned within 32 side by side change the register. -/
theorem burst_told (n k x r : Nat) (l : List Nat) (hx : x < 2 ^ 32) (h0 : x ≠ 0) (hl : l.length = k + 32 + r) : run n (zipX l (burst k x r)) ≠ run n l := by
  intro e
  have h := run_xor l (burst k x r) n 0 (by simp [burst, zeros, bts_length, hl]; omega)
  rw [Nat.xor_zero, e] at h
  have h2 : run n l ^^^ run n l = run n l ^^^ (run n l ^^^ run 0 (burst k x r)) := by rw [← h]
  rw [Nat.xor_self, ← Nat.xor_assoc, Nat.xor_self, Nat.zero_xor] at h2
  exact run_burst k x r hx h0 h2.symm

/-- Three registers together. -/
theorem run_xor3 (n : Nat) (l k m : List Nat) (h1 : l.length = k.length) (h2 : k.length = m.length) :
    run n (zipX (zipX l k) m) = run n l ^^^ run n k ^^^ run n m := by
  have e : n = (n ^^^ n) ^^^ n := by rw [Nat.xor_self, Nat.zero_xor]
  have hz : (zipX l k).length = m.length := by simp [zipX, h1, h2]
  have a := run_xor (zipX l k) m (n ^^^ n) n hz
  rw [← e, run_xor l k n n h1] at a
  exact a

/-- The bits of bytes, of each the lowest first. -/
def bitsL (l : List Nat) : List Nat := l.flatMap fun x => bts x 8

theorem bitsL_nil : bitsL [] = [] := rfl
theorem bitsL_cons (x : Nat) (l : List Nat) : bitsL (x :: l) = bts x 8 ++ bitsL l := rfl
theorem bitsL_append (l k : List Nat) : bitsL (l ++ k) = bitsL l ++ bitsL k := by simp [bitsL]
theorem bitsL_length (l : List Nat) : (bitsL l).length = 8 * l.length := by
  induction l with
  | nil => rfl
  | cons x l ih => rw [bitsL_cons, List.length_append, bts_length, ih, List.length_cons]; omega

/-- A number's four bytes, the lowest first, are its bits. -/
theorem bts_split (j k : Nat) : ∀ x, bts x (j + k) = bts x j ++ bts (x / 2 ^ j) k := by
  induction j with
  | zero => intro x; simp [bts]
  | succ j ih =>
    intro x
    rw [show j + 1 + k = (j + k) + 1 by omega]
    show x % 2 :: bts (x / 2) (j + k) = x % 2 :: bts (x / 2) j ++ bts (x / 2 ^ (j + 1)) k
    rw [ih, List.cons_append, Nat.div_div_eq_div_mul, Nat.pow_succ, Nat.mul_comm 2]

theorem bts_mod (k j : Nat) (h : k ≤ j) : ∀ x, bts (x % 2 ^ j) k = bts x k := by
  induction k generalizing j with
  | zero => intro x; rfl
  | succ k ih =>
    intro x
    obtain ⟨i, rfl⟩ : ∃ i, j = i + 1 := ⟨j - 1, by omega⟩
    have e1 : x % 2 ^ (i + 1) % 2 = x % 2 := by
      rw [Nat.pow_succ, Nat.mul_comm]; exact Nat.mod_mul_right_mod x 2 (2 ^ i)
    have e2 : x % 2 ^ (i + 1) / 2 = x / 2 % 2 ^ i := by
      rw [Nat.pow_succ, Nat.mul_comm]; exact Nat.mod_mul_right_div_self x 2 (2 ^ i)
    show x % 2 ^ (i + 1) % 2 :: bts (x % 2 ^ (i + 1) / 2) k = x % 2 :: bts (x / 2) k
    rw [e1, e2, ih i (by omega)]

/-- Four bytes of a number. -/
def four (n : Nat) : List Nat := [n % 256, n / 256 % 256, n / 65536 % 256, n / 16777216 % 256]

theorem bitsL_four (n : Nat) : bitsL (four n) = bts n 32 := by
  have h1 := bts_split 8 24 n
  have h2 := bts_split 8 16 (n / 2 ^ 8)
  have h3 := bts_split 8 8 (n / 2 ^ 8 / 2 ^ 8)
  rw [h1, h2, h3]
  simp only [bitsL, four, List.flatMap_cons, List.flatMap_nil, List.append_nil]
  have m := fun x => bts_mod 8 8 (Nat.le_refl _) x
  rw [show (256 : Nat) = 2 ^ 8 from rfl, m, m, m, m, Nat.div_div_eq_div_mul, Nat.div_div_eq_div_mul]

/-- The complement. -/
theorem compl32 (n : Nat) (h : n < 2 ^ 32) : 4294967295 - n = 4294967295 ^^^ n := by
  have e : BitVec.toNat (~~~ (BitVec.ofNat 32 n)) = 2 ^ 32 - 1 - n := by
    rw [BitVec.toNat_not, BitVec.toNat_ofNat, Nat.mod_eq_of_lt h]
  have e2 : (~~~ (BitVec.ofNat 32 n)) = BitVec.allOnes 32 ^^^ BitVec.ofNat 32 n := by
    rw [BitVec.allOnes_xor]
  rw [e2, BitVec.toNat_xor, BitVec.toNat_allOnes, BitVec.toNat_ofNat, Nat.mod_eq_of_lt h] at e
  exact e.symm

/-- The register behind bytes, and their sum. -/
def reg (l : List Nat) : Nat := run 4294967295 (bitsL l)
def sum32 (l : List Nat) : Nat := 4294967295 - reg l
/-- They with it behind. -/
def sealL (l : List Nat) : List Nat := l ++ four (sum32 l)

theorem reg_lt (l : List Nat) : reg l < 2 ^ 32 := run_lt _ (by decide)
theorem sum32_eq (l : List Nat) : sum32 l = 4294967295 ^^^ reg l := compl32 _ (reg_lt l)
theorem sum32_lt (l : List Nat) : sum32 l < 2 ^ 32 := by unfold sum32; omega

/-- Bytes end with their sum just if the register behind all of them is the one number. -/
theorem reg_seal (l : List Nat) : reg (sealL l) = run 4294967295 (zeros 32) := by
  unfold sealL
  unfold reg
  rw [bitsL_append, run_append, bitsL_four, sum32_eq]
  exact run_sealed _ (reg_lt l)

theorem reg_seal_only (l : List Nat) (x : Nat) (hx : x < 2 ^ 32) (h : reg (l ++ four x) = run 4294967295 (zeros 32)) : x = sum32 l := by
  unfold reg at h
  rw [bitsL_append, run_append, bitsL_four] at h
  rw [sum32_eq]
  exact run_sealed_only _ x (reg_lt l) hx h

/-- A sum goes on. -/
theorem reg_more (a b : List Nat) : reg (a ++ b) = run (4294967295 - sum32 a) (bitsL b) := by
  have h : 4294967295 - sum32 a = reg a := by unfold sum32; have := reg_lt a; omega
  rw [h]; unfold reg; rw [bitsL_append, run_append]
end Go.Proofs.YtkbfihnoohhojaaDoor.Lea

namespace Go.Proofs.YtkbfihnoohhojaaDoor.Lea

theorem zipX_cons (a b : Nat) (l k : List Nat) : zipX (a :: l) (b :: k) = (a + b) % 2 :: zipX l k := rfl

theorem zipX_length (l k : List Nat) (h : l.length = k.length) : (zipX l k).length = l.length := by simp [zipX, h]

theorem zipX_append : ∀ (l k l' k' : List Nat), l.length = k.length → zipX (l ++ l') (k ++ k') = zipX l k ++ zipX l' k' := by
  intro l
  induction l with
  | nil => intro k l' k' h; have : k = [] := List.eq_nil_of_length_eq_zero h.symm; subst this; rfl
  | cons a l ih =>
    intro k l' k' h
    cases k with
    | nil => simp at h
    | cons b k => simp only [List.cons_append, zipX_cons]; rw [ih k l' k' (by simpa using h)]

theorem zipX_assoc : ∀ (l k m : List Nat), zipX (zipX l k) m = zipX l (zipX k m) := by
  intro l
  induction l with
  | nil => intro k m; simp [zipX]
  | cons a l ih =>
    intro k m
    cases k with
    | nil => simp [zipX]
    | cons b k =>
      cases m with
      | nil => simp [zipX]
      | cons c m =>
        simp only [zipX_cons]
        rw [ih k m]
        congr 1
        omega

theorem bts_xor (k : Nat) : ∀ x y, bts (x ^^^ y) k = zipX (bts x k) (bts y k) := by
  induction k with
  | zero => intro x y; rfl
  | succ k ih =>
    intro x y
    show (x ^^^ y) % 2 :: bts ((x ^^^ y) / 2) k = (x % 2 + y % 2) % 2 :: zipX (bts (x / 2) k) (bts (y / 2) k)
    rw [xor_mod2, xor_div2, ih]
    congr 1
    omega

theorem bts_zero (k : Nat) : bts 0 k = zeros k := by
  induction k with
  | zero => rfl
  | succ k ih => show 0 % 2 :: bts (0 / 2) k = 0 :: zeros k; rw [Nat.zero_div, ih]

/-- Each is a bit. -/
def Bit (l : List Nat) : Prop := ∀ x ∈ l, x < 2

theorem bts_bit (k : Nat) : ∀ x, Bit (bts x k) := by
  induction k with
  | zero => intro x y hy; cases hy
  | succ k ih =>
    intro x y hy
    rcases List.mem_cons.1 hy with rfl | hy
    · omega
    · exact ih _ y hy

theorem bitsL_bit (l : List Nat) : Bit (bitsL l) := by
  intro x hx
  obtain ⟨y, _, hy⟩ := List.mem_flatMap.1 hx
  exact bts_bit 8 y x hy

theorem zipX_zeros : ∀ (l : List Nat), Bit l → zipX l (zeros l.length) = l := by
  intro l
  induction l with
  | nil => intro _; rfl
  | cons a l ih =>
    intro h
    have ha := h a (List.mem_cons_self ..)
    show (a + 0) % 2 :: zipX l (zeros l.length) = a :: l
    rw [ih (fun x hx => h x (List.mem_cons_of_mem _ hx))]
    congr 1
    omega

/-- Bytes of two rows together. -/
def xorL (a b : List Nat) : List Nat := List.zipWith (fun x y => x ^^^ y) a b

theorem bitsL_xor : ∀ (a b : List Nat), a.length = b.length → bitsL (xorL a b) = zipX (bitsL a) (bitsL b) := by
  intro a
  induction a with
  | nil => intro b h; have : b = [] := List.eq_nil_of_length_eq_zero h.symm; subst this; rfl
  | cons x a ih =>
    intro b h
    cases b with
    | nil => simp at h
    | cons y b =>
      show bts (x ^^^ y) 8 ++ bitsL (xorL a b) = zipX (bts x 8 ++ bitsL a) (bts y 8 ++ bitsL b)
      rw [bts_xor, ih b (by simpa using h), zipX_append _ _ _ _ (by rw [bts_length, bts_length])]

/-- The sums of three rows of one length, together, are the sum of the three together. -/
theorem sum_linear (a b c : List Nat) (h1 : a.length = b.length) (h2 : b.length = c.length) : sum32 a ^^^ sum32 b ^^^ sum32 c = sum32 (xorL (xorL a b) c) := by
  have hl : (xorL a b).length = c.length := by simp [xorL, h1, h2]
  have e : reg (xorL (xorL a b) c) = reg a ^^^ reg b ^^^ reg c := by
    unfold reg
    rw [bitsL_xor _ _ hl, bitsL_xor _ _ h1]
    exact run_xor3 _ _ _ _ (by rw [bitsL_length, bitsL_length, h1]) (by rw [bitsL_length, bitsL_length, h2])
  rw [sum32_eq, sum32_eq, sum32_eq, sum32_eq, e]
  generalize reg a = x
  generalize reg b = y
  generalize reg c = z
  apply Nat.eq_of_testBit_eq
  intro i
  simp only [Nat.testBit_xor]
  cases Nat.testBit 4294967295 i <;> cases Nat.testBit x i <;> cases Nat.testBit y i <;> cases Nat.testBit z i <;> rfl

/-- One bit of n. -/
def unit (j n : Nat) : List Nat := zeros j ++ 1 :: zeros (n - j - 1)

theorem unit_length (j n : Nat) (h : j < n) : (unit j n).length = n := by simp [unit, zeros]; omega

theorem bts_pow (i : Nat) (h : i < 8) : bts (2 ^ i) 8 = unit i 8 := by
  have : i = 0 ∨ i = 1 ∨ i = 2 ∨ i = 3 ∨ i = 4 ∨ i = 5 ∨ i = 6 ∨ i = 7 := by omega
  rcases this with rfl | rfl | rfl | rfl | rfl | rfl | rfl | rfl <;> decide

theorem zeros_add (a b : Nat) : zeros (a + b) = zeros a ++ zeros b := by simp [zeros]

/-- A bit of a byte of a row, turned. -/
theorem bitsL_flip (l : List Nat) (m i : Nat) (hm : m < l.length) (hi : i < 8) : bitsL (l.set m (l[m] ^^^ 2 ^ i)) = zipX (bitsL l) (unit (8 * m + i) (8 * l.length)) := by
  have e1 : l = l.take m ++ l[m] :: l.drop (m + 1) := by rw [← List.drop_eq_getElem_cons hm, List.take_append_drop]
  have e2 : l.set m (l[m] ^^^ 2 ^ i) = l.take m ++ (l[m] ^^^ 2 ^ i) :: l.drop (m + 1) := by
    rw [List.set_eq_take_append_cons_drop, if_pos hm]
  have hlt : (l.take m).length = m := by rw [List.length_take]; omega
  have hld : (l.drop (m + 1)).length = l.length - m - 1 := by rw [List.length_drop]; omega
  have hu : unit (8 * m + i) (8 * l.length) = zeros (8 * m) ++ (unit i 8 ++ zeros (8 * (l.length - m - 1))) := by
    unfold unit
    rw [zeros_add, List.append_assoc, List.append_assoc, List.cons_append, ← zeros_add]
    congr 4
    omega
  have b1 : bitsL l = bitsL (l.take m) ++ (bts l[m] 8 ++ bitsL (l.drop (m + 1))) := by
    conv => lhs; rw [e1]
    rw [bitsL_append, bitsL_cons]
  rw [e2, bitsL_append, bitsL_cons, bts_xor, bts_pow i hi, hu, b1, zipX_append _ _ _ _ (by rw [bitsL_length, hlt]; simp [zeros]), zipX_append _ _ _ _ (by rw [bts_length, unit_length i 8 hi])]
  have z1 : zipX (bitsL (l.take m)) (zeros (8 * m)) = bitsL (l.take m) := by
    have := zipX_zeros (bitsL (l.take m)) (bitsL_bit _)
    rwa [bitsL_length, hlt] at this
  have z2 : zipX (bitsL (l.drop (m + 1))) (zeros (8 * (l.length - m - 1))) = bitsL (l.drop (m + 1)) := by
    have := zipX_zeros (bitsL (l.drop (m + 1))) (bitsL_bit _)
    rwa [bitsL_length, hld] at this
  rw [z1, z2]

/-- The first i of 32 bits. -/
def part (k x i r : Nat) : List Nat := zeros k ++ (bts x i ++ zeros (32 - i + r))

theorem part_zero (k x r : Nat) : part k x 0 r = zeros (k + 32 + r) := by
  show zeros k ++ ([] ++ zeros (32 - 0 + r)) = _
  rw [List.nil_append, ← zeros_add]
  congr 1
  omega

theorem part_full (k x r : Nat) : part k x 32 r = burst k x r := by simp [part, burst]

theorem bts_snoc (x i : Nat) : bts x (i + 1) = bts x i ++ [x / 2 ^ i % 2] := by
  rw [bts_split i 1]; rfl

theorem part_skip (k x i r : Nat) (hi : i < 32) (hb : x / 2 ^ i % 2 = 0) : part k x (i + 1) r = part k x i r := by
  unfold part
  rw [bts_snoc, hb, show 32 - i + r = (32 - (i + 1) + r) + 1 by omega, zeros_succ]
  simp

theorem part_take (k x i r : Nat) (hi : i < 32) (hb : x / 2 ^ i % 2 = 1) : part k x (i + 1) r = zipX (part k x i r) (unit (k + i) (k + 32 + r)) := by
  have hu : unit (k + i) (k + 32 + r) = zeros k ++ (zeros i ++ (1 :: zeros (32 - (i + 1) + r))) := by
    unfold unit
    rw [zeros_add, List.append_assoc]
    congr 4
    omega
  have hz : zipX (zeros k) (zeros k) = zeros k := by
    have := zipX_zeros (zeros k) (fun x hx => by have := List.eq_of_mem_replicate hx; omega)
    simpa [zeros] using this
  have hb2 : zipX (bts x i) (zeros i) = bts x i := by
    have := zipX_zeros (bts x i) (bts_bit i x)
    rwa [bts_length] at this
  have hr : zipX (zeros (32 - (i + 1) + r)) (zeros (32 - (i + 1) + r)) = zeros (32 - (i + 1) + r) := by
    have := zipX_zeros (zeros (32 - (i + 1) + r)) (fun x hx => by have := List.eq_of_mem_replicate hx; omega)
    simpa [zeros] using this
  unfold part
  rw [hu, bts_snoc, hb, show 32 - i + r = (32 - (i + 1) + r) + 1 by omega, zeros_succ, zipX_append _ _ _ _ rfl, hz, zipX_append _ _ _ _ (by rw [bts_length]; simp [zeros]), hb2, zipX_cons, hr]
  simp

/-- Four bytes are those of a number. -/
theorem four_of (a b c d : Nat) (ha : a < 256) (hb : b < 256) (hc : c < 256) (hd : d < 256) : four (a + 256 * b + 65536 * c + 16777216 * d) = [a, b, c, d] := by
  unfold four
  have e1 : (a + 256 * b + 65536 * c + 16777216 * d) % 256 = a := by omega
  have e2 : (a + 256 * b + 65536 * c + 16777216 * d) / 256 % 256 = b := by omega
  have e3 : (a + 256 * b + 65536 * c + 16777216 * d) / 65536 % 256 = c := by omega
  have e4 : (a + 256 * b + 65536 * c + 16777216 * d) / 16777216 % 256 = d := by omega
  rw [e1, e2, e3, e4]

/-- Spoilt bytes are told. -/
theorem told (l s : List Nat) (k x r : Nat) (hx : x < 2 ^ 32) (h0 : x ≠ 0) (hk : k + 32 + r = 8 * (l.length + 4)) (hs : bitsL s = zipX (bitsL (sealL l)) (burst k x r)) (t : List Nat) : s ≠ sealL t := by
  rintro rfl
  have h1 := reg_seal t
  have h2 := reg_seal l
  unfold reg at h1 h2
  rw [hs] at h1
  refine burst_told 4294967295 k x r (bitsL (sealL l)) hx h0 ?_ (h1.trans h2.symm)
  rw [bitsL_length, hk]
  simp [sealL, four]

/-- The register, k bits at a time. -/
theorem run_mul (k : Nat) : ∀ a, run (a * 2 ^ k) (zeros k) = a := by
  induction k with
  | zero => intro a; simp [run, zeros]
  | succ k ih =>
    intro a
    have e : a * 2 ^ (k + 1) = 2 * (a * 2 ^ k) := by rw [Nat.pow_succ, ← Nat.mul_assoc, Nat.mul_comm]
    have : stp (a * 2 ^ (k + 1)) 0 = a * 2 ^ k := by
      unfold stp
      rw [e, if_neg (by omega)]
      omega
    show run (stp (a * 2 ^ (k + 1)) 0) (zeros k) = a
    rw [this, ih]

theorem split_xor (m k : Nat) : m = m / 2 ^ k * 2 ^ k ^^^ m % 2 ^ k := by
  apply Nat.eq_of_testBit_eq
  intro i
  rw [Nat.testBit_xor, Nat.testBit_mul_two_pow, Nat.testBit_mod_two_pow, Nat.testBit_div_two_pow]
  by_cases h : i < k
  · have : ¬ k ≤ i := by omega
    simp [h, this]
  · have h2 : k ≤ i := by omega
    simp [h, h2]

theorem run_table (m k : Nat) : run m (zeros k) = m / 2 ^ k ^^^ run (m % 2 ^ k) (zeros k) := by
  have h := run_xor (zeros k) (zeros k) (m / 2 ^ k * 2 ^ k) (m % 2 ^ k) rfl
  have hz : zipX (zeros k) (zeros k) = zeros k := by
    have := zipX_zeros (zeros k) (fun x hx => by have := List.eq_of_mem_replicate hx; omega)
    simpa [zeros] using this
  rw [hz, ← split_xor, run_mul] at h
  exact h

/-- A byte at a time, by a table. -/
theorem run_byte (n x : Nat) (hx : x < 256) : run n (bts x 8) = n / 256 ^^^ run ((n ^^^ x) % 256) (zeros 8) := by
  rw [run_bts 8 n x hx, run_table]
  congr 1
  have h : (n ^^^ x) / 2 ^ 8 = n / 2 ^ 8 ^^^ x / 2 ^ 8 := Nat.xor_div_two_pow
  rw [h, Nat.div_eq_of_lt hx, Nat.xor_zero]
end Go.Proofs.YtkbfihnoohhojaaDoor.Lea

namespace Go.Proofs.YtkbfihnoohhojaaDoor.Lea
open Go.RowKit

/-- Every number of a list is a byte. -/
def Byt (l : List Nat) : Prop := ∀ x ∈ l, x < 256
theorem Byt.append {a b : List Nat} (ha : Byt a) (hb : Byt b) : Byt (a ++ b) := fun x hx => (List.mem_append.1 hx).elim (ha x) (hb x)
theorem Byt.take {a : List Nat} (ha : Byt a) (k : Nat) : Byt (a.take k) := fun x hx => ha x (List.mem_of_mem_take hx)
theorem Byt.at {a : List Nat} (ha : Byt a) {k : Nat} {x : Nat} (h : a[k]? = some x) : x < 256 := ha x (List.mem_of_getElem? h)

/-- Bytes as values. -/
def U (l : List Nat) : List Value := l.map fun (x : Nat) => Value.int .u8 (x : Int)
theorem U_length (l : List Nat) : (U l).length = l.length := by simp [U]
theorem U_append (a b : List Nat) : U (a ++ b) = U a ++ U b := by simp [U]
theorem U_at {l : List Nat} {k : Nat} {x : Nat} (h : l[k]? = some x) : (U l)[k]? = some (.int .u8 (x : Int)) := by simp [U, h]

/-- A value is, in w's memory, a slice of these values, all in block b. -/
def SlAt (w : World) (b : Nat) (v : Value) (xs : List Value) : Prop :=
  (v = .slice none 0 0 ∧ xs = []) ∨ ∃ a cap, v = .slice (some a) xs.length cap ∧ xs.length ≤ cap ∧ cap ≤ maxLen ∧
    (xs = [] ∨ ∃ off, a = ⟨b, off, none⟩ ∧ b < w.heap.size ∧ ∀ k u, xs[k]? = some u → w.cell? ⟨b, off + k, none⟩ = some u)

theorem SlAt.nil (w : World) (b : Nat) : SlAt w b (.slice none 0 0) [] := .inl ⟨rfl, rfl⟩

theorem SlAt.keeps {w w' : World} {b : Nat} {v : Value} {xs : List Value} (h : SlAt w b v xs) (hs : w.heap.size ≤ w'.heap.size) (hb : b < w.heap.size → w'.heap[b]? = w.heap[b]?) : SlAt w' b v xs := by
  rcases h with h | ⟨a, cap, h1, h2, h3, h4⟩
  · exact .inl h
  · refine .inr ⟨a, cap, h1, h2, h3, ?_⟩
    rcases h4 with h4 | ⟨off, h5, h6, h7⟩
    · exact .inl h4
    · refine .inr ⟨off, h5, Nat.lt_of_lt_of_le h6 hs, fun k u hk => ?_⟩
      rw [World.cell?_of_block (w := w) (hb h6)]
      exact h7 k u hk

theorem SlAt.stays {w w' : World} {b : Nat} {v : Value} {xs : List Value} (h : SlAt w b v xs) (hb : Below w.heap.size w w') : SlAt w' b v xs :=
  h.keeps hb.size (hb.block b)

theorem SlAt.below {B : Nat} {w w' : World} {b : Nat} {v : Value} {xs : List Value} (h : SlAt w b v xs) (hb : Below B w w') (hlt : b < B) : SlAt w' b v xs :=
  h.keeps hb.size (fun _ => hb.block b hlt)

theorem SlAt.grown {w w' : World} {b g : Nat} {v : Value} {xs : List Value} (h : SlAt w b v xs) (hg : w.grownBy w' (some g)) (hne : b ≠ g) : SlAt w' b v xs :=
  h.keeps hg.size (fun hlt => hg.block b hlt (by simpa using hne))

/-- What a value is. -/
theorem SlAt.form {w : World} {b : Nat} {v : Value} {xs : List Value} (h : SlAt w b v xs) : ∃ p cap, v = .slice p xs.length cap ∧ xs.length ≤ cap ∧ cap ≤ maxLen := by
  rcases h with ⟨rfl, rfl⟩ | ⟨a, cap, h1, h2, h3, _⟩
  · exact ⟨none, 0, rfl, by simp, by unfold maxLen; omega⟩
  · exact ⟨some a, cap, h1, h2, h3⟩

/-- A value with an element. -/
theorem SlAt.elem {w : World} {b : Nat} {v : Value} {xs : List Value} (h : SlAt w b v xs) (hne : 0 < xs.length) :
    ∃ off cap, v = .slice (some ⟨b, off, none⟩) xs.length cap ∧ xs.length ≤ cap ∧ cap ≤ maxLen ∧ b < w.heap.size ∧ ∀ k u, xs[k]? = some u → w.cell? ⟨b, off + k, none⟩ = some u := by
  rcases h with ⟨_, rfl⟩ | ⟨a, cap, h1, h2, h3, h4⟩
  · simp at hne
  · rcases h4 with rfl | ⟨off, h5, h6, h7⟩
    · simp at hne
    · subst h5; exact ⟨off, cap, h1, h2, h3, h6, h7⟩

/-- A value, element by element. -/
theorem SlAt.each {w : World} {b : Nat} {v : Value} {xs : List Value} (h : SlAt w b v xs) : ∃ p cap, v = .slice p xs.length cap ∧ xs.length ≤ cap ∧ cap ≤ maxLen ∧
    ∀ k u, xs[k]? = some u → ∃ off, p = some ⟨b, off, none⟩ ∧ b < w.heap.size ∧ w.cell? ⟨b, off + k, none⟩ = some u := by
  rcases h with ⟨rfl, rfl⟩ | ⟨a, cap, h1, h2, h3, h4⟩
  · exact ⟨none, 0, rfl, by simp, by unfold maxLen; omega, fun k u hk => by simp at hk⟩
  · refine ⟨some a, cap, h1, h2, h3, fun k u hk => ?_⟩
    rcases h4 with rfl | ⟨off, h5, h6, h7⟩
    · simp at hk
    · subst h5; exact ⟨off, rfl, h6, h7 k u hk⟩

theorem add_zero_off (g j : Nat) : (⟨g, 0, none⟩ : Addr).add j = ⟨g, j, none⟩ := by unfold Addr.add; split <;> simp_all
theorem add_off (g o j : Nat) : (⟨g, o, none⟩ : Addr).add j = ⟨g, o + j, none⟩ := by unfold Addr.add; split <;> simp_all

/-- A row of the call's own is such a slice. -/
theorem own_sl {w : World} {B : Nat} {e : TypeId} {v : Value} {n : Nat} {xs : List Value} (h : w.ownsRow B e 1 v n xs) : ∃ b, B ≤ b ∧ SlAt w b v xs := by
  have hl : xs.length = n := by have := h.1; omega
  rcases h.2 with ⟨rfl, rfl⟩ | ⟨g, cap, cur, rfl, hb, hg, h1, h2, _⟩
  · exact ⟨B, Nat.le_refl _, .inl ⟨rfl, List.eq_nil_of_length_eq_zero hl⟩⟩
  · refine ⟨g, hb, .inr ⟨_, cap, by rw [hl], by omega, h2, .inr ⟨0, rfl, (Array.getElem?_eq_some_iff.1 hg).1, fun k u hk => ?_⟩⟩⟩
    have := h.cells (g := g) rfl k u hk
    rw [add_zero_off] at this
    simpa using this

theorem own_n {w : World} {B : Nat} {e : TypeId} {v : Value} {n : Nat} {xs : List Value} (h : w.ownsRow B e 1 v n xs) : xs.length = n := by have := h.1; omega

/-- An owned row, seen from a lower block on. -/
theorem own_lower {w : World} {B B' : Nat} {e : TypeId} {v : Value} {n : Nat} {xs : List Value} (h : w.ownsRow B e 1 v n xs) (hb : B' ≤ B) : w.ownsRow B' e 1 v n xs := by
  refine ⟨h.1, ?_⟩
  rcases h.2 with h | ⟨g, cap, cur, h1, h2, h3⟩
  · exact .inl h
  · exact .inr ⟨g, cap, cur, h1, by omega, h3⟩

theorem Tryd.info5m : (Tryd.prog.info? 5).map (fun i => (i.zero, i.size, i.bytes)) = some (some (.int .u8 0), 1, 1) := by kernel_rfl
theorem Tryd.info5 : ∃ i, Tryd.prog.info? 5 = some i ∧ i.zero = some (.int .u8 0) ∧ i.size = 1 ∧ i.bytes = 1 := by
  obtain ⟨i, h1, h2⟩ := Option.map_eq_some_iff.1 Tryd.info5m
  simp only [Prod.mk.injEq] at h2
  exact ⟨i, h1, h2.1, h2.2.1, h2.2.2⟩

theorem U_one (l : List Nat) : ∀ u ∈ U l, u.oneCell' = true := by
  intro u hu
  obtain ⟨x, _, rfl⟩ := List.mem_map.1 hu
  rfl

/-- An append of bytes to bytes of the call's own. -/
theorem wpList_append_sl {ops : Array Oper} {rest : List Oper} {o : Oper} {a : Act} {Q : Exit → Act → World → Prop} (w : World) (hgd : o.guard = none) (s x : Operand)
    (ho : o.op = .call { callee := .builtin .append, args := #[s, x], argTypes := #[23, 23] }) (B : Nat) (v : Value) (n : Nat) (xs : List Value) (hs : a.eval s = v) (hown : w.ownsRow B 5 1 v n xs)
    (b : Nat) (y : Value) (ys : List Nat) (hx : a.eval x = y) (hsl : SlAt w b y (U ys)) (hbd : n + ys.length ≤ 5000) (hB : B ≤ w.heap.size)
    (h : ∀ v' w', w'.ownsRow B 5 1 v' (n + ys.length) (xs ++ U ys) → w.grownBy w' v.ownBlock → wpList Tryd.prog ops Q rest (a.put o.dst v') w') : wpList Tryd.prog ops Q (o :: rest) a w := by
  obtain ⟨i, hi, hz0, hz1, hz2⟩ := Tryd.info5
  rcases hsl with ⟨rfl, hn⟩ | ⟨ad, cap, rfl, h2, h3, h4⟩
  · have hy : ys = [] := by simpa [U] using hn
    subst hy
    refine wpList_append_own_none hgd s x 23 ho B 5 i 1 Tryd.underlying23 hi v n xs hs hown hx ?_
    exact h v w (by simpa [U] using hown) ⟨rfl, rfl, rfl, Nat.le_refl _, fun _ _ _ => rfl⟩
  · refine wpList_append_own w hgd s x 23 ho B 5 i (.int .u8 0) 1 1 Tryd.underlying23 hi hz0 hz1 hz2 rfl (by decide) v n xs hs hown ad ys.length cap (U ys) (by rw [hx, U_length]) (by rw [U_length, Nat.mul_one]) ?_ (U_one ys) (by unfold maxLen; omega) (by omega) hB ?_
    · intro j u hj
      rcases h4 with h4 | ⟨off, rfl, _, h7⟩
      · rw [h4] at hj; simp at hj
      · rw [add_off]; exact h7 j u hj
    · intro v' w' k1 k2 _
      exact h v' w' k1 k2
end Go.Proofs.YtkbfihnoohhojaaDoor.Lea

namespace Go.Proofs.YtkbfihnoohhojaaDoor.Lea
open Go.RowKit

theorem bits_xor_nat (k : IntKind) (j : Nat) (hj : j ≤ k.bits) (hk : ∀ n : Int, 0 ≤ n → n < 2 ^ j → k.wrap n = n) (a b : Nat) (ha : a < 2 ^ j) (hb : b < 2 ^ j) :
    bits .xor k a b = ((a ^^^ b : Nat) : Int) := by
  have hp : 2 ^ j ≤ 2 ^ k.bits := Nat.pow_le_pow_right (by decide) hj
  have ha' : a % 2 ^ k.bits = a := Nat.mod_eq_of_lt (Nat.lt_of_lt_of_le ha hp)
  have hb' : b % 2 ^ k.bits = b := Nat.mod_eq_of_lt (Nat.lt_of_lt_of_le hb hp)
  simp only [bits, BitVec.ofInt_natCast, BitVec.toNat_xor, BitVec.toNat_ofNat, ha', hb']
  exact hk _ (Int.natCast_nonneg _) (by exact_mod_cast Nat.xor_lt_two_pow ha hb)

theorem wraps_u32 (n : Int) (h0 : 0 ≤ n) (h1 : n < 2 ^ 32) : IntKind.u32.wrap n = n := by rw [IntKind.wrap_u32]; omega

theorem xor_u32 (a b : Nat) (ha : a < 4294967296) (hb : b < 4294967296) : bits .xor .u32 a b = ((a ^^^ b : Nat) : Int) :=
  bits_xor_nat .u32 32 (by decide) wraps_u32 a b ha hb

theorem xor_u8 (a b : Nat) (ha : a < 256) (hb : b < 256) : bits .xor .u8 a b = ((a ^^^ b : Nat) : Int) :=
  bits_xor_nat .u8 8 (by decide) wraps_u8 a b ha hb

theorem not_u32 (a : Nat) (ha : a < 4294967296) : bits .xor .u32 IntKind.u32.max a = ((4294967295 - a : Nat) : Int) := by
  have e : IntKind.u32.max = ((4294967295 : Nat) : Int) := by decide
  rw [e, xor_u32 _ a (by omega) ha, compl32 a ha]

theorem and1_u32 (a : Nat) (ha : a < 4294967296) : bits .and .u32 a 1 = ((a % 2 : Nat) : Int) := by
  have := bits_mask .u32 32 (by decide) wraps_u32 1 (by decide) (a : Int) (by omega) (by simp; omega)
  simpa using this
end Go.Proofs.YtkbfihnoohhojaaDoor.Lea
