/-
  Numbers as rows of bytes of seven bits, words of eight bytes, and how both are read: the plain mathematics of layer 2.
-/
import Derived.KernelRfl
namespace Go.Proofs.YtgmghekgelmmcaaDoor.Ite

/-- How many bytes a number takes. -/
def lenN (n : Int) : Nat :=
  if n < 128 then 1 else if n < 16384 then 2 else if n < 2097152 then 3 else if n < 268435456 then 4 else if n < 34359738368 then 5 else if n < 4398046511104 then 6
  else if n < 562949953421312 then 7 else if n < 72057594037927936 then 8 else 9

/-- The k lowest digits of a number, the highest first, each but the last one marked. -/
def dg (n : Int) : Nat → List Int
  | 0 => []
  | k + 1 => (n / 128 ^ k % 128 + if k = 0 then 0 else 128) :: dg n k

theorem dg_length (n : Int) (k : Nat) : (dg n k).length = k := by
  induction k with
  | zero => rfl
  | succ k ih => simp [dg, ih]

/-- Every number of a list is a byte. -/
def Byt (l : List Int) : Prop := ∀ x ∈ l, 0 ≤ x ∧ x ≤ 255

theorem Byt.append {a b : List Int} (ha : Byt a) (hb : Byt b) : Byt (a ++ b) := fun x hx => (List.mem_append.1 hx).elim (ha x) (hb x)
theorem Byt.drop {a : List Int} (ha : Byt a) (k : Nat) : Byt (a.drop k) := fun x hx => ha x (List.mem_of_mem_drop hx)
theorem Byt.take {a : List Int} (ha : Byt a) (k : Nat) : Byt (a.take k) := fun x hx => ha x (List.mem_of_mem_take hx)
theorem Byt.at {a : List Int} (ha : Byt a) {k : Nat} {x : Int} (h : a[k]? = some x) : 0 ≤ x ∧ x ≤ 255 := ha x (List.mem_of_getElem? h)

theorem dg_byt (n : Int) (k : Nat) : Byt (dg n k) := by
  induction k with
  | zero => intro x hx; cases hx
  | succ k ih =>
    intro x hx
    rcases List.mem_cons.1 hx with rfl | hx
    · split <;> omega
    · exact ih x hx

theorem lenN_bd (n : Int) : 1 ≤ lenN n ∧ lenN n ≤ 9 := by
  unfold lenN
  repeat' split
  all_goals omega

theorem lenN_spec (n : Int) (h1 : n ≤ 9223372036854775807) : n < 128 ^ lenN n ∧ (lenN n = 1 ∨ 128 ^ (lenN n - 1) ≤ n) := by
  unfold lenN
  repeat' split
  all_goals simp
  all_goals omega

theorem lenN_uniq (n : Int) (j : Nat) (hj : 1 ≤ j) (hj9 : j ≤ 9) (h1 : n < 128 ^ j) (h2 : j = 1 ∨ 128 ^ (j - 1) ≤ n) : lenN n = j := by
  have : j = 1 ∨ j = 2 ∨ j = 3 ∨ j = 4 ∨ j = 5 ∨ j = 6 ∨ j = 7 ∨ j = 8 ∨ j = 9 := by omega
  unfold lenN
  rcases this with rfl | rfl | rfl | rfl | rfl | rfl | rfl | rfl | rfl <;> simp at h1 h2
  all_goals repeat' split
  all_goals omega

/-- The number at the front of bytes: it, how many bytes it takes, what is wrong. -/
def numG (most : Int) : Int → Nat → List Int → Int × Nat × Int
  | _, _, [] => (0, 0, 6)
  | n, i, c :: r =>
    if i = 0 ∧ c = 128 then (0, 0, 5) else if most / 128 < n then (0, 0, 2)
    else if 128 ≤ c then numG most (n * 128 + c % 128) (i + 1) r
    else if most < n * 128 + c % 128 then (0, 0, 2) else (n * 128 + c % 128, i + 1, 0)

theorem dd (a b c : Int) (h : 0 ≤ b) : a / b / c = a / (b * c) := by
  rw [Int.ediv_ediv, if_neg (by omega)]; omega

theorem pow_ge (j : Nat) : (72057594037927936 : Int) ≤ 128 ^ (8 + j) := by
  induction j with
  | zero => simp
  | succ j ih => rw [← Nat.add_assoc, Int.pow_succ]; omega

theorem ediv_pow_succ (n : Int) (k : Nat) : n / 128 ^ (k + 1) = n / 128 ^ k / 128 := by
  rw [Int.pow_succ, dd _ _ _ (by have : (0:Int) < 128 ^ k := Int.pow_pos (by omega); omega)]

theorem ediv_pow_le (n : Int) (k : Nat) (h : 0 ≤ n) : n / 128 ^ k ≤ n := by
  induction k with
  | zero => simp
  | succ k ih => rw [ediv_pow_succ]; have : 0 ≤ n / 128 ^ k := Int.ediv_nonneg h (Int.le_of_lt (Int.pow_pos (by omega))); omega

theorem numG_dg (most n : Int) (h0 : 0 ≤ n) (hm : n ≤ most) (rest : List Int) (k i : Nat) (hi : i = 0 → k = 0 ∨ n / 128 ^ k % 128 ≠ 0) :
    numG most (n / 128 ^ (k + 1)) i (dg n (k + 1) ++ rest) = (n, i + k + 1, 0) := by
  induction k generalizing i with
  | zero =>
    have e : n / 128 ^ (0 + 1) = n / 128 := by simp
    rw [e]
    have d : dg n (0 + 1) ++ rest = n % 128 :: rest := by simp [dg]
    rw [d]
    unfold numG
    rw [if_neg (by omega), if_neg (by omega), if_neg (by omega)]
    have : n / 128 * 128 + n % 128 % 128 = n := by omega
    rw [this, if_neg (by omega)]
  | succ k ih =>
    have d : dg n (k + 1 + 1) ++ rest = (n / 128 ^ (k + 1) % 128 + 128) :: (dg n (k + 1) ++ rest) := by
      show (n / 128 ^ (k + 1) % 128 + if k + 1 = 0 then 0 else 128) :: dg n (k + 1) ++ rest = _
      rw [if_neg (by omega)]; rfl
    rw [d]
    have hle := ediv_pow_le n (k + 1) h0
    have hnn : 0 ≤ n / 128 ^ (k + 1) := Int.ediv_nonneg h0 (Int.le_of_lt (Int.pow_pos (by omega)))
    have e := ediv_pow_succ n (k + 1)
    generalize n / 128 ^ (k + 1) = q at *
    rw [e]
    unfold numG
    have hf : ¬ (i = 0 ∧ q % 128 + 128 = 128) := by
      intro ⟨a, b⟩
      rcases hi a with h | h <;> omega
    rw [if_neg hf, if_neg (by omega), if_pos (by omega)]
    have : q / 128 * 128 + (q % 128 + 128) % 128 = q := by omega
    rw [this, ih (i + 1) (by omega)]
    simp; omega

theorem lead (n : Int) (_h0 : 0 ≤ n) (h1 : n ≤ 9223372036854775807) (k : Nat) (hk : lenN n = k + 1) : k = 0 ∨ n / 128 ^ k % 128 ≠ 0 := by
  obtain ⟨a, b⟩ := lenN_spec n h1
  rw [hk] at a b
  rcases b with b | b
  · left; omega
  · right
    simp at b
    have hp : (0:Int) < 128 ^ k := Int.pow_pos (by omega)
    rw [Int.pow_succ] at a
    have c1 : 1 ≤ n / 128 ^ k := (Int.le_ediv_iff_mul_le hp).2 (by omega)
    have c2 : n / 128 ^ k < 128 := (Int.ediv_lt_iff_lt_mul hp).2 (by rw [Int.mul_comm]; exact a)
    omega

/-- What was put is read. -/
theorem numG_put (most n : Int) (h0 : 0 ≤ n) (hm : n ≤ most) (h1 : most ≤ 9223372036854775807) (rest : List Int) :
    numG most 0 0 (dg n (lenN n) ++ rest) = (n, lenN n, 0) := by
  obtain ⟨k, hk⟩ : ∃ k, lenN n = k + 1 := ⟨lenN n - 1, by have := lenN_bd n; omega⟩
  have a := (lenN_spec n (by omega)).1
  rw [hk] at a ⊢
  have z : n / 128 ^ (k + 1) = 0 := Int.ediv_eq_zero_of_lt h0 a
  have := numG_dg most n h0 hm rest k 0 (fun _ => lead n h0 (by omega) k hk)
  rw [z] at this
  rw [this]; simp

theorem dg_split (d : Int) (k : Nat) (h0 : 0 ≤ d) (h1 : d < 128) : ∀ n, (dg (n * 128 + d) (k + 1) = ((dg n k).map fun x => if x < 128 then x + 128 else x) ++ [d]) := by
  induction k with
  | zero => intro n; simp [dg]; omega
  | succ k ih =>
    intro n
    have l : dg (n * 128 + d) (k + 1 + 1) = ((n * 128 + d) / 128 ^ (k + 1) % 128 + 128) :: dg (n * 128 + d) (k + 1) := by
      show (_ + if k + 1 = 0 then 0 else 128) :: _ = _
      rw [if_neg (by omega)]
    have e : (n * 128 + d) / 128 ^ (k + 1) = n / 128 ^ k := by
      rw [Int.pow_succ, Int.mul_comm (128 ^ k) 128, ← dd _ _ _ (by omega)]
      congr 1; omega
    rw [l, ih n, e]
    show _ = (List.map _ ((n / 128 ^ k % 128 + if k = 0 then 0 else 128) :: dg n k)) ++ [d]
    rw [List.map_cons, List.cons_append]
    congr 1
    split <;> split <;> omega

/-- The bytes ahead of the last one of a number: each marked. -/
def hd (n : Int) (k : Nat) : List Int := (dg n k).map fun x => if x < 128 then x + 128 else x

theorem hd_step (n c : Int) (k : Nat) (h0 : 128 ≤ c) (h1 : c ≤ 255) : hd (n * 128 + c % 128) (k + 1) = hd n k ++ [c] := by
  unfold hd
  rw [dg_split (c % 128) k (by omega) (by omega) n, List.map_append, List.map_map]
  congr 1
  · apply List.map_congr_left
    intro x hx
    have := dg_byt n k x hx
    simp only [Function.comp]
    repeat' split
    all_goals omega
  · simp; omega

theorem numG_inv (most : Int) (h1 : most ≤ 9223372036854775807) (l : List Int) (hl : Byt l) : ∀ (n : Int) (i : Nat) (m : Int) (s : Nat), 0 ≤ n → n < 128 ^ i → (i = 0 ∨ 128 ^ (i - 1) ≤ n) → numG most n i l = (m, s, 0) →
    i + 1 ≤ s ∧ s ≤ i + l.length ∧ 0 ≤ m ∧ m ≤ most ∧ dg m (lenN m) = hd n i ++ l.take (s - i) ∧ lenN m = s := by
  induction l with
  | nil => intro n i m s _ _ _ h; simp [numG] at h
  | cons c r ih =>
    intro n i m s h0 hn hlo h
    have hc := hl c (List.mem_cons_self ..)
    unfold numG at h
    by_cases c1 : i = 0 ∧ c = 128
    · rw [if_pos c1] at h; simp at h
    rw [if_neg c1] at h
    by_cases c2 : most / 128 < n
    · rw [if_pos c2] at h; simp at h
    rw [if_neg c2] at h
    have hp : (128:Int) ^ (i + 1) = 128 ^ i * 128 := Int.pow_succ _ _
    by_cases c3 : 128 ≤ c
    · rw [if_pos c3] at h
      have hlo' : i + 1 = 0 ∨ 128 ^ (i + 1 - 1) ≤ n * 128 + c % 128 := by
        right
        simp
        rcases hlo with rfl | hlo
        · simp; simp at hn; omega
        · obtain ⟨j, rfl⟩ : ∃ j, i = j + 1 := by
            cases i with
            | zero => simp at hn hlo; omega
            | succ j => exact ⟨j, rfl⟩
          simp at hlo
          have : (128:Int) ^ (j + 1) = 128 ^ j * 128 := Int.pow_succ _ _
          omega
      obtain ⟨a1, a2, a3, a4, a5, a6⟩ := ih (fun x hx => hl x (List.mem_cons_of_mem _ hx)) (n * 128 + c % 128) (i + 1) m s (by omega) (by omega) hlo' h
      refine ⟨by omega, by simp; omega, a3, a4, ?_, a6⟩
      rw [a5, hd_step n c i c3 hc.2, List.append_assoc]
      congr 1
      obtain ⟨j, hj⟩ : ∃ j, s = i + 1 + j := ⟨s - (i + 1), by omega⟩
      subst hj
      have e1 : i + 1 + j - (i + 1) = j := by omega
      have e2 : i + 1 + j - i = j + 1 := by omega
      rw [e1, e2]; rfl
    · rw [if_neg c3] at h
      by_cases c4 : most < n * 128 + c % 128
      · rw [if_pos c4] at h; simp at h
      rw [if_neg c4] at h
      simp only [Prod.mk.injEq, and_true] at h
      obtain ⟨rfl, rfl⟩ := h
      have e : c % 128 = c := by omega
      rw [e] at c4 ⊢
      have hi9 : i + 1 ≤ 9 := by
        rcases hlo with rfl | hlo
        · omega
        · rcases Nat.lt_or_ge i 9 with h | h
          · omega
          · exfalso
            have := pow_ge (i - 1 - 8)
            rw [show 8 + (i - 1 - 8) = i - 1 by omega] at this
            omega
      have hu : lenN (n * 128 + c) = i + 1 := by
        refine lenN_uniq _ (i + 1) (by omega) hi9 (by omega) ?_
        rcases hlo with rfl | hlo
        · left; rfl
        · right
          simp
          cases i with
          | zero => simp at hn hlo; omega
          | succ j =>
            simp at hlo
            have : (128:Int) ^ (j + 1) = 128 ^ j * 128 := Int.pow_succ _ _
            omega
      refine ⟨by omega, by simp, by omega, by omega, ?_, hu⟩
      rw [hu, dg_split c i (by omega) (by omega) n]
      have e3 : i + 1 - i = 1 := by omega
      rw [e3]; rfl

/-- Bytes that are read as a number are those in which it is put. -/
theorem numG_one (most : Int) (h1 : most ≤ 9223372036854775807) (l : List Int) (hl : Byt l) (m : Int) (s : Nat) (h : numG most 0 0 l = (m, s, 0)) :
    1 ≤ s ∧ s ≤ l.length ∧ 0 ≤ m ∧ m ≤ most ∧ dg m (lenN m) = l.take s := by
  obtain ⟨a, b, c, d, e, _⟩ := numG_inv most h1 l hl 0 0 m s (by omega) (by simp) (.inl rfl) h
  refine ⟨by omega, by omega, c, d, ?_⟩
  rw [e]; simp [hd, dg]

theorem numG_code (most : Int) (l : List Int) : ∀ n i, ((numG most n i l).2.2 = 0 ∧ (numG most n i l).2.1 ≤ i + l.length ∧ i < (numG most n i l).2.1) ∨ (numG most n i l = (0, 0, 5) ∨ numG most n i l = (0, 0, 2) ∨ numG most n i l = (0, 0, 6)) := by
  induction l with
  | nil => intro n i; right; right; right; rfl
  | cons c r ih =>
    intro n i
    unfold numG
    split
    · right; left; rfl
    split
    · right; right; left; rfl
    split
    · rcases ih (n * 128 + c % 128) (i + 1) with h | h
      · left; simp; omega
      · right; exact h
    split
    · right; right; left; rfl
    · left; simp

/-- A word's k lowest bytes, the highest first. -/
def wd (n : Int) : Nat → List Int
  | 0 => []
  | k + 1 => (n / 256 ^ k % 256) :: wd n k

theorem wd_length (n : Int) (k : Nat) : (wd n k).length = k := by
  induction k with
  | zero => rfl
  | succ k ih => simp [wd, ih]

theorem wd_byt (n : Int) (k : Nat) : Byt (wd n k) := by
  induction k with
  | zero => intro x hx; cases hx
  | succ k ih =>
    intro x hx
    rcases List.mem_cons.1 hx with rfl | hx
    · omega
    · exact ih x hx

/-- The number in bytes, the highest first. -/
def wfold (n : Int) (l : List Int) : Int := l.foldl (fun a c => a * 256 + c) n

theorem wfold_wd (n : Int) (k : Nat) : wfold (n / 256 ^ k) (wd n k) = n := by
  induction k with
  | zero => simp [wfold, wd]
  | succ k ih =>
    have e : n / 256 ^ (k + 1) = n / 256 ^ k / 256 := by
      rw [Int.pow_succ, dd _ _ _ (by have : (0:Int) < 256 ^ k := Int.pow_pos (by omega); omega)]
    show wfold (n / 256 ^ (k + 1) * 256 + n / 256 ^ k % 256) (wd n k) = n
    rw [e]
    have : n / 256 ^ k / 256 * 256 + n / 256 ^ k % 256 = n / 256 ^ k := by omega
    rw [this, ih]

theorem wfold_word (n : Int) (h0 : 0 ≤ n) (h1 : n ≤ 18446744073709551615) : wfold 0 (wd n 8) = n := by
  have := wfold_wd n 8
  rwa [Int.ediv_eq_zero_of_lt h0 (by simp; omega)] at this

theorem wfold_bd (l : List Int) (hl : Byt l) : ∀ n k, 0 ≤ n → n < 256 ^ k → 0 ≤ wfold n l ∧ wfold n l < 256 ^ (k + l.length) := by
  induction l with
  | nil => intro n k h0 h1; exact ⟨h0, h1⟩
  | cons c r ih =>
    intro n k h0 h1
    have hc := hl c (List.mem_cons_self ..)
    have hp : (256:Int) ^ (k + 1) = 256 ^ k * 256 := Int.pow_succ _ _
    have := ih (fun x hx => hl x (List.mem_cons_of_mem _ hx)) (n * 256 + c) (k + 1) (by omega) (by omega)
    simp only [List.length_cons]
    rw [show k + (r.length + 1) = k + 1 + r.length by omega]
    exact this

/-- All numbers, one behind the other. -/
def puts : List Int → List Int
  | [] => []
  | n :: r => dg n (lenN n) ++ puts r

theorem puts_append (a b : List Int) : puts (a ++ b) = puts a ++ puts b := by
  induction a with
  | nil => rfl
  | cons n r ih => simp [puts, ih]

theorem puts_byt (l : List Int) : Byt (puts l) := by
  induction l with
  | nil => intro x hx; cases hx
  | cons n r ih => exact (dg_byt _ _).append ih

theorem puts_length (l : List Int) : (puts l).length ≤ 9 * l.length := by
  induction l with
  | nil => simp [puts]
  | cons n r ih => simp [puts, dg_length]; have := lenN_bd n; omega
end Go.Proofs.YtgmghekgelmmcaaDoor.Ite
