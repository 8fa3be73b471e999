/-
  Rows of bytes and of numbers in memory at this seat, and what an append of such a row does.
-/
import Derived.KernelRfl
import Derived.Test.YtkgecpplgjfhiaaGreatDoorQFlt
import Derived.WalkKit
import Derived.WalkSpells
import Derived.WalkLawsBesides
import Derived.Handy
import Derived.Deep.LoopGhost
import Derived.Deep.QuietTactic
import Derived.BigQuiet
import Derived.Deep.DeepFit
import Derived.Laws.AppendOwnNone
namespace Go.Proofs.YtkgecpplgjfhiaaGreatDoor.Ite

/-- How many bytes a number takes. -/
def lenN (n : Int) : Nat :=
  if n < 128 then 1 else if n < 16384 then 2 else if n < 2097152 then 3 else if n < 268435456 then 4 else if n < 34359738368 then 5 else if n < 4398046511104 then 6
  else if n < 562949953421312 then 7 else if n < 72057594037927936 then 8 else 9

/-- The k lowest digits of a number, the highest first, each but the last one marked. -/
def dg (n : Int) : Nat → List Int
  | 0 => []
  | k + 1 => (n / 128 ^ k % 128 + if k = 0 then 0 else 128) :: dg n k

theorem dg_length (n : Int) (k : Nat) : (dg n k).length = k := by
  induction k with
  | zero => rfl
  | succ k ih => simp [dg, ih]

/-- Every number of a list is a byte. -/
def Byt (l : List Int) : Prop := ∀ x ∈ l, 0 ≤ x ∧ x ≤ 255

theorem Byt.append {a b : List Int} (ha : Byt a) (hb : Byt b) : Byt (a ++ b) := fun x hx => (List.mem_append.1 hx).elim (ha x) (hb x)
theorem Byt.drop {a : List Int} (ha : Byt a) (k : Nat) : Byt (a.drop k) := fun x hx => ha x (List.mem_of_mem_drop hx)
theorem Byt.take {a : List Int} (ha : Byt a) (k : Nat) : Byt (a.take k) := fun x hx => ha x (List.mem_of_mem_take hx)
theorem Byt.at {a : List Int} (ha : Byt a) {k : Nat} {x : Int} (h : a[k]? = some x) : 0 ≤ x ∧ x ≤ 255 := ha x (List.mem_of_getElem? h)

theorem dg_byt (n : Int) (k : Nat) : Byt (dg n k) := by
  induction k with
  | zero => intro x hx; cases hx
  | succ k ih =>
    intro x hx
    rcases List.mem_cons.1 hx with rfl | hx
    · split <;> omega
    · exact ih x hx

theorem lenN_bd (n : Int) : 1 ≤ lenN n ∧ lenN n ≤ 9 := by
  unfold lenN
  repeat' split
  all_goals omega

theorem lenN_spec (n : Int) (h1 : n ≤ 9223372036854775807) : n < 128 ^ lenN n ∧ (lenN n = 1 ∨ 128 ^ (lenN n - 1) ≤ n) := by
  unfold lenN
  repeat' split
  all_goals simp
  all_goals omega

theorem lenN_uniq (n : Int) (j : Nat) (hj : 1 ≤ j) (hj9 : j ≤ 9) (h1 : n < 128 ^ j) (h2 : j = 1 ∨ 128 ^ (j - 1) ≤ n) : lenN n = j := by
  have : j = 1 ∨ j = 2 ∨ j = 3 ∨ j = 4 ∨ j = 5 ∨ j = 6 ∨ j = 7 ∨ j = 8 ∨ j = 9 := by omega
  unfold lenN
  rcases this with rfl | rfl | rfl | rfl | rfl | rfl | rfl | rfl | rfl <;> simp at h1 h2
  all_goals repeat' split
  all_goals omega

/-- The number at the front of bytes: it, how many bytes it takes, what is wrong. -/
def numG (most : Int) : Int → Nat → List Int → Int × Nat × Int
  | _, _, [] => (0, 0, 6)
  | n, i, c :: r =>
    if i = 0 ∧ c = 128 then (0, 0, 5) else if most / 128 < n then (0, 0, 2)
    else if 128 ≤ c then numG most (n * 128 + c % 128) (i + 1) r
    else if most < n * 128 + c % 128 then (0, 0, 2) else (n * 128 + c % 128, i + 1, 0)

theorem dd (a b c : Int) (h : 0 ≤ b) : a / b / c = a / (b * c) := by
  rw [Int.ediv_ediv, if_neg (by omega)]; omega

theorem pow_ge (j : Nat) : (72057594037927936 : Int) ≤ 128 ^ (8 + j) := by
  induction j with
  | zero => simp
  | succ j ih => rw [← Nat.add_assoc, Int.pow_succ]; omega

theorem ediv_pow_succ (n : Int) (k : Nat) : n / 128 ^ (k + 1) = n / 128 ^ k / 128 := by
  rw [Int.pow_succ, dd _ _ _ (by have : (0:Int) < 128 ^ k := Int.pow_pos (by omega); omega)]

theorem ediv_pow_le (n : Int) (k : Nat) (h : 0 ≤ n) : n / 128 ^ k ≤ n := by
  induction k with
  | zero => simp
  | succ k ih => rw [ediv_pow_succ]; have : 0 ≤ n / 128 ^ k := Int.ediv_nonneg h (Int.le_of_lt (Int.pow_pos (by omega))); omega

theorem numG_dg (most n : Int) (h0 : 0 ≤ n) (hm : n ≤ most) (rest : List Int) (k i : Nat) (hi : i = 0 → k = 0 ∨ n / 128 ^ k % 128 ≠ 0) :
    numG most (n / 128 ^ (k + 1)) i (dg n (k + 1) ++ rest) = (n, i + k + 1, 0) := by
  induction k generalizing i with
  | zero =>
    have e : n / 128 ^ (0 + 1) = n / 128 := by simp
    rw [e]
    have d : dg n (0 + 1) ++ rest = n % 128 :: rest := by simp [dg]
    rw [d]
    unfold numG
    rw [if_neg (by omega), if_neg (by omega), if_neg (by omega)]
    have : n / 128 * 128 + n % 128 % 128 = n := by omega
    rw [this, if_neg (by omega)]
  | succ k ih =>
    have d : dg n (k + 1 + 1) ++ rest = (n / 128 ^ (k + 1) % 128 + 128) :: (dg n (k + 1) ++ rest) := by
      show (n / 128 ^ (k + 1) % 128 + if k + 1 = 0 then 0 else 128) :: dg n (k + 1) ++ rest = _
      rw [if_neg (by omega)]; rfl
    rw [d]
    have hle := ediv_pow_le n (k + 1) h0
    have hnn : 0 ≤ n / 128 ^ (k + 1) := Int.ediv_nonneg h0 (Int.le_of_lt (Int.pow_pos (by omega)))
    have e := ediv_pow_succ n (k + 1)
    generalize n / 128 ^ (k + 1) = q at *
    rw [e]
    unfold numG
    have hf : ¬ (i = 0 ∧ q % 128 + 128 = 128) := by
      intro ⟨a, b⟩
      rcases hi a with h | h <;> omega
    rw [if_neg hf, if_neg (by omega), if_pos (by omega)]
    have : q / 128 * 128 + (q % 128 + 128) % 128 = q := by omega
    rw [this, ih (i + 1) (by omega)]
    simp; omega

theorem lead (n : Int) (_h0 : 0 ≤ n) (h1 : n ≤ 9223372036854775807) (k : Nat) (hk : lenN n = k + 1) : k = 0 ∨ n / 128 ^ k % 128 ≠ 0 := by
  obtain ⟨a, b⟩ := lenN_spec n h1
  rw [hk] at a b
  rcases b with b | b
  · left; omega
  · right
    simp at b
    have hp : (0:Int) < 128 ^ k := Int.pow_pos (by omega)
    rw [Int.pow_succ] at a
    have c1 : 1 ≤ n / 128 ^ k := (Int.le_ediv_iff_mul_le hp).2 (by omega)
    have c2 : n / 128 ^ k < 128 := (Int.ediv_lt_iff_lt_mul hp).2 (by rw [Int.mul_comm]; exact a)
    omega

/-- What was put is read. -/
theorem numG_put (most n : Int) (h0 : 0 ≤ n) (hm : n ≤ most) (h1 : most ≤ 9223372036854775807) (rest : List Int) :
    numG most 0 0 (dg n (lenN n) ++ rest) = (n, lenN n, 0) := by
  obtain ⟨k, hk⟩ : ∃ k, lenN n = k + 1 := ⟨lenN n - 1, by have := lenN_bd n; omega⟩
  have a := (lenN_spec n (by omega)).1
  rw [hk] at a ⊢
  have z : n / 128 ^ (k + 1) = 0 := Int.ediv_eq_zero_of_lt h0 a
  have := numG_dg most n h0 hm rest k 0 (fun _ => lead n h0 (by omega) k hk)
  rw [z] at this
  rw [this]; simp

theorem dg_split (d : Int) (k : Nat) (h0 : 0 ≤ d) (h1 : d < 128) : ∀ n, (dg (n * 128 + d) (k + 1) = ((dg n k).map fun x => if x < 128 then x + 128 else x) ++ [d]) := by
  induction k with
  | zero => intro n; simp [dg]; omega
  | succ k ih =>
    intro n
    have l : dg (n * 128 + d) (k + 1 + 1) = ((n * 128 + d) / 128 ^ (k + 1) % 128 + 128) :: dg (n * 128 + d) (k + 1) := by
      show (_ + if k + 1 = 0 then 0 else 128) :: _ = _
      rw [if_neg (by omega)]
    have e : (n * 128 + d) / 128 ^ (k + 1) = n / 128 ^ k := by
      rw [Int.pow_succ, Int.mul_comm (128 ^ k) 128, ← dd _ _ _ (by omega)]
      congr 1; omega
    rw [l, ih n, e]
    show _ = (List.map _ ((n / 128 ^ k % 128 + if k = 0 then 0 else 128) :: dg n k)) ++ [d]
    rw [List.map_cons, List.cons_append]
    congr 1
    split <;> split <;> omega

/-- The bytes ahead of the last one of a number: each marked. -/
def hd (n : Int) (k : Nat) : List Int := (dg n k).map fun x => if x < 128 then x + 128 else x

theorem hd_step (n c : Int) (k : Nat) (h0 : 128 ≤ c) (h1 : c ≤ 255) : hd (n * 128 + c % 128) (k + 1) = hd n k ++ [c] := by
  unfold hd
  rw [dg_split (c % 128) k (by omega) (by omega) n, List.map_append, List.map_map]
  congr 1
  · apply List.map_congr_left
    intro x hx
    have := dg_byt n k x hx
    simp only [Function.comp]
    repeat' split
    all_goals omega
  · simp; omega

theorem numG_inv (most : Int) (h1 : most ≤ 9223372036854775807) (l : List Int) (hl : Byt l) : ∀ (n : Int) (i : Nat) (m : Int) (s : Nat), 0 ≤ n → n < 128 ^ i → (i = 0 ∨ 128 ^ (i - 1) ≤ n) → numG most n i l = (m, s, 0) →
    i + 1 ≤ s ∧ s ≤ i + l.length ∧ 0 ≤ m ∧ m ≤ most ∧ dg m (lenN m) = hd n i ++ l.take (s - i) ∧ lenN m = s := by
  induction l with
  | nil => intro n i m s _ _ _ h; simp [numG] at h
  | cons c r ih =>
    intro n i m s h0 hn hlo h
    have hc := hl c (List.mem_cons_self ..)
    unfold numG at h
    by_cases c1 : i = 0 ∧ c = 128
    · rw [if_pos c1] at h; simp at h
    rw [if_neg c1] at h
    by_cases c2 : most / 128 < n
    · rw [if_pos c2] at h; simp at h
    rw [if_neg c2] at h
    have hp : (128:Int) ^ (i + 1) = 128 ^ i * 128 := Int.pow_succ _ _
    by_cases c3 : 128 ≤ c
    · rw [if_pos c3] at h
      have hlo' : i + 1 = 0 ∨ 128 ^ (i + 1 - 1) ≤ n * 128 + c % 128 := by
        right
        simp
        rcases hlo with rfl | hlo
        · simp; simp at hn; omega
        · obtain ⟨j, rfl⟩ : ∃ j, i = j + 1 := by
            cases i with
            | zero => simp at hn hlo; omega
            | succ j => exact ⟨j, rfl⟩
          simp at hlo
          have : (128:Int) ^ (j + 1) = 128 ^ j * 128 := Int.pow_succ _ _
          omega
      obtain ⟨a1, a2, a3, a4, a5, a6⟩ := ih (fun x hx => hl x (List.mem_cons_of_mem _ hx)) (n * 128 + c % 128) (i + 1) m s (by omega) (by omega) hlo' h
      refine ⟨by omega, by simp; omega, a3, a4, ?_, a6⟩
      rw [a5, hd_step n c i c3 hc.2, List.append_assoc]
      congr 1
      obtain ⟨j, hj⟩ : ∃ j, s = i + 1 + j := ⟨s - (i + 1), by omega⟩
      subst hj
      have e1 : i + 1 + j - (i + 1) = j := by omega
      have e2 : i + 1 + j - i = j + 1 := by omega
      rw [e1, e2]; rfl
    · rw [if_neg c3] at h
      by_cases c4 : most < n * 128 + c % 128
      · rw [if_pos c4] at h; simp at h
      rw [if_neg c4] at h
      simp only [Prod.mk.injEq, and_true] at h
      obtain ⟨rfl, rfl⟩ := h
      have e : c % 128 = c := by omega
      rw [e] at c4 ⊢
      have hi9 : i + 1 ≤ 9 := by
        rcases hlo with rfl | hlo
        · omega
        · rcases Nat.lt_or_ge i 9 with h | h
          · omega
          · exfalso
            have := pow_ge (i - 1 - 8)
            rw [show 8 + (i - 1 - 8) = i - 1 by omega] at this
            omega
      have hu : lenN (n * 128 + c) = i + 1 := by
        refine lenN_uniq _ (i + 1) (by omega) hi9 (by omega) ?_
        rcases hlo with rfl | hlo
        · left; rfl
        · right
          simp
          cases i with
          | zero => simp at hn hlo; omega
          | succ j =>
            simp at hlo
            have : (128:Int) ^ (j + 1) = 128 ^ j * 128 := Int.pow_succ _ _
            omega
      refine ⟨by omega, by simp, by omega, by omega, ?_, hu⟩
      rw [hu, dg_split c i (by omega) (by omega) n]
      have e3 : i + 1 - i = 1 := by omega
      rw [e3]; rfl

/-- Bytes that are read as a number are those in which it is put. -/
theorem numG_one (most : Int) (h1 : most ≤ 9223372036854775807) (l : List Int) (hl : Byt l) (m : Int) (s : Nat) (h : numG most 0 0 l = (m, s, 0)) :
    1 ≤ s ∧ s ≤ l.length ∧ 0 ≤ m ∧ m ≤ most ∧ dg m (lenN m) = l.take s := by
  obtain ⟨a, b, c, d, e, _⟩ := numG_inv most h1 l hl 0 0 m s (by omega) (by simp) (.inl rfl) h
  refine ⟨by omega, by omega, c, d, ?_⟩
  rw [e]; simp [hd, dg]

theorem numG_code (most : Int) (l : List Int) : ∀ n i, ((numG most n i l).2.2 = 0 ∧ (numG most n i l).2.1 ≤ i + l.length ∧ i < (numG most n i l).2.1) ∨ (numG most n i l = (0, 0, 5) ∨ numG most n i l = (0, 0, 2) ∨ numG most n i l = (0, 0, 6)) := by
  induction l with
  | nil => intro n i; right; right; right; rfl
  | cons c r ih =>
    intro n i
    unfold numG
    split
    · right; left; rfl
    split
    · right; right; left; rfl
    split
    · rcases ih (n * 128 + c % 128) (i + 1) with h | h
      · left; simp; omega
      · right; exact h
    split
    · right; right; left; rfl
    · left; simp

/-- A word's k lowest bytes, the highest first. -/
def wd (n : Int) : Nat → List Int
  | 0 => []
  | k + 1 => (n / 256 ^ k % 256) :: wd n k

theorem wd_length (n : Int) (k : Nat) : (wd n k).length = k := by
  induction k with
  | zero => rfl
  | succ k ih => simp [wd, ih]

theorem wd_byt (n : Int) (k : Nat) : Byt (wd n k) := by
  induction k with
  | zero => intro x hx; cases hx
  | succ k ih =>
    intro x hx
    rcases List.mem_cons.1 hx with rfl | hx
    · omega
    · exact ih x hx

/-- The number in bytes, the highest first. -/
def wfold (n : Int) (l : List Int) : Int := l.foldl (fun a c => a * 256 + c) n

theorem wfold_wd (n : Int) (k : Nat) : wfold (n / 256 ^ k) (wd n k) = n := by
  induction k with
  | zero => simp [wfold, wd]
  | succ k ih =>
    have e : n / 256 ^ (k + 1) = n / 256 ^ k / 256 := by
      rw [Int.pow_succ, dd _ _ _ (by have : (0:Int) < 256 ^ k := Int.pow_pos (by omega); omega)]
    show wfold (n / 256 ^ (k + 1) * 256 + n / 256 ^ k % 256) (wd n k) = n
    rw [e]
    have : n / 256 ^ k / 256 * 256 + n / 256 ^ k % 256 = n / 256 ^ k := by omega
    rw [this, ih]

theorem wfold_word (n : Int) (h0 : 0 ≤ n) (h1 : n ≤ 18446744073709551615) : wfold 0 (wd n 8) = n := by
  have := wfold_wd n 8
  rwa [Int.ediv_eq_zero_of_lt h0 (by simp; omega)] at this

theorem wfold_bd (l : List Int) (hl : Byt l) : ∀ n k, 0 ≤ n → n < 256 ^ k → 0 ≤ wfold n l ∧ wfold n l < 256 ^ (k + l.length) := by
  induction l with
  | nil => intro n k h0 h1; exact ⟨h0, h1⟩
  | cons c r ih =>
    intro n k h0 h1
    have hc := hl c (List.mem_cons_self ..)
    have hp : (256:Int) ^ (k + 1) = 256 ^ k * 256 := Int.pow_succ _ _
    have := ih (fun x hx => hl x (List.mem_cons_of_mem _ hx)) (n * 256 + c) (k + 1) (by omega) (by omega)
    simp only [List.length_cons]
    rw [show k + (r.length + 1) = k + 1 + r.length by omega]
    exact this

/-- All numbers, one behind the other. -/
def puts : List Int → List Int
  | [] => []
  | n :: r => dg n (lenN n) ++ puts r

theorem puts_append (a b : List Int) : puts (a ++ b) = puts a ++ puts b := by
  induction a with
  | nil => rfl
  | cons n r ih => simp [puts, ih]

theorem puts_byt (l : List Int) : Byt (puts l) := by
  induction l with
  | nil => intro x hx; cases hx
  | cons n r ih => exact (dg_byt _ _).append ih

theorem puts_length (l : List Int) : (puts l).length ≤ 9 * l.length := by
  induction l with
  | nil => simp [puts]
  | cons n r ih => simp [puts, dg_length]; have := lenN_bd n; omega
end Go.Proofs.YtkgecpplgjfhiaaGreatDoor.Ite

namespace Go.Proofs.YtkgecpplgjfhiaaGreatDoor.Ite
open Go.RowKit

/-- Bytes, and numbers, as values. -/
def U (l : List Int) : List Value := l.map (Value.int .u8)
def I (l : List Int) : List Value := l.map (Value.int .i64)
theorem U_length (l : List Int) : (U l).length = l.length := by simp [U]
theorem I_length (l : List Int) : (I l).length = l.length := by simp [I]
theorem U_append (a b : List Int) : U (a ++ b) = U a ++ U b := by simp [U]
theorem U_at {l : List Int} {k : Nat} {x : Int} (h : l[k]? = some x) : (U l)[k]? = some (.int .u8 x) := by simp [U, h]
theorem I_at {l : List Int} {k : Nat} {x : Int} (h : l[k]? = some x) : (I l)[k]? = some (.int .i64 x) := by simp [I, h]

/-- A value is, in w's memory, a slice of these values, all in block b. -/
def SlAt (w : World) (b : Nat) (v : Value) (xs : List Value) : Prop :=
  (v = .slice none 0 0 ∧ xs = []) ∨ ∃ a cap, v = .slice (some a) xs.length cap ∧ xs.length ≤ cap ∧ cap ≤ maxLen ∧
    (xs = [] ∨ ∃ off, a = ⟨b, off, none⟩ ∧ b < w.heap.size ∧ ∀ k u, xs[k]? = some u → w.cell? ⟨b, off + k, none⟩ = some u)

theorem SlAt.nil (w : World) (b : Nat) : SlAt w b (.slice none 0 0) [] := .inl ⟨rfl, rfl⟩

theorem SlAt.keeps {w w' : World} {b : Nat} {v : Value} {xs : List Value} (h : SlAt w b v xs) (hs : w.heap.size ≤ w'.heap.size) (hb : b < w.heap.size → w'.heap[b]? = w.heap[b]?) : SlAt w' b v xs := by
  rcases h with h | ⟨a, cap, h1, h2, h3, h4⟩
  · exact .inl h
  · refine .inr ⟨a, cap, h1, h2, h3, ?_⟩
    rcases h4 with h4 | ⟨off, h5, h6, h7⟩
    · exact .inl h4
    · refine .inr ⟨off, h5, Nat.lt_of_lt_of_le h6 hs, fun k u hk => ?_⟩
      rw [World.cell?_of_block (w := w) (hb h6)]
      exact h7 k u hk

theorem SlAt.stays {w w' : World} {b : Nat} {v : Value} {xs : List Value} (h : SlAt w b v xs) (hb : Below w.heap.size w w') : SlAt w' b v xs :=
  h.keeps hb.size (hb.block b)

theorem SlAt.below {B : Nat} {w w' : World} {b : Nat} {v : Value} {xs : List Value} (h : SlAt w b v xs) (hb : Below B w w') (hlt : b < B) : SlAt w' b v xs :=
  h.keeps hb.size (fun _ => hb.block b hlt)

theorem SlAt.grown {w w' : World} {b g : Nat} {v : Value} {xs : List Value} (h : SlAt w b v xs) (hg : w.grownBy w' (some g)) (hne : b ≠ g) : SlAt w' b v xs :=
  h.keeps hg.size (fun hlt => hg.block b hlt (by simpa using hne))

/-- What a value is. -/
theorem SlAt.form {w : World} {b : Nat} {v : Value} {xs : List Value} (h : SlAt w b v xs) : ∃ p cap, v = .slice p xs.length cap ∧ xs.length ≤ cap ∧ cap ≤ maxLen := by
  rcases h with ⟨rfl, rfl⟩ | ⟨a, cap, h1, h2, h3, _⟩
  · exact ⟨none, 0, rfl, by simp, by unfold maxLen; omega⟩
  · exact ⟨some a, cap, h1, h2, h3⟩

/-- A value with an element. -/
theorem SlAt.elem {w : World} {b : Nat} {v : Value} {xs : List Value} (h : SlAt w b v xs) (hne : 0 < xs.length) :
    ∃ off cap, v = .slice (some ⟨b, off, none⟩) xs.length cap ∧ xs.length ≤ cap ∧ cap ≤ maxLen ∧ b < w.heap.size ∧ ∀ k u, xs[k]? = some u → w.cell? ⟨b, off + k, none⟩ = some u := by
  rcases h with ⟨_, rfl⟩ | ⟨a, cap, h1, h2, h3, h4⟩
  · simp at hne
  · rcases h4 with rfl | ⟨off, h5, h6, h7⟩
    · simp at hne
    · subst h5; exact ⟨off, cap, h1, h2, h3, h6, h7⟩

/-- A value, element by element. -/
theorem SlAt.each {w : World} {b : Nat} {v : Value} {xs : List Value} (h : SlAt w b v xs) : ∃ p cap, v = .slice p xs.length cap ∧ xs.length ≤ cap ∧ cap ≤ maxLen ∧
    ∀ k u, xs[k]? = some u → ∃ off, p = some ⟨b, off, none⟩ ∧ b < w.heap.size ∧ w.cell? ⟨b, off + k, none⟩ = some u := by
  rcases h with ⟨rfl, rfl⟩ | ⟨a, cap, h1, h2, h3, h4⟩
  · exact ⟨none, 0, rfl, by simp, by unfold maxLen; omega, fun k u hk => by simp at hk⟩
  · refine ⟨some a, cap, h1, h2, h3, fun k u hk => ?_⟩
    rcases h4 with rfl | ⟨off, h5, h6, h7⟩
    · simp at hk
    · subst h5; exact ⟨off, rfl, h6, h7 k u hk⟩

theorem add_zero_off (g j : Nat) : (⟨g, 0, none⟩ : Addr).add j = ⟨g, j, none⟩ := by unfold Addr.add; split <;> simp_all
theorem add_off (g o j : Nat) : (⟨g, o, none⟩ : Addr).add j = ⟨g, o + j, none⟩ := by unfold Addr.add; split <;> simp_all

/-- A row of the call's own is such a slice. -/
theorem own_sl {w : World} {B : Nat} {e : TypeId} {v : Value} {n : Nat} {xs : List Value} (h : w.ownsRow B e 1 v n xs) : ∃ b, B ≤ b ∧ SlAt w b v xs := by
  have hl : xs.length = n := by have := h.1; omega
  rcases h.2 with ⟨rfl, rfl⟩ | ⟨g, cap, cur, rfl, hb, hg, h1, h2, _⟩
  · exact ⟨B, Nat.le_refl _, .inl ⟨rfl, List.eq_nil_of_length_eq_zero hl⟩⟩
  · refine ⟨g, hb, .inr ⟨_, cap, by rw [hl], by omega, h2, .inr ⟨0, rfl, (Array.getElem?_eq_some_iff.1 hg).1, fun k u hk => ?_⟩⟩⟩
    have := h.cells (g := g) rfl k u hk
    rw [add_zero_off] at this
    simpa using this

/-- Where there are cells, they lie in a block of bytes. -/
def T5 (w : World) (b : Nat) (xs : List Value) : Prop := xs = [] ∨ ∃ cur fr, w.heap[b]? = some (.cells cur 5 fr)
theorem T5.keeps {w w' : World} {b : Nat} {xs : List Value} (h : T5 w b xs) (hb : b < w.heap.size → w'.heap[b]? = w.heap[b]?) : T5 w' b xs := by
  rcases h with h | ⟨cur, fr, h⟩
  · exact .inl h
  · exact .inr ⟨cur, fr, by rw [hb (Array.getElem?_eq_some_iff.1 h).1]; exact h⟩
theorem T5.grown {w w' : World} {b g : Nat} {xs : List Value} (h : T5 w b xs) (hg : w.grownBy w' (some g)) (hne : b ≠ g) : T5 w' b xs :=
  h.keeps (fun hlt => hg.block b hlt (by simpa using hne))
theorem own_sl5 {w : World} {B : Nat} {v : Value} {n : Nat} {xs : List Value} (h : w.ownsRow B 5 1 v n xs) : ∃ b, B ≤ b ∧ SlAt w b v xs ∧ T5 w b xs := by
  have hl : xs.length = n := by have := h.1; omega
  obtain ⟨b, hb, hs⟩ := own_sl h
  rcases h.2 with ⟨rfl, rfl⟩ | ⟨g, cap, cur, rfl, hb, hg, h1, h2, _⟩
  · exact ⟨b, hb, hs, .inl (List.eq_nil_of_length_eq_zero hl)⟩
  · rcases hs with ⟨e, _⟩ | ⟨a, cap', h3, h4, h5, h6⟩
    · cases e
    · rcases h6 with h6 | ⟨off, h7, h8⟩
      · exact ⟨g, hb, .inr ⟨a, cap', h3, h4, h5, .inl h6⟩, .inl h6⟩
      · subst h7
        simp at h3
        obtain ⟨⟨rfl, rfl⟩, _⟩ := h3
        exact ⟨g, hb, .inr ⟨_, cap', by simp; omega, h4, h5, .inr ⟨_, rfl, h8⟩⟩, .inr ⟨cur, _, hg⟩⟩

theorem own_n {w : World} {B : Nat} {e : TypeId} {v : Value} {n : Nat} {xs : List Value} (h : w.ownsRow B e 1 v n xs) : xs.length = n := by have := h.1; omega



/-- An owned row, seen from a lower block on. -/
theorem own_lower {w : World} {B B' : Nat} {e : TypeId} {v : Value} {n : Nat} {xs : List Value} (h : w.ownsRow B e 1 v n xs) (hb : B' ≤ B) : w.ownsRow B' e 1 v n xs := by
  refine ⟨h.1, ?_⟩
  rcases h.2 with h | ⟨g, cap, cur, h1, h2, h3⟩
  · exact .inl h
  · exact .inr ⟨g, cap, cur, h1, by omega, h3⟩

theorem Tryz.info5m : (Tryz.prog.info? 5).map (fun i => (i.zero, i.size, i.bytes)) = some (some (.int .u8 0), 1, 1) := by kernel_rfl
theorem Tryz.info5 : ∃ i, Tryz.prog.info? 5 = some i ∧ i.zero = some (.int .u8 0) ∧ i.size = 1 ∧ i.bytes = 1 := by
  obtain ⟨i, h1, h2⟩ := Option.map_eq_some_iff.1 Tryz.info5m
  simp only [Prod.mk.injEq] at h2
  exact ⟨i, h1, h2.1, h2.2.1, h2.2.2⟩

theorem U_one (l : List Int) : ∀ u ∈ U l, u.oneCell' = true := by
  intro u hu
  obtain ⟨x, _, rfl⟩ := List.mem_map.1 hu
  rfl

/-- An append of bytes to bytes of the call's own. -/
theorem wpList_append_sl {ops : Array Oper} {rest : List Oper} {o : Oper} {a : Act} {Q : Exit → Act → World → Prop} (w : World) (hgd : o.guard = none) (s x : Operand)
    (ho : o.op = .call { callee := .builtin .append, args := #[s, x], argTypes := #[23, 23] }) (B : Nat) (v : Value) (n : Nat) (xs : List Value) (hs : a.eval s = v) (hown : w.ownsRow B 5 1 v n xs)
    (b : Nat) (y : Value) (ys : List Int) (hx : a.eval x = y) (hsl : SlAt w b y (U ys)) (hbd : n + ys.length ≤ 30000) (hB : B ≤ w.heap.size)
    (h : ∀ v' w', w'.ownsRow B 5 1 v' (n + ys.length) (xs ++ U ys) → w.grownBy w' v.ownBlock → wpList Tryz.prog ops Q rest (a.put o.dst v') w') : wpList Tryz.prog ops Q (o :: rest) a w := by
  obtain ⟨i, hi, hz0, hz1, hz2⟩ := Tryz.info5
  rcases hsl with ⟨rfl, hn⟩ | ⟨ad, cap, rfl, h2, h3, h4⟩
  · have hy : ys = [] := by simpa [U] using hn
    subst hy
    refine wpList_append_own_none hgd s x 23 ho B 5 i 1 Tryz.underlying23 hi v n xs hs hown hx ?_
    exact h v w (by simpa [U] using hown) ⟨rfl, rfl, rfl, Nat.le_refl _, fun _ _ _ => rfl⟩
  · refine wpList_append_own w hgd s x 23 ho B 5 i (.int .u8 0) 1 1 Tryz.underlying23 hi hz0 hz1 hz2 rfl (by decide) v n xs hs hown ad ys.length cap (U ys) (by rw [hx, U_length]) (by rw [U_length, Nat.mul_one]) ?_ (U_one ys) (by unfold maxLen; omega) (by omega) hB ?_
    · intro j u hj
      rcases h4 with h4 | ⟨off, rfl, _, h7⟩
      · rw [h4] at hj; simp at hj
      · rw [add_off]; exact h7 j u hj
    · intro v' w' k1 k2 _
      exact h v' w' k1 k2
end Go.Proofs.YtkgecpplgjfhiaaGreatDoor.Ite
