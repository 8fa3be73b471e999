/-
  Rows of numbers and keys in memory at this seat, and what an append of such a row does.
-/
import Derived.KernelRfl
import Derived.Test.YtkgecpplgjfhiaaGreatDoorChecked
import Derived.WalkKit
import Derived.WalkSpells
import Derived.WalkLawsBesides
import Derived.Handy
import Derived.Deep.LoopGhost
import Derived.Deep.QuietTactic
import Derived.BigQuiet
import Derived.Deep.DeepFit
import Derived.Laws.AppendOwnNone
namespace Go.Proofs.YtkgecpplgjfhiaaGreatDoor.Blo

/-- A number folded. -/
def fold (h : Nat) : Nat := h ^^^ (h / 8589934592)
theorem fold_shift (h : Nat) : fold h = h ^^^ (h >>> 33) := by unfold fold; rw [Nat.shiftRight_eq_div_pow]
theorem fold_lt {h : Nat} (hh : h < 18446744073709551616) : fold h < 18446744073709551616 := by
  unfold fold
  have h2 : h / 8589934592 < 2 ^ 64 := by have := Nat.div_le_self h 8589934592; omega
  exact Nat.xor_lt_two_pow (n := 64) (by omega) h2
theorem fold_fold {h : Nat} (hh : h < 18446744073709551616) : fold (fold h) = h := by
  rw [fold_shift, fold_shift]
  apply Nat.eq_of_testBit_eq
  intro i
  simp only [Nat.testBit_xor, Nat.testBit_shiftRight]
  have h66 : h.testBit (33 + (33 + i)) = false := Nat.testBit_lt_two_pow (Nat.lt_of_lt_of_le hh (by
    have : (2:Nat) ^ 64 ≤ 2 ^ (33 + (33 + i)) := Nat.pow_le_pow_right (by omega) (by omega)
    omega))
  rw [h66]
  cases h.testBit i <;> cases h.testBit (33 + i) <;> rfl
theorem fold_inj {a b : Nat} (ha : a < 18446744073709551616) (hb : b < 18446744073709551616) (h : fold a = fold b) : a = b := by
  rw [← fold_fold ha, ← fold_fold hb, h]

/-- A number times another, in numbers of 64 bits. -/
def mul (k h : Nat) : Nat := h * k % 18446744073709551616
theorem mul_lt (k h : Nat) : mul k h < 18446744073709551616 := Nat.mod_lt _ (by omega)
theorem mul_back {k j h : Nat} (hk : k * j % 18446744073709551616 = 1) (hh : h < 18446744073709551616) : mul j (mul k h) = h := by
  unfold mul
  rw [Nat.mod_mul_mod, Nat.mul_assoc, ← Nat.mul_mod_mod, hk, Nat.mul_one, Nat.mod_eq_of_lt hh]
theorem mul_inj {k j a b : Nat} (hk : k * j % 18446744073709551616 = 1) (ha : a < 18446744073709551616) (hb : b < 18446744073709551616) (h : mul k a = mul k b) : a = b := by
  rw [← mul_back hk ha, ← mul_back hk hb, h]

/-- A number stirred. -/
def mix (h : Nat) : Nat := fold (mul 14181476777654086739 (fold (mul 18397679294719823053 (fold h))))
theorem mix_lt (h : Nat) : mix h < 18446744073709551616 := fold_lt (mul_lt _ _)
/-- Numbers that are unlike stay unlike. -/
theorem mix_inj {a b : Nat} (ha : a < 18446744073709551616) (hb : b < 18446744073709551616) (h : mix a = mix b) : a = b := by
  unfold mix at h
  have h1 := fold_inj (mul_lt _ _) (mul_lt _ _) h
  have h2 := mul_inj (k := 14181476777654086739) (j := 11291846944257947611) (by decide) (fold_lt (mul_lt _ _)) (fold_lt (mul_lt _ _)) h1
  have h3 := fold_inj (mul_lt _ _) (mul_lt _ _) h2
  have h4 := mul_inj (k := 18397679294719823053) (j := 5725274745694666757) (by decide) (fold_lt ha) (fold_lt hb) h3
  exact fold_inj ha hb h4
theorem mix_eq {a b : Nat} (ha : a < 18446744073709551616) (hb : b < 18446744073709551616) : (mix a = mix b) ↔ a = b := ⟨mix_inj ha hb, fun h => by rw [h]⟩

/-- One byte more. -/
def hstep (h c : Nat) : Nat := (h ^^^ c) * 1099511628211 % 18446744073709551616
/-- The hash of bytes. -/
def hash (l : List Nat) : Nat := mix (l.foldl hstep 14695981039346656037)
theorem hash_lt (l : List Nat) : hash l < 18446744073709551616 := mix_lt _
theorem hstep_lt (h c : Nat) : hstep h c < 18446744073709551616 := Nat.mod_lt _ (by omega)

/-- The three places of a hash. -/
def places (h : Nat) : List Nat := [h % 128, h / 2097152 % 128, h / 4398046511104 % 128]
theorem places_lt {h p : Nat} (hp : p ∈ places h) : p < 128 := by
  simp [places] at hp
  omega

/-- A place more, if it is not there. -/
def ins (out : List Nat) (p : Nat) : List Nat := if p ∈ out then out else out ++ [p]
theorem mem_ins {out : List Nat} {p q : Nat} : q ∈ ins out p ↔ q ∈ out ∨ q = p := by
  unfold ins
  split
  · rename_i h
    constructor
    · exact .inl
    · rintro (h2 | rfl)
      · exact h2
      · exact h
  · simp
theorem nodup_ins {out : List Nat} {p : Nat} (h : out.Nodup) : (ins out p).Nodup := by
  unfold ins
  split
  · exact h
  · rename_i hn
    rw [List.nodup_append]
    exact ⟨h, by simp, by intro a ha b hb; simp at hb; subst hb; rintro rfl; exact hn ha⟩
/-- The places of a list of places, each once. -/
def insAll (out ps : List Nat) : List Nat := ps.foldl ins out
theorem mem_insAll {ps : List Nat} : ∀ {out : List Nat} {q : Nat}, q ∈ insAll out ps ↔ q ∈ out ∨ q ∈ ps := by
  induction ps with
  | nil => intro out q; simp [insAll]
  | cons p r ih =>
    intro out q
    show q ∈ insAll (ins out p) r ↔ _
    rw [ih, mem_ins, List.mem_cons]
    constructor
    · rintro ((h | h) | h)
      · exact .inl h
      · exact .inr (.inl h)
      · exact .inr (.inr h)
    · rintro (h | h | h)
      · exact .inl (.inl h)
      · exact .inl (.inr h)
      · exact .inr h
theorem nodup_insAll {ps : List Nat} : ∀ {out : List Nat}, out.Nodup → (insAll out ps).Nodup := by
  induction ps with
  | nil => intro out h; exact h
  | cons p r ih => intro out h; exact ih (nodup_ins h)
/-- All places of hashes. -/
def allP (l : List Nat) : List Nat := l.flatMap places
theorem mem_allP {l : List Nat} {p : Nat} : p ∈ allP l ↔ ∃ h ∈ l, p ∈ places h := by simp [allP, List.mem_flatMap]
/-- All places of hashes, each once. -/
def setL (l : List Nat) : List Nat := insAll [] (allP l)
theorem mem_setL {l : List Nat} {p : Nat} : p ∈ setL l ↔ p ∈ allP l := by
  unfold setL
  rw [mem_insAll]
  simp
theorem nodup_setL (l : List Nat) : (setL l).Nodup := nodup_insAll (by simp)
theorem setL_snoc (l : List Nat) (h : Nat) : setL (l ++ [h]) = insAll (setL l) (places h) := by
  unfold setL insAll allP
  rw [List.flatMap_append, List.foldl_append]
  simp

/-- Bits as a number, and a filter as two of them. -/
def bitF (f : Nat × Nat) (k : Nat) : Bool := if k < 64 then f.1.testBit k else f.2.testBit (k - 64)
def putF (f : Nat × Nat) (p : Nat) : Nat × Nat := if p < 64 then (f.1 ||| 2 ^ p, f.2) else (f.1, f.2 ||| 2 ^ (p - 64))
theorem bit_put (f : Nat × Nat) {p : Nat} (k : Nat) : bitF (putF f p) k = (bitF f k || decide (k = p)) := by
  unfold bitF putF
  by_cases hp : p < 64
  · rw [if_pos hp]
    by_cases hk : k < 64
    · simp only [hk, if_true, Nat.testBit_or, Nat.testBit_two_pow]
      congr 1
      simp [eq_comm]
    · simp only [hk, if_false]
      have : ¬ k = p := by omega
      simp [this]
  · rw [if_neg hp]
    by_cases hk : k < 64
    · simp only [hk, if_true]
      have : ¬ k = p := by omega
      simp [this]
    · simp only [hk, if_false, Nat.testBit_or, Nat.testBit_two_pow]
      congr 1
      have : (p - 64 = k - 64) ↔ k = p := by omega
      simp [this]
/-- Two numbers of 64 bits. -/
def Wide (f : Nat × Nat) : Prop := f.1 < 18446744073709551616 ∧ f.2 < 18446744073709551616
theorem wide_put {f : Nat × Nat} (h : Wide f) {p : Nat} (hp : p < 128) : Wide (putF f p) := by
  unfold putF
  split
  · exact ⟨Nat.or_lt_two_pow (n := 64) h.1 (Nat.pow_lt_pow_right (by omega) (by assumption)), h.2⟩
  · exact ⟨h.1, Nat.or_lt_two_pow (n := 64) h.2 (Nat.pow_lt_pow_right (by omega) (by omega))⟩
theorem wide_ext {f g : Nat × Nat} (hf : Wide f) (hg : Wide g) (h : ∀ k, k < 128 → bitF f k = bitF g k) : f = g := by
  have big : ∀ {n i : Nat}, n < 18446744073709551616 → 64 ≤ i → n.testBit i = false := by
    intro n i hn hi
    refine Nat.testBit_lt_two_pow (Nat.lt_of_lt_of_le hn ?_)
    have : (2:Nat) ^ 64 ≤ 2 ^ i := Nat.pow_le_pow_right (by omega) hi
    omega
  refine Prod.ext ?_ ?_
  · apply Nat.eq_of_testBit_eq
    intro i
    by_cases hi : i < 64
    · have := h i (by omega)
      simpa [bitF, hi] using this
    · rw [big hf.1 (by omega), big hg.1 (by omega)]
  · apply Nat.eq_of_testBit_eq
    intro i
    by_cases hi : i < 64
    · have := h (i + 64) (by omega)
      have e : ¬ (i + 64 < 64) := by omega
      simpa [bitF, e] using this
    · rw [big hf.2 (by omega), big hg.2 (by omega)]
/-- Places set. -/
def putAll (f : Nat × Nat) (ps : List Nat) : Nat × Nat := ps.foldl putF f
theorem bit_putAll {ps : List Nat} : ∀ {f : Nat × Nat} {k : Nat}, bitF (putAll f ps) k = (bitF f k || decide (k ∈ ps)) := by
  induction ps with
  | nil => intro f k; simp [putAll]
  | cons p r ih =>
    intro f k
    show bitF (putAll (putF f p) r) k = _
    rw [ih, bit_put]
    by_cases h1 : k = p <;> by_cases h2 : k ∈ r <;> simp [h1, h2]
theorem wide_putAll {ps : List Nat} (hp : ∀ p ∈ ps, p < 128) : ∀ {f : Nat × Nat}, Wide f → Wide (putAll f ps) := by
  induction ps with
  | nil => intro f h; exact h
  | cons p r ih => intro f h; exact ih (fun q hq => hp q (List.mem_cons_of_mem _ hq)) (wide_put h (hp p (List.mem_cons_self ..)))
/-- A hash added. -/
def addF (f : Nat × Nat) (h : Nat) : Nat × Nat := putAll f (places h)
/-- The filter of hashes. -/
def ofF (l : List Nat) : Nat × Nat := l.foldl addF (0, 0)
theorem ofF_putAll (l : List Nat) : ofF l = putAll (0, 0) (allP l) := by
  unfold ofF putAll allP
  generalize ((0, 0) : Nat × Nat) = f
  induction l generalizing f with
  | nil => rfl
  | cons h r ih => simp only [List.foldl_cons, List.flatMap_cons, List.foldl_append]; rw [ih]; rfl
theorem bit_zero (k : Nat) : bitF (0, 0) k = false := by unfold bitF; split <;> simp
theorem bit_ofF (l : List Nat) (k : Nat) : bitF (ofF l) k = decide (k ∈ allP l) := by rw [ofF_putAll, bit_putAll, bit_zero, Bool.false_or]
theorem allP_lt {l : List Nat} {p : Nat} (h : p ∈ allP l) : p < 128 := by
  obtain ⟨x, _, hx⟩ := mem_allP.1 h
  exact places_lt hx
theorem wide_zero : Wide (0, 0) := ⟨by decide, by decide⟩
theorem wide_ofF (l : List Nat) : Wide (ofF l) := by rw [ofF_putAll]; exact wide_putAll (fun p hp => allP_lt hp) wide_zero
/-- May a hash be in it? -/
def mayF (f : Nat × Nat) (h : Nat) : Bool := (places h).all (bitF f)
theorem may_ofF (l : List Nat) (h : Nat) : mayF (ofF l) h = (places h).all fun p => decide (p ∈ setL l) := by
  unfold mayF
  congr 1
  funext p
  rw [bit_ofF]
  simp [mem_setL]
theorem may_mem {l : List Nat} {h : Nat} (hm : h ∈ l) : mayF (ofF l) h = true := by
  unfold mayF
  rw [List.all_eq_true]
  intro p hp
  rw [bit_ofF]
  exact decide_eq_true (mem_allP.2 ⟨h, hm, hp⟩)
/-- Both. -/
def bothF (f g : Nat × Nat) : Nat × Nat := (f.1 ||| g.1, f.2 ||| g.2)
theorem bit_both (f g : Nat × Nat) (k : Nat) : bitF (bothF f g) k = (bitF f k || bitF g k) := by
  unfold bitF bothF
  split <;> simp
theorem wide_both {f g : Nat × Nat} (hf : Wide f) (hg : Wide g) : Wide (bothF f g) := ⟨Nat.or_lt_two_pow (n := 64) hf.1 hg.1, Nat.or_lt_two_pow (n := 64) hf.2 hg.2⟩
theorem both_ofF (l m : List Nat) : bothF (ofF l) (ofF m) = ofF (l ++ m) := by
  refine wide_ext (wide_both (wide_ofF l) (wide_ofF m)) (wide_ofF _) (fun k _ => ?_)
  rw [bit_both, bit_ofF, bit_ofF, bit_ofF]
  have e : (k ∈ allP (l ++ m)) ↔ (k ∈ allP l ∨ k ∈ allP m) := by simp [allP]
  by_cases h1 : k ∈ allP l <;> by_cases h2 : k ∈ allP m <;> simp [e, h1, h2]
theorem both_self {f : Nat × Nat} : bothF f f = f := by simp [bothF]
/-- Order, and how often, are of no matter. -/
theorem ofF_same {l m : List Nat} (h : ∀ x, x ∈ l ↔ x ∈ m) : ofF l = ofF m := by
  refine wide_ext (wide_ofF l) (wide_ofF m) (fun k _ => ?_)
  rw [bit_ofF, bit_ofF]
  have : (k ∈ allP l) ↔ k ∈ allP m := by
    rw [mem_allP, mem_allP]
    exact ⟨fun ⟨x, h1, h2⟩ => ⟨x, (h x).1 h1, h2⟩, fun ⟨x, h1, h2⟩ => ⟨x, (h x).2 h1, h2⟩⟩
  simp [this]

/-- How many bits a number has. -/
def pop (n : Nat) : Nat := (List.range 64).countP (fun k => n.testBit k)
def countF (f : Nat × Nat) : Nat := pop f.1 + pop f.2
theorem countF_range (f : Nat × Nat) : countF f = (List.range 128).countP (bitF f) := by
  have e : List.range 128 = List.range 64 ++ (List.range 64).map (· + 64) := by decide
  have e1 : pop f.1 = (List.range 64).countP (bitF f) := by
    unfold pop
    apply List.countP_congr
    intro k hk
    have : k < 64 := by simpa using hk
    simp [bitF, this]
  have e2 : pop f.2 = (List.range 64).countP (bitF f ∘ (· + 64)) := by
    unfold pop
    apply List.countP_congr
    intro k _
    have : ¬ (k + 64 < 64) := by omega
    simp [bitF, this]
  rw [e, List.countP_append, List.countP_map, ← e1, ← e2]
  rfl
/-- Lists without a thing twice that hold the same things are of one length. -/
theorem nodup_len {a : List Nat} : ∀ {b : List Nat}, a.Nodup → b.Nodup → (∀ x, x ∈ a ↔ x ∈ b) → a.length = b.length := by
  induction a with
  | nil =>
    intro b _ _ h
    cases b with
    | nil => rfl
    | cons y r => exact absurd ((h y).2 (List.mem_cons_self ..)) (by simp)
  | cons x r ih =>
    intro b ha hb h
    have hx : x ∈ b := (h x).1 (List.mem_cons_self ..)
    rw [List.nodup_cons] at ha
    have hl := List.length_erase_of_mem hx
    have hpos : 0 < b.length := List.length_pos_of_mem hx
    have := ih (b := b.erase x) ha.2 (hb.erase x) (fun y => by
      rw [List.Nodup.mem_erase_iff hb]
      constructor
      · intro hy
        exact ⟨by rintro rfl; exact ha.1 hy, (h y).1 (List.mem_cons_of_mem _ hy)⟩
      · rintro ⟨hne, hy⟩
        rcases List.mem_cons.1 ((h y).2 hy) with rfl | hy
        · exact absurd rfl hne
        · exact hy)
    simp only [List.length_cons]
    omega
theorem count_ofF (l : List Nat) : countF (ofF l) = (setL l).length := by
  rw [countF_range, List.countP_eq_length_filter]
  refine nodup_len ((List.nodup_range).filter _) (nodup_setL l) (fun x => ?_)
  rw [List.mem_filter, List.mem_range, bit_ofF, mem_setL]
  constructor
  · rintro ⟨_, h⟩; simpa using h
  · intro h; exact ⟨allP_lt h, by simpa using h⟩
end Go.Proofs.YtkgecpplgjfhiaaGreatDoor.Blo

namespace Go.Proofs.YtkgecpplgjfhiaaGreatDoor.Blo
open Go.RowKit

/-- Numbers, places and keys as values. -/
def U (l : List Nat) : List Value := l.map fun (x : Nat) => Value.int .u64 (x : Int)
def I (l : List Nat) : List Value := l.map fun (x : Nat) => Value.int .i64 (x : Int)
def S (l : List ByteArray) : List Value := l.map Value.string
theorem U_length (l : List Nat) : (U l).length = l.length := by simp [U]
theorem I_length (l : List Nat) : (I l).length = l.length := by simp [I]
theorem S_length (l : List ByteArray) : (S l).length = l.length := by simp [S]
theorem U_append (a b : List Nat) : U (a ++ b) = U a ++ U b := by simp [U]
theorem I_append (a b : List Nat) : I (a ++ b) = I a ++ I b := by simp [I]
theorem S_append (a b : List ByteArray) : S (a ++ b) = S a ++ S b := by simp [S]
theorem U_at {l : List Nat} {k : Nat} {x : Nat} (h : l[k]? = some x) : (U l)[k]? = some (.int .u64 (x : Int)) := by simp [U, h]
theorem I_at {l : List Nat} {k : Nat} {x : Nat} (h : l[k]? = some x) : (I l)[k]? = some (.int .i64 (x : Int)) := by simp [I, h]
theorem S_at {l : List ByteArray} {k : Nat} {x : ByteArray} (h : l[k]? = some x) : (S l)[k]? = some (.string x) := by simp [S, h]
theorem U_one (l : List Nat) : ∀ u ∈ U l, u.oneCell' = true := by
  intro u hu
  obtain ⟨x, _, rfl⟩ := List.mem_map.1 hu
  rfl
theorem I_one (l : List Nat) : ∀ u ∈ I l, u.oneCell' = true := by
  intro u hu
  obtain ⟨x, _, rfl⟩ := List.mem_map.1 hu
  rfl
theorem S_one (l : List ByteArray) : ∀ u ∈ S l, u.oneCell' = true := by
  intro u hu
  obtain ⟨x, _, rfl⟩ := List.mem_map.1 hu
  rfl
theorem take_snoc {α : Type} {l : List α} {k : Nat} {x : α} (h : l[k]? = some x) : l.take (k + 1) = l.take k ++ [x] := by
  obtain ⟨hl, rfl⟩ := List.getElem?_eq_some_iff.1 h
  exact List.take_succ_eq_append_getElem hl

/-- A value is, in w's memory, a slice of these values, all in block b. -/
def SlAt (w : World) (b : Nat) (v : Value) (xs : List Value) : Prop :=
  (v = .slice none 0 0 ∧ xs = []) ∨ ∃ a cap, v = .slice (some a) xs.length cap ∧ xs.length ≤ cap ∧ cap ≤ maxLen ∧
    (xs = [] ∨ ∃ off, a = ⟨b, off, none⟩ ∧ b < w.heap.size ∧ ∀ k u, xs[k]? = some u → w.cell? ⟨b, off + k, none⟩ = some u)

theorem SlAt.nil (w : World) (b : Nat) : SlAt w b (.slice none 0 0) [] := .inl ⟨rfl, rfl⟩

theorem SlAt.keeps {w w' : World} {b : Nat} {v : Value} {xs : List Value} (h : SlAt w b v xs) (hs : w.heap.size ≤ w'.heap.size) (hb : b < w.heap.size → w'.heap[b]? = w.heap[b]?) : SlAt w' b v xs := by
  rcases h with h | ⟨a, cap, h1, h2, h3, h4⟩
  · exact .inl h
  · refine .inr ⟨a, cap, h1, h2, h3, ?_⟩
    rcases h4 with h4 | ⟨off, h5, h6, h7⟩
    · exact .inl h4
    · refine .inr ⟨off, h5, Nat.lt_of_lt_of_le h6 hs, fun k u hk => ?_⟩
      rw [World.cell?_of_block (w := w) (hb h6)]
      exact h7 k u hk

theorem SlAt.stays {w w' : World} {b : Nat} {v : Value} {xs : List Value} (h : SlAt w b v xs) (hb : Below w.heap.size w w') : SlAt w' b v xs :=
  h.keeps hb.size (hb.block b)

theorem SlAt.below {B : Nat} {w w' : World} {b : Nat} {v : Value} {xs : List Value} (h : SlAt w b v xs) (hb : Below B w w') (hlt : b < B) : SlAt w' b v xs :=
  h.keeps hb.size (fun _ => hb.block b hlt)

theorem SlAt.grown {w w' : World} {b g : Nat} {v : Value} {xs : List Value} (h : SlAt w b v xs) (hg : w.grownBy w' (some g)) (hne : b ≠ g) : SlAt w' b v xs :=
  h.keeps hg.size (fun hlt => hg.block b hlt (by simpa using hne))

/-- What a value is. -/
theorem SlAt.form {w : World} {b : Nat} {v : Value} {xs : List Value} (h : SlAt w b v xs) : ∃ p cap, v = .slice p xs.length cap ∧ xs.length ≤ cap ∧ cap ≤ maxLen := by
  rcases h with ⟨rfl, rfl⟩ | ⟨a, cap, h1, h2, h3, _⟩
  · exact ⟨none, 0, rfl, by simp, by unfold maxLen; omega⟩
  · exact ⟨some a, cap, h1, h2, h3⟩

/-- A value with an element. -/
theorem SlAt.elem {w : World} {b : Nat} {v : Value} {xs : List Value} (h : SlAt w b v xs) (hne : 0 < xs.length) :
    ∃ off cap, v = .slice (some ⟨b, off, none⟩) xs.length cap ∧ xs.length ≤ cap ∧ cap ≤ maxLen ∧ b < w.heap.size ∧ ∀ k u, xs[k]? = some u → w.cell? ⟨b, off + k, none⟩ = some u := by
  rcases h with ⟨_, rfl⟩ | ⟨a, cap, h1, h2, h3, h4⟩
  · simp at hne
  · rcases h4 with rfl | ⟨off, h5, h6, h7⟩
    · simp at hne
    · subst h5; exact ⟨off, cap, h1, h2, h3, h6, h7⟩

/-- A value, element by element. -/
theorem SlAt.each {w : World} {b : Nat} {v : Value} {xs : List Value} (h : SlAt w b v xs) : ∃ p cap, v = .slice p xs.length cap ∧ xs.length ≤ cap ∧ cap ≤ maxLen ∧
    ∀ k u, xs[k]? = some u → ∃ off, p = some ⟨b, off, none⟩ ∧ b < w.heap.size ∧ w.cell? ⟨b, off + k, none⟩ = some u := by
  rcases h with ⟨rfl, rfl⟩ | ⟨a, cap, h1, h2, h3, h4⟩
  · exact ⟨none, 0, rfl, by simp, by unfold maxLen; omega, fun k u hk => by simp at hk⟩
  · refine ⟨some a, cap, h1, h2, h3, fun k u hk => ?_⟩
    rcases h4 with rfl | ⟨off, h5, h6, h7⟩
    · simp at hk
    · subst h5; exact ⟨off, rfl, h6, h7 k u hk⟩

theorem add_zero_off (g j : Nat) : (⟨g, 0, none⟩ : Addr).add j = ⟨g, j, none⟩ := by unfold Addr.add; split <;> simp_all
theorem add_off (g o j : Nat) : (⟨g, o, none⟩ : Addr).add j = ⟨g, o + j, none⟩ := by unfold Addr.add; split <;> simp_all

/-- A row of the call's own is such a slice. -/
theorem own_sl {w : World} {B : Nat} {e : TypeId} {v : Value} {n : Nat} {xs : List Value} (h : w.ownsRow B e 1 v n xs) : ∃ b, B ≤ b ∧ SlAt w b v xs := by
  have hl : xs.length = n := by have := h.1; omega
  rcases h.2 with ⟨rfl, rfl⟩ | ⟨g, cap, cur, rfl, hb, hg, h1, h2, _⟩
  · exact ⟨B, Nat.le_refl _, .inl ⟨rfl, List.eq_nil_of_length_eq_zero hl⟩⟩
  · refine ⟨g, hb, .inr ⟨_, cap, by rw [hl], by omega, h2, .inr ⟨0, rfl, (Array.getElem?_eq_some_iff.1 hg).1, fun k u hk => ?_⟩⟩⟩
    have := h.cells (g := g) rfl k u hk
    rw [add_zero_off] at this
    simpa using this

theorem own_n {w : World} {B : Nat} {e : TypeId} {v : Value} {n : Nat} {xs : List Value} (h : w.ownsRow B e 1 v n xs) : xs.length = n := by have := h.1; omega

theorem own_below {w w' : World} {B : Nat} {e : TypeId} {v : Value} {n : Nat} {xs : List Value} (h : w.ownsRow B e 1 v n xs) (hb : Below w.heap.size w w') : w'.ownsRow B e 1 v n xs :=
  h.kept (row := none) ⟨hb.os, hb.tape, hb.output, hb.size, fun k hk _ => hb.block k hk⟩ (by cases v.ownBlock <;> simp)

/-- An owned row, seen from a lower block on. -/
theorem own_lower {w : World} {B B' : Nat} {e : TypeId} {v : Value} {n : Nat} {xs : List Value} (h : w.ownsRow B e 1 v n xs) (hb : B' ≤ B) : w.ownsRow B' e 1 v n xs := by
  refine ⟨h.1, ?_⟩
  rcases h.2 with h | ⟨g, cap, cur, h1, h2, h3⟩
  · exact .inl h
  · exact .inr ⟨g, cap, cur, h1, by omega, h3⟩

/-- What a type of elements is: its zero, its cells, its bytes. -/
def Elem (e : TypeId) (z : Value) (bytes : Nat) : Prop := ∃ i, Tryz.prog.info? e = some i ∧ i.zero = some z ∧ i.size = 1 ∧ i.bytes = bytes
theorem Elem.of {e : TypeId} {z : Value} {bytes : Nat} (h : (Tryz.prog.info? e).map (fun i => (i.zero, i.size, i.bytes)) = some (some z, 1, bytes)) : Elem e z bytes := by
  obtain ⟨i, h1, h2⟩ := Option.map_eq_some_iff.1 h
  simp only [Prod.mk.injEq] at h2
  exact ⟨i, h1, h2.1, h2.2.1, h2.2.2⟩
theorem elem22 : Elem 139 (.int .u64 0) 8 := .of (by kernel_rfl)
theorem elem3 : Elem 3 (.int .i64 0) 8 := .of (by kernel_rfl)
theorem elem9 : Elem 9 (.string ⟨#[]⟩) 16 := .of (by kernel_rfl)

/-- An append of values to values of the call's own. -/
theorem wpList_append_gen {t e : TypeId} {z : Value} {bytes : Nat} (ht : Tryz.prog.underlying t = some (.slice e)) (he : Elem e z bytes) (hz1 : z.cells.size = 1) (hb16 : bytes ≤ 16) {ops : Array Oper} {rest : List Oper} {o : Oper} {a : Act} {Q : Exit → Act → World → Prop} (w : World) (hgd : o.guard = none) (s x : Operand)
    (ho : o.op = .call { callee := .builtin .append, args := #[s, x], argTypes := #[t, t] }) (B : Nat) (v : Value) (n : Nat) (xs : List Value) (hs : a.eval s = v) (hown : w.ownsRow B e 1 v n xs)
    (b : Nat) (y : Value) (ys : List Value) (hy1 : ∀ u ∈ ys, u.oneCell' = true) (hx : a.eval x = y) (hsl : SlAt w b y ys) (hbd : n + ys.length ≤ 5000) (hB : B ≤ w.heap.size)
    (h : ∀ v' w', w'.ownsRow B e 1 v' (n + ys.length) (xs ++ ys) → w.grownBy w' v.ownBlock → wpList Tryz.prog ops Q rest (a.put o.dst v') w') : wpList Tryz.prog ops Q (o :: rest) a w := by
  obtain ⟨i, hi, hz0, hsz, hz2⟩ := he
  rcases hsl with ⟨rfl, hn⟩ | ⟨ad, cap, rfl, h2, h3, h4⟩
  · subst hn
    refine wpList_append_own_none hgd s x t ho B e i 1 ht hi v n xs hs hown hx ?_
    exact h v w (by simpa using hown) ⟨rfl, rfl, rfl, Nat.le_refl _, fun _ _ _ => rfl⟩
  · refine wpList_append_own w hgd s x t ho B e i z 1 bytes ht hi hz0 hsz hz2 hz1 (by decide) v n xs hs hown ad ys.length cap ys hx (by rw [Nat.mul_one]) ?_ hy1 (by unfold maxLen; omega) ?_ hB ?_
    · intro j u hj
      rcases h4 with h4 | ⟨off, rfl, _, h7⟩
      · rw [h4] at hj; simp at hj
      · rw [add_off]; exact h7 j u hj
    · exact Nat.le_trans (Nat.mul_le_mul hbd hb16) (by decide)
    · intro v' w' k1 k2 _
      exact h v' w' k1 k2

/-- One value, laid anew. -/
theorem sl_one_new (w : World) (e : TypeId) (u : Value) : SlAt (w.alloc (.cells #[u] e)) w.heap.size (.slice (some ⟨w.heap.size, 0, none⟩) 1 1) [u] := by
  refine .inr ⟨_, 1, rfl, by simp, by unfold maxLen; omega, .inr ⟨0, rfl, by simp, fun k u' hk => ?_⟩⟩
  rcases k with _ | k
  · simp at hk; subst hk; rw [World.cell?_alloc_at _ _ _ _ rfl]; rfl
  · simp at hk
theorem drew_below (w : World) (n B : Nat) : Below B w (w.drewN n) := ⟨rfl, rfl, rfl, Nat.le_refl _, fun _ _ => rfl⟩
theorem hid2 {P : Prop} (h : P) : Hid P := h
theorem lt_of_block {w : World} {g : Nat} {o : Obj} (h : w.heap[g]? = some o) : g < w.heap.size := (Array.getElem?_eq_some_iff.1 h).1
theorem heap_stays {w w' : World} {g : Nat} {o : Obj} (h : w.heap[g]? = some o) (hb : Below w.heap.size w w') : w'.heap[g]? = some o := by rw [hb.block g (lt_of_block h)]; exact h
end Go.Proofs.YtkgecpplgjfhiaaGreatDoor.Blo
