/-
  Hashes and filters: the plain mathematics of layer 7. A number folded twice is it again; odd factors can be taken back; a filter is a set of places.
-/
import Derived.KernelRfl
namespace Go.Proofs.YtgmghekgelmmcaaDoor.Blo

/-- A number folded. -/
def fold (h : Nat) : Nat := h ^^^ (h / 8589934592)
theorem fold_shift (h : Nat) : fold h = h ^^^ (h >>> 33) := by unfold fold; rw [Nat.shiftRight_eq_div_pow]
theorem fold_lt {h : Nat} (hh : h < 18446744073709551616) : fold h < 18446744073709551616 := by
  unfold fold
  have h2 : h / 8589934592 < 2 ^ 64 := by have := Nat.div_le_self h 8589934592; omega
  exact Nat.xor_lt_two_pow (n := 64) (by omega) h2
theorem fold_fold {h : Nat} (hh : h < 18446744073709551616) : fold (fold h) = h := by
  rw [fold_shift, fold_shift]
  apply Nat.eq_of_testBit_eq
  intro i
  simp only [Nat.testBit_xor, Nat.testBit_shiftRight]
  have h66 : h.testBit (33 + (33 + i)) = false := Nat.testBit_lt_two_pow (Nat.lt_of_lt_of_le hh (by
    have : (2:Nat) ^ 64 ≤ 2 ^ (33 + (33 + i)) := Nat.pow_le_pow_right (by omega) (by omega)
    omega))
  rw [h66]
  cases h.testBit i <;> cases h.testBit (33 + i) <;> rfl
theorem fold_inj {a b : Nat} (ha : a < 18446744073709551616) (hb : b < 18446744073709551616) (h : fold a = fold b) : a = b := by
  rw [← fold_fold ha, ← fold_fold hb, h]

/-- A number times another, in numbers of 64 bits. -/
def mul (k h : Nat) : Nat := h * k % 18446744073709551616
theorem mul_lt (k h : Nat) : mul k h < 18446744073709551616 := Nat.mod_lt _ (by omega)
theorem mul_back {k j h : Nat} (hk : k * j % 18446744073709551616 = 1) (hh : h < 18446744073709551616) : mul j (mul k h) = h := by
  unfold mul
  rw [Nat.mod_mul_mod, Nat.mul_assoc, ← Nat.mul_mod_mod, hk, Nat.mul_one, Nat.mod_eq_of_lt hh]
theorem mul_inj {k j a b : Nat} (hk : k * j % 18446744073709551616 = 1) (ha : a < 18446744073709551616) (hb : b < 18446744073709551616) (h : mul k a = mul k b) : a = b := by
  rw [← mul_back hk ha, ← mul_back hk hb, h]

/-- A number stirred. -/
def mix (h : Nat) : Nat := fold (mul 14181476777654086739 (fold (mul 18397679294719823053 (fold h))))
theorem mix_lt (h : Nat) : mix h < 18446744073709551616 := fold_lt (mul_lt _ _)
/-- Numbers that are unlike stay unlike. -/
theorem mix_inj {a b : Nat} (ha : a < 18446744073709551616) (hb : b < 18446744073709551616) (h : mix a = mix b) : a = b := by
  unfold mix at h
  have h1 := fold_inj (mul_lt _ _) (mul_lt _ _) h
  have h2 := mul_inj (k := 14181476777654086739) (j := 11291846944257947611) (by decide) (fold_lt (mul_lt _ _)) (fold_lt (mul_lt _ _)) h1
  have h3 := fold_inj (mul_lt _ _) (mul_lt _ _) h2
  have h4 := mul_inj (k := 18397679294719823053) (j := 5725274745694666757) (by decide) (fold_lt ha) (fold_lt hb) h3
  exact fold_inj ha hb h4
theorem mix_eq {a b : Nat} (ha : a < 18446744073709551616) (hb : b < 18446744073709551616) : (mix a = mix b) ↔ a = b := ⟨mix_inj ha hb, fun h => by rw [h]⟩

/-- One byte more. -/
def hstep (h c : Nat) : Nat := (h ^^^ c) * 1099511628211 % 18446744073709551616
/-- The hash of bytes. -/
def hash (l : List Nat) : Nat := mix (l.foldl hstep 14695981039346656037)
theorem hash_lt (l : List Nat) : hash l < 18446744073709551616 := mix_lt _
theorem hstep_lt (h c : Nat) : hstep h c < 18446744073709551616 := Nat.mod_lt _ (by omega)

/-- The three places of a hash. -/
def places (h : Nat) : List Nat := [h % 128, h / 2097152 % 128, h / 4398046511104 % 128]
theorem places_lt {h p : Nat} (hp : p ∈ places h) : p < 128 := by
  simp [places] at hp
  omega

/-- A place more, if it is not there. -/
def ins (out : List Nat) (p : Nat) : List Nat := if p ∈ out then out else out ++ [p]
theorem mem_ins {out : List Nat} {p q : Nat} : q ∈ ins out p ↔ q ∈ out ∨ q = p := by
  unfold ins
  split
  · rename_i h
    constructor
    · exact .inl
    · rintro (h2 | rfl)
      · exact h2
      · exact h
  · simp
theorem nodup_ins {out : List Nat} {p : Nat} (h : out.Nodup) : (ins out p).Nodup := by
  unfold ins
  split
  · exact h
  · rename_i hn
    rw [List.nodup_append]
    exact ⟨h, by simp, by intro a ha b hb; simp at hb; subst hb; rintro rfl; exact hn ha⟩
/-- The places of a list of places, each once. -/
def insAll (out ps : List Nat) : List Nat := ps.foldl ins out
theorem mem_insAll {ps : List Nat} : ∀ {out : List Nat} {q : Nat}, q ∈ insAll out ps ↔ q ∈ out ∨ q ∈ ps := by
  induction ps with
  | nil => intro out q; simp [insAll]
  | cons p r ih =>
    intro out q
    show q ∈ insAll (ins out p) r ↔ _
    rw [ih, mem_ins, List.mem_cons]
    constructor
    · rintro ((h | h) | h)
      · exact .inl h
      · exact .inr (.inl h)
      · exact .inr (.inr h)
    · rintro (h | h | h)
      · exact .inl (.inl h)
      · exact .inl (.inr h)
      · exact .inr h
theorem nodup_insAll {ps : List Nat} : ∀ {out : List Nat}, out.Nodup → (insAll out ps).Nodup := by
  induction ps with
  | nil => intro out h; exact h
  | cons p r ih => intro out h; exact ih (nodup_ins h)
/-- All places of hashes. -/
def allP (l : List Nat) : List Nat := l.flatMap places
theorem mem_allP {l : List Nat} {p : Nat} : p ∈ allP l ↔ ∃ h ∈ l, p ∈ places h := by simp [allP, List.mem_flatMap]
/-- All places of hashes, each once. -/
def setL (l : List Nat) : List Nat := insAll [] (allP l)
theorem mem_setL {l : List Nat} {p : Nat} : p ∈ setL l ↔ p ∈ allP l := by
  unfold setL
  rw [mem_insAll]
  simp
theorem nodup_setL (l : List Nat) : (setL l).Nodup := nodup_insAll (by simp)
theorem setL_snoc (l : List Nat) (h : Nat) : setL (l ++ [h]) = insAll (setL l) (places h) := by
  unfold setL insAll allP
  rw [List.flatMap_append, List.foldl_append]
  simp

/-- Bits as a number, and a filter as two of them. -/
def bitF (f : Nat × Nat) (k : Nat) : Bool := if k < 64 then f.1.testBit k else f.2.testBit (k - 64)
def putF (f : Nat × Nat) (p : Nat) : Nat × Nat := if p < 64 then (f.1 ||| 2 ^ p, f.2) else (f.1, f.2 ||| 2 ^ (p - 64))
theorem bit_put (f : Nat × Nat) {p : Nat} (k : Nat) : bitF (putF f p) k = (bitF f k || decide (k = p)) := by
  unfold bitF putF
  by_cases hp : p < 64
  · rw [if_pos hp]
    by_cases hk : k < 64
    · simp only [hk, if_true, Nat.testBit_or, Nat.testBit_two_pow]
      congr 1
      simp [eq_comm]
    · simp only [hk, if_false]
      have : ¬ k = p := by omega
      simp [this]
  · rw [if_neg hp]
    by_cases hk : k < 64
    · simp only [hk, if_true]
      have : ¬ k = p := by omega
      simp [this]
    · simp only [hk, if_false, Nat.testBit_or, Nat.testBit_two_pow]
      congr 1
      have : (p - 64 = k - 64) ↔ k = p := by omega
      simp [this]
/-- Two numbers of 64 bits. -/
def Wide (f : Nat × Nat) : Prop := f.1 < 18446744073709551616 ∧ f.2 < 18446744073709551616
theorem wide_put {f : Nat × Nat} (h : Wide f) {p : Nat} (hp : p < 128) : Wide (putF f p) := by
  unfold putF
  split
  · exact ⟨Nat.or_lt_two_pow (n := 64) h.1 (Nat.pow_lt_pow_right (by omega) (by assumption)), h.2⟩
  · exact ⟨h.1, Nat.or_lt_two_pow (n := 64) h.2 (Nat.pow_lt_pow_right (by omega) (by omega))⟩
theorem wide_ext {f g : Nat × Nat} (hf : Wide f) (hg : Wide g) (h : ∀ k, k < 128 → bitF f k = bitF g k) : f = g := by
  have big : ∀ {n i : Nat}, n < 18446744073709551616 → 64 ≤ i → n.testBit i = false := by
    intro n i hn hi
    refine Nat.testBit_lt_two_pow (Nat.lt_of_lt_of_le hn ?_)
    have : (2:Nat) ^ 64 ≤ 2 ^ i := Nat.pow_le_pow_right (by omega) hi
    omega
  refine Prod.ext ?_ ?_
  · apply Nat.eq_of_testBit_eq
    intro i
    by_cases hi : i < 64
    · have := h i (by omega)
      simpa [bitF, hi] using this
    · rw [big hf.1 (by omega), big hg.1 (by omega)]
  · apply Nat.eq_of_testBit_eq
    intro i
    by_cases hi : i < 64
    · have := h (i + 64) (by omega)
      have e : ¬ (i + 64 < 64) := by omega
      simpa [bitF, e] using this
    · rw [big hf.2 (by omega), big hg.2 (by omega)]
/-- Places set. -/
def putAll (f : Nat × Nat) (ps : List Nat) : Nat × Nat := ps.foldl putF f
theorem bit_putAll {ps : List Nat} : ∀ {f : Nat × Nat} {k : Nat}, bitF (putAll f ps) k = (bitF f k || decide (k ∈ ps)) := by
  induction ps with
  | nil => intro f k; simp [putAll]
  | cons p r ih =>
    intro f k
    show bitF (putAll (putF f p) r) k = _
    rw [ih, bit_put]
    by_cases h1 : k = p <;> by_cases h2 : k ∈ r <;> simp [h1, h2]
theorem wide_putAll {ps : List Nat} (hp : ∀ p ∈ ps, p < 128) : ∀ {f : Nat × Nat}, Wide f → Wide (putAll f ps) := by
  induction ps with
  | nil => intro f h; exact h
  | cons p r ih => intro f h; exact ih (fun q hq => hp q (List.mem_cons_of_mem _ hq)) (wide_put h (hp p (List.mem_cons_self ..)))
/-- A hash added. -/
def addF (f : Nat × Nat) (h : Nat) : Nat × Nat := putAll f (places h)
/-- The filter of hashes. -/
def ofF (l : List Nat) : Nat × Nat := l.foldl addF (0, 0)
theorem ofF_putAll (l : List Nat) : ofF l = putAll (0, 0) (allP l) := by
  unfold ofF putAll allP
  generalize ((0, 0) : Nat × Nat) = f
  induction l generalizing f with
  | nil => rfl
  | cons h r ih => simp only [List.foldl_cons, List.flatMap_cons, List.foldl_append]; rw [ih]; rfl
theorem bit_zero (k : Nat) : bitF (0, 0) k = false := by unfold bitF; split <;> simp
theorem bit_ofF (l : List Nat) (k : Nat) : bitF (ofF l) k = decide (k ∈ allP l) := by rw [ofF_putAll, bit_putAll, bit_zero, Bool.false_or]
theorem allP_lt {l : List Nat} {p : Nat} (h : p ∈ allP l) : p < 128 := by
  obtain ⟨x, _, hx⟩ := mem_allP.1 h
  exact places_lt hx
theorem wide_zero : Wide (0, 0) := ⟨by decide, by decide⟩
theorem wide_ofF (l : List Nat) : Wide (ofF l) := by rw [ofF_putAll]; exact wide_putAll (fun p hp => allP_lt hp) wide_zero
/-- May a hash be in it? -/
def mayF (f : Nat × Nat) (h : Nat) : Bool := (places h).all (bitF f)
theorem may_ofF (l : List Nat) (h : Nat) : mayF (ofF l) h = (places h).all fun p => decide (p ∈ setL l) := by
  unfold mayF
  congr 1
  funext p
  rw [bit_ofF]
  simp [mem_setL]
theorem may_mem {l : List Nat} {h : Nat} (hm : h ∈ l) : mayF (ofF l) h = true := by
  unfold mayF
  rw [List.all_eq_true]
  intro p hp
  rw [bit_ofF]
  exact decide_eq_true (mem_allP.2 ⟨h, hm, hp⟩)
/-- Both. -/
def bothF (f g : Nat × Nat) : Nat × Nat := (f.1 ||| g.1, f.2 ||| g.2)
theorem bit_both (f g : Nat × Nat) (k : Nat) : bitF (bothF f g) k = (bitF f k || bitF g k) := by
  unfold bitF bothF
  split <;> simp
theorem wide_both {f g : Nat × Nat} (hf : Wide f) (hg : Wide g) : Wide (bothF f g) := ⟨Nat.or_lt_two_pow (n := 64) hf.1 hg.1, Nat.or_lt_two_pow (n := 64) hf.2 hg.2⟩
theorem both_ofF (l m : List Nat) : bothF (ofF l) (ofF m) = ofF (l ++ m) := by
  refine wide_ext (wide_both (wide_ofF l) (wide_ofF m)) (wide_ofF _) (fun k _ => ?_)
  rw [bit_both, bit_ofF, bit_ofF, bit_ofF]
  have e : (k ∈ allP (l ++ m)) ↔ (k ∈ allP l ∨ k ∈ allP m) := by simp [allP]
  by_cases h1 : k ∈ allP l <;> by_cases h2 : k ∈ allP m <;> simp [e, h1, h2]
theorem both_self {f : Nat × Nat} : bothF f f = f := by simp [bothF]
/-- Order, and how often, are of no matter. -/
theorem ofF_same {l m : List Nat} (h : ∀ x, x ∈ l ↔ x ∈ m) : ofF l = ofF m := by
  refine wide_ext (wide_ofF l) (wide_ofF m) (fun k _ => ?_)
  rw [bit_ofF, bit_ofF]
  have : (k ∈ allP l) ↔ k ∈ allP m := by
    rw [mem_allP, mem_allP]
    exact ⟨fun ⟨x, h1, h2⟩ => ⟨x, (h x).1 h1, h2⟩, fun ⟨x, h1, h2⟩ => ⟨x, (h x).2 h1, h2⟩⟩
  simp [this]

/-- How many bits a number has. -/
def pop (n : Nat) : Nat := (List.range 64).countP (fun k => n.testBit k)
def countF (f : Nat × Nat) : Nat := pop f.1 + pop f.2
theorem countF_range (f : Nat × Nat) : countF f = (List.range 128).countP (bitF f) := by
  have e : List.range 128 = List.range 64 ++ (List.range 64).map (· + 64) := by decide
  have e1 : pop f.1 = (List.range 64).countP (bitF f) := by
    unfold pop
    apply List.countP_congr
    intro k hk
    have : k < 64 := by simpa using hk
    simp [bitF, this]
  have e2 : pop f.2 = (List.range 64).countP (bitF f ∘ (· + 64)) := by
    unfold pop
    apply List.countP_congr
    intro k _
    have : ¬ (k + 64 < 64) := by omega
    simp [bitF, this]
  rw [e, List.countP_append, List.countP_map, ← e1, ← e2]
  rfl
/-- Lists without a thing twice that hold the same things are of one length. -/
theorem nodup_len {a : List Nat} : ∀ {b : List Nat}, a.Nodup → b.Nodup → (∀ x, x ∈ a ↔ x ∈ b) → a.length = b.length := by
  induction a with
  | nil =>
    intro b _ _ h
    cases b with
    | nil => rfl
    | cons y r => exact absurd ((h y).2 (List.mem_cons_self ..)) (by simp)
  | cons x r ih =>
    intro b ha hb h
    have hx : x ∈ b := (h x).1 (List.mem_cons_self ..)
    rw [List.nodup_cons] at ha
    have hl := List.length_erase_of_mem hx
    have hpos : 0 < b.length := List.length_pos_of_mem hx
    have := ih (b := b.erase x) ha.2 (hb.erase x) (fun y => by
      rw [List.Nodup.mem_erase_iff hb]
      constructor
      · intro hy
        exact ⟨by rintro rfl; exact ha.1 hy, (h y).1 (List.mem_cons_of_mem _ hy)⟩
      · rintro ⟨hne, hy⟩
        rcases List.mem_cons.1 ((h y).2 hy) with rfl | hy
        · exact absurd rfl hne
        · exact hy)
    simp only [List.length_cons]
    omega
theorem count_ofF (l : List Nat) : countF (ofF l) = (setL l).length := by
  rw [countF_range, List.countP_eq_length_filter]
  refine nodup_len ((List.nodup_range).filter _) (nodup_setL l) (fun x => ?_)
  rw [List.mem_filter, List.mem_range, bit_ofF, mem_setL]
  constructor
  · rintro ⟨_, h⟩; simpa using h
  · intro h; exact ⟨allP_lt h, by simpa using h⟩
end Go.Proofs.YtgmghekgelmmcaaDoor.Blo
