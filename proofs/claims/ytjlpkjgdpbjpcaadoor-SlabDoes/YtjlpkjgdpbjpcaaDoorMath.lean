/-
  Classes of sizes, and budgets: the plain mathematics of layer 8, laid ahead. A budget as the document has it is the list of the classes of all things; how many there are of each, and what they take, is told of that list.
-/
import Derived.KernelRfl
namespace Go.Proofs.YtjlpkjgdpbjpcaaDoor

/-- The size of a class. -/
def sz (c : Int) : Int :=
  if c = 0 then 32 else if c = 1 then 64 else if c = 2 then 128 else if c = 3 then 256 else if c = 4 then 512 else if c = 5 then 1024 else if c = 6 then 2048 else if c = 7 then 4096 else if c = 8 then 8192 else 0
/-- The class of a size. -/
def cls (n : Int) : Int :=
  if n < 0 then -1 else if n ≤ 32 then 0 else if n ≤ 64 then 1 else if n ≤ 128 then 2 else if n ≤ 256 then 3 else if n ≤ 512 then 4 else if n ≤ 1024 then 5 else if n ≤ 2048 then 6 else if n ≤ 4096 then 7 else if n ≤ 8192 then 8 else -1
theorem nine {c : Int} (h0 : 0 ≤ c) (h8 : c ≤ 8) : c = 0 ∨ c = 1 ∨ c = 2 ∨ c = 3 ∨ c = 4 ∨ c = 5 ∨ c = 6 ∨ c = 7 ∨ c = 8 := by omega
theorem sz_pow {k : Nat} (h : k ≤ 8) : sz (k : Int) = ((32 * 2 ^ k : Nat) : Int) := by
  rcases (by omega : k = 0 ∨ k = 1 ∨ k = 2 ∨ k = 3 ∨ k = 4 ∨ k = 5 ∨ k = 6 ∨ k = 7 ∨ k = 8) with rfl | rfl | rfl | rfl | rfl | rfl | rfl | rfl | rfl <;> rfl
theorem sz_out {c : Int} (h : c < 0 ∨ 8 < c) : sz c = 0 := by unfold sz; repeat rw [if_neg (by omega)]
theorem sz_in {c : Int} (h0 : 0 ≤ c) (h8 : c ≤ 8) : 32 ≤ sz c ∧ sz c ≤ 8192 := by
  rcases nine h0 h8 with rfl | rfl | rfl | rfl | rfl | rfl | rfl | rfl | rfl <;> decide
theorem sz_zero {c : Int} : sz c = 0 ↔ c < 0 ∨ 8 < c := by
  constructor
  · intro h
    by_cases hc : c < 0 ∨ 8 < c
    · exact hc
    · have := sz_in (c := c) (by omega) (by omega); omega
  · exact sz_out
theorem sz_nonneg (c : Int) : 0 ≤ sz c := by
  by_cases hc : c < 0 ∨ 8 < c
  · rw [sz_out hc]; exact Int.le_refl _
  · have := sz_in (c := c) (by omega) (by omega); omega
/-- The size of the next class is twice as great. -/
theorem sz_next {c : Int} (h0 : 0 ≤ c) (h8 : c < 8) : sz (c + 1) = 2 * sz c := by
  rcases nine h0 (by omega) with rfl | rfl | rfl | rfl | rfl | rfl | rfl | rfl | rfl <;> first | rfl | omega
theorem cls_out {n : Int} (h : n < 0 ∨ 8192 < n) : cls n = -1 := by unfold cls; (repeat' split) <;> omega
theorem cls_in {n : Int} (h0 : 0 ≤ n) (h : n ≤ 8192) : 0 ≤ cls n ∧ cls n ≤ 8 := by unfold cls; (repeat' split) <;> omega
theorem cls_spec {n : Int} (hn : 0 ≤ n) : (n ≤ 32 ∧ cls n = 0) ∨ (32 < n ∧ n ≤ 64 ∧ cls n = 1) ∨ (64 < n ∧ n ≤ 128 ∧ cls n = 2) ∨ (128 < n ∧ n ≤ 256 ∧ cls n = 3) ∨ (256 < n ∧ n ≤ 512 ∧ cls n = 4) ∨ (512 < n ∧ n ≤ 1024 ∧ cls n = 5) ∨ (1024 < n ∧ n ≤ 2048 ∧ cls n = 6) ∨ (2048 < n ∧ n ≤ 4096 ∧ cls n = 7) ∨ (4096 < n ∧ n ≤ 8192 ∧ cls n = 8) ∨ (8192 < n ∧ cls n = -1) := by
  obtain ⟨k, hk⟩ : ∃ k, k = cls n := ⟨_, rfl⟩
  rw [← hk]
  unfold cls at hk
  (repeat' split at hk) <;> omega
/-- The least class that has room. -/
theorem cls_least {n c : Int} (hn : 0 ≤ n) (h0 : 0 ≤ c) (h8 : c ≤ 8) : n ≤ sz c ↔ 0 ≤ cls n ∧ cls n ≤ c := by
  have hs := cls_spec hn
  have hz : (c = 0 ∧ sz c = 32) ∨ (c = 1 ∧ sz c = 64) ∨ (c = 2 ∧ sz c = 128) ∨ (c = 3 ∧ sz c = 256) ∨ (c = 4 ∧ sz c = 512) ∨ (c = 5 ∧ sz c = 1024) ∨ (c = 6 ∧ sz c = 2048) ∨ (c = 7 ∧ sz c = 4096) ∨ (c = 8 ∧ sz c = 8192) := by
    rcases nine h0 h8 with rfl | rfl | rfl | rfl | rfl | rfl | rfl | rfl | rfl <;> decide
  generalize cls n = k at *
  generalize sz c = s at *
  rcases hz with ⟨hc, hs'⟩ | ⟨hc, hs'⟩ | ⟨hc, hs'⟩ | ⟨hc, hs'⟩ | ⟨hc, hs'⟩ | ⟨hc, hs'⟩ | ⟨hc, hs'⟩ | ⟨hc, hs'⟩ | ⟨hc, hs'⟩ <;> omega
theorem cls_room {n : Int} (h0 : 0 ≤ n) (h : n ≤ 8192) : n ≤ sz (cls n) := by
  have hc := cls_in h0 h
  exact (cls_least h0 hc.1 hc.2).2 ⟨hc.1, Int.le_refl _⟩
/-- A thing takes less than twice its bytes. -/
theorem cls_close {n : Int} (h0 : 0 ≤ n) (h : n ≤ 8192) : cls n = 0 ∨ (sz (cls n - 1) < n ∧ sz (cls n) < 2 * n) := by
  have hc := cls_in h0 h
  by_cases hz : cls n = 0
  · exact .inl hz
  · right
    have h1 : sz (cls n - 1) < n := by
      have := (cls_least (n := n) (c := cls n - 1) h0 (by omega) (by omega))
      omega
    have h2 := sz_next (c := cls n - 1) (by omega) (by omega)
    rw [show cls n - 1 + 1 = cls n by omega] at h2
    exact ⟨h1, by omega⟩

/-- What things take, and how many there are of a class. -/
def used (l : List Int) : Int := (l.map sz).sum
def cnt (l : List Int) (c : Int) : Nat := l.count c
theorem used_nil : used [] = 0 := rfl
theorem used_snoc (l : List Int) (c : Int) : used (l ++ [c]) = used l + sz c := by simp [used]
theorem used_append (l m : List Int) : used (l ++ m) = used l + used m := by simp [used]
theorem used_nonneg (l : List Int) : 0 ≤ used l := by
  induction l with
  | nil => exact Int.le_refl _
  | cons c r ih => have := sz_nonneg c; simp [used] at ih ⊢; omega
theorem used_take_snoc {l : List Int} {k : Nat} {c : Int} (h : l[k]? = some c) : used (l.take (k + 1)) = used (l.take k) + sz c := by
  obtain ⟨hl, rfl⟩ := List.getElem?_eq_some_iff.1 h
  rw [List.take_succ_eq_append_getElem hl, used_snoc]
theorem used_cons (c : Int) (l : List Int) : used (c :: l) = sz c + used l := by simp [used]
theorem used_erase {l : List Int} {c : Int} (h : c ∈ l) : used (l.erase c) = used l - sz c := by
  induction l with
  | nil => cases h
  | cons d r ih =>
    by_cases e : d = c
    · subst e; rw [List.erase_cons_head, used_cons]; omega
    · rw [List.erase_cons_tail (by simpa using e), used_cons, used_cons, ih (by rcases List.mem_cons.1 h with h | h; exact absurd h.symm e; exact h)]; omega
theorem cnt_snoc (l : List Int) (c d : Int) : cnt (l ++ [c]) d = cnt l d + if d = c then 1 else 0 := by
  unfold cnt
  rw [List.count_append, List.count_singleton]
  by_cases h : d = c
  · subst h; simp
  · rw [if_neg h, if_neg (by simpa using fun e => h e.symm)]
theorem cnt_erase (l : List Int) (c d : Int) : cnt (l.erase c) d = cnt l d - if d = c then 1 else 0 := by
  unfold cnt
  by_cases h : d = c
  · subst h; rw [if_pos rfl, List.count_erase_self]
  · rw [if_neg h, Nat.sub_zero, List.count_erase_of_ne (fun e => h e)]
theorem cnt_pos {l : List Int} {c : Int} : 0 < cnt l c ↔ c ∈ l := List.count_pos_iff
/-- All classes are classes. -/
def Cls (l : List Int) : Prop := ∀ c ∈ l, 0 ≤ c ∧ c ≤ 8
theorem Cls.snoc {l : List Int} (h : Cls l) {c : Int} (h0 : 0 ≤ c) (h8 : c ≤ 8) : Cls (l ++ [c]) := by
  intro d hd
  rcases List.mem_append.1 hd with hd | hd
  · exact h d hd
  · simp at hd; subst hd; exact ⟨h0, h8⟩
theorem Cls.erase {l : List Int} (h : Cls l) (c : Int) : Cls (l.erase c) := fun d hd => h d (List.mem_of_mem_erase hd)
/-- What all classes take together. -/
theorem used_classes {l : List Int} (h : Cls l) : used l = cnt l 0 * 32 + cnt l 1 * 64 + cnt l 2 * 128 + cnt l 3 * 256 + cnt l 4 * 512 + cnt l 5 * 1024 + cnt l 6 * 2048 + cnt l 7 * 4096 + cnt l 8 * 8192 := by
  induction l with
  | nil => simp [used, cnt]
  | cons c r ih =>
    have hr := ih (fun d hd => h d (List.mem_cons_of_mem _ hd))
    have hc := h c (List.mem_cons_self ..)
    have hu : used (c :: r) = sz c + used r := by simp [used]
    rw [hu, hr]
    unfold cnt
    rcases nine hc.1 hc.2 with rfl | rfl | rfl | rfl | rfl | rfl | rfl | rfl | rfl <;> simp only [List.count_cons] <;> simp only [sz] <;> simp <;> omega
/-- Where the first thing of a class stands. -/
theorem erase_split {l a b : List Int} {c : Int} (hl : l = a ++ c :: b) (ha : ¬ c ∈ a) : l.erase c = a ++ b := by
  subst hl
  rw [List.erase_append_right _ ha, List.erase_cons_head]
/-- Up to a class, what may be: the classes of all things, the limit, and no more taken than that. -/
def Bud (lim : Int) (l : List Int) : Prop := Cls l ∧ used l ≤ lim
theorem Bud.take {lim : Int} {l : List Int} (h : Bud lim l) {c : Int} (h0 : 0 ≤ c) (h8 : c ≤ 8) (hr : sz c ≤ lim - used l) : Bud lim (l ++ [c]) := ⟨h.1.snoc h0 h8, by rw [used_snoc]; omega⟩
theorem Bud.give {lim : Int} {l : List Int} (h : Bud lim l) {c : Int} (hm : c ∈ l) : Bud lim (l.erase c) := ⟨h.1.erase c, by rw [used_erase hm]; have := sz_nonneg c; have := h.2; omega⟩
end Go.Proofs.YtjlpkjgdpbjpcaaDoor
