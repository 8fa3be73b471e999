/-
  Add, Drop and Touch of a node: what holds between the program's state and the document's list is kept.
-/
import Derived.KernelRfl
import Derived.Test.YtkgecpplgjfhiaaGreatDoorQGOb
import Derived.Test.YtkgecpplgjfhiaaGreatDoorQIFlt
namespace Go.Proofs.YtkgecpplgjfhiaaGreatDoor.Sla

/-- The size of a class. -/
def sz (c : Int) : Int :=
  if c = 0 then 32 else if c = 1 then 64 else if c = 2 then 128 else if c = 3 then 256 else if c = 4 then 512 else if c = 5 then 1024 else if c = 6 then 2048 else if c = 7 then 4096 else if c = 8 then 8192 else 0
/-- The class of a size. -/
def cls (n : Int) : Int :=
  if n < 0 then -1 else if n ≤ 32 then 0 else if n ≤ 64 then 1 else if n ≤ 128 then 2 else if n ≤ 256 then 3 else if n ≤ 512 then 4 else if n ≤ 1024 then 5 else if n ≤ 2048 then 6 else if n ≤ 4096 then 7 else if n ≤ 8192 then 8 else -1
theorem nine {c : Int} (h0 : 0 ≤ c) (h8 : c ≤ 8) : c = 0 ∨ c = 1 ∨ c = 2 ∨ c = 3 ∨ c = 4 ∨ c = 5 ∨ c = 6 ∨ c = 7 ∨ c = 8 := by omega
theorem sz_pow {k : Nat} (h : k ≤ 8) : sz (k : Int) = ((32 * 2 ^ k : Nat) : Int) := by
  rcases (by omega : k = 0 ∨ k = 1 ∨ k = 2 ∨ k = 3 ∨ k = 4 ∨ k = 5 ∨ k = 6 ∨ k = 7 ∨ k = 8) with rfl | rfl | rfl | rfl | rfl | rfl | rfl | rfl | rfl <;> rfl
theorem sz_out {c : Int} (h : c < 0 ∨ 8 < c) : sz c = 0 := by unfold sz; repeat rw [if_neg (by omega)]
theorem sz_in {c : Int} (h0 : 0 ≤ c) (h8 : c ≤ 8) : 32 ≤ sz c ∧ sz c ≤ 8192 := by
  rcases nine h0 h8 with rfl | rfl | rfl | rfl | rfl | rfl | rfl | rfl | rfl <;> decide
theorem sz_zero {c : Int} : sz c = 0 ↔ c < 0 ∨ 8 < c := by
  constructor
  · intro h
    by_cases hc : c < 0 ∨ 8 < c
    · exact hc
    · have := sz_in (c := c) (by omega) (by omega); omega
  · exact sz_out
theorem sz_nonneg (c : Int) : 0 ≤ sz c := by
  by_cases hc : c < 0 ∨ 8 < c
  · rw [sz_out hc]; exact Int.le_refl _
  · have := sz_in (c := c) (by omega) (by omega); omega
/-- The size of the next class is twice as great. -/
theorem sz_next {c : Int} (h0 : 0 ≤ c) (h8 : c < 8) : sz (c + 1) = 2 * sz c := by
  rcases nine h0 (by omega) with rfl | rfl | rfl | rfl | rfl | rfl | rfl | rfl | rfl <;> first | rfl | omega
theorem cls_out {n : Int} (h : n < 0 ∨ 8192 < n) : cls n = -1 := by unfold cls; (repeat' split) <;> omega
theorem cls_in {n : Int} (h0 : 0 ≤ n) (h : n ≤ 8192) : 0 ≤ cls n ∧ cls n ≤ 8 := by unfold cls; (repeat' split) <;> omega
theorem cls_spec {n : Int} (hn : 0 ≤ n) : (n ≤ 32 ∧ cls n = 0) ∨ (32 < n ∧ n ≤ 64 ∧ cls n = 1) ∨ (64 < n ∧ n ≤ 128 ∧ cls n = 2) ∨ (128 < n ∧ n ≤ 256 ∧ cls n = 3) ∨ (256 < n ∧ n ≤ 512 ∧ cls n = 4) ∨ (512 < n ∧ n ≤ 1024 ∧ cls n = 5) ∨ (1024 < n ∧ n ≤ 2048 ∧ cls n = 6) ∨ (2048 < n ∧ n ≤ 4096 ∧ cls n = 7) ∨ (4096 < n ∧ n ≤ 8192 ∧ cls n = 8) ∨ (8192 < n ∧ cls n = -1) := by
  obtain ⟨k, hk⟩ : ∃ k, k = cls n := ⟨_, rfl⟩
  rw [← hk]
  unfold cls at hk
  (repeat' split at hk) <;> omega
/-- The least class that has room. -/
theorem cls_least {n c : Int} (hn : 0 ≤ n) (h0 : 0 ≤ c) (h8 : c ≤ 8) : n ≤ sz c ↔ 0 ≤ cls n ∧ cls n ≤ c := by
  have hs := cls_spec hn
  have hz : (c = 0 ∧ sz c = 32) ∨ (c = 1 ∧ sz c = 64) ∨ (c = 2 ∧ sz c = 128) ∨ (c = 3 ∧ sz c = 256) ∨ (c = 4 ∧ sz c = 512) ∨ (c = 5 ∧ sz c = 1024) ∨ (c = 6 ∧ sz c = 2048) ∨ (c = 7 ∧ sz c = 4096) ∨ (c = 8 ∧ sz c = 8192) := by
    rcases nine h0 h8 with rfl | rfl | rfl | rfl | rfl | rfl | rfl | rfl | rfl <;> decide
  generalize cls n = k at *
  generalize sz c = s at *
  rcases hz with ⟨hc, hs'⟩ | ⟨hc, hs'⟩ | ⟨hc, hs'⟩ | ⟨hc, hs'⟩ | ⟨hc, hs'⟩ | ⟨hc, hs'⟩ | ⟨hc, hs'⟩ | ⟨hc, hs'⟩ | ⟨hc, hs'⟩ <;> omega
theorem cls_room {n : Int} (h0 : 0 ≤ n) (h : n ≤ 8192) : n ≤ sz (cls n) := by
  have hc := cls_in h0 h
  exact (cls_least h0 hc.1 hc.2).2 ⟨hc.1, Int.le_refl _⟩
/-- A thing takes less than twice its bytes. -/
theorem cls_close {n : Int} (h0 : 0 ≤ n) (h : n ≤ 8192) : cls n = 0 ∨ (sz (cls n - 1) < n ∧ sz (cls n) < 2 * n) := by
  have hc := cls_in h0 h
  by_cases hz : cls n = 0
  · exact .inl hz
  · right
    have h1 : sz (cls n - 1) < n := by
      have := (cls_least (n := n) (c := cls n - 1) h0 (by omega) (by omega))
      omega
    have h2 := sz_next (c := cls n - 1) (by omega) (by omega)
    rw [show cls n - 1 + 1 = cls n by omega] at h2
    exact ⟨h1, by omega⟩

/-- What things take, and how many there are of a class. -/
def used (l : List Int) : Int := (l.map sz).sum
def cnt (l : List Int) (c : Int) : Nat := l.count c
theorem used_nil : used [] = 0 := rfl
theorem used_snoc (l : List Int) (c : Int) : used (l ++ [c]) = used l + sz c := by simp [used]
theorem used_append (l m : List Int) : used (l ++ m) = used l + used m := by simp [used]
theorem used_nonneg (l : List Int) : 0 ≤ used l := by
  induction l with
  | nil => exact Int.le_refl _
  | cons c r ih => have := sz_nonneg c; simp [used] at ih ⊢; omega
theorem used_take_snoc {l : List Int} {k : Nat} {c : Int} (h : l[k]? = some c) : used (l.take (k + 1)) = used (l.take k) + sz c := by
  obtain ⟨hl, rfl⟩ := List.getElem?_eq_some_iff.1 h
  rw [List.take_succ_eq_append_getElem hl, used_snoc]
theorem used_cons (c : Int) (l : List Int) : used (c :: l) = sz c + used l := by simp [used]
theorem used_erase {l : List Int} {c : Int} (h : c ∈ l) : used (l.erase c) = used l - sz c := by
  induction l with
  | nil => cases h
  | cons d r ih =>
    by_cases e : d = c
    · subst e; rw [List.erase_cons_head, used_cons]; omega
    · rw [List.erase_cons_tail (by simpa using e), used_cons, used_cons, ih (by rcases List.mem_cons.1 h with h | h; exact absurd h.symm e; exact h)]; omega
theorem cnt_snoc (l : List Int) (c d : Int) : cnt (l ++ [c]) d = cnt l d + if d = c then 1 else 0 := by
  unfold cnt
  rw [List.count_append, List.count_singleton]
  by_cases h : d = c
  · subst h; simp
  · rw [if_neg h, if_neg (by simpa using fun e => h e.symm)]
theorem cnt_erase (l : List Int) (c d : Int) : cnt (l.erase c) d = cnt l d - if d = c then 1 else 0 := by
  unfold cnt
  by_cases h : d = c
  · subst h; rw [if_pos rfl, List.count_erase_self]
  · rw [if_neg h, Nat.sub_zero, List.count_erase_of_ne (fun e => h e)]
theorem cnt_pos {l : List Int} {c : Int} : 0 < cnt l c ↔ c ∈ l := List.count_pos_iff
/-- All classes are classes. -/
def Cls (l : List Int) : Prop := ∀ c ∈ l, 0 ≤ c ∧ c ≤ 8
theorem Cls.snoc {l : List Int} (h : Cls l) {c : Int} (h0 : 0 ≤ c) (h8 : c ≤ 8) : Cls (l ++ [c]) := by
  intro d hd
  rcases List.mem_append.1 hd with hd | hd
  · exact h d hd
  · simp at hd; subst hd; exact ⟨h0, h8⟩
theorem Cls.erase {l : List Int} (h : Cls l) (c : Int) : Cls (l.erase c) := fun d hd => h d (List.mem_of_mem_erase hd)
/-- What all classes take together. -/
theorem used_classes {l : List Int} (h : Cls l) : used l = cnt l 0 * 32 + cnt l 1 * 64 + cnt l 2 * 128 + cnt l 3 * 256 + cnt l 4 * 512 + cnt l 5 * 1024 + cnt l 6 * 2048 + cnt l 7 * 4096 + cnt l 8 * 8192 := by
  induction l with
  | nil => simp [used, cnt]
  | cons c r ih =>
    have hr := ih (fun d hd => h d (List.mem_cons_of_mem _ hd))
    have hc := h c (List.mem_cons_self ..)
    have hu : used (c :: r) = sz c + used r := by simp [used]
    rw [hu, hr]
    unfold cnt
    rcases nine hc.1 hc.2 with rfl | rfl | rfl | rfl | rfl | rfl | rfl | rfl | rfl <;> simp only [List.count_cons] <;> simp only [sz] <;> simp <;> omega
/-- Where the first thing of a class stands. -/
theorem erase_split {l a b : List Int} {c : Int} (hl : l = a ++ c :: b) (ha : ¬ c ∈ a) : l.erase c = a ++ b := by
  subst hl
  rw [List.erase_append_right _ ha, List.erase_cons_head]
/-- Up to a class, what may be: the classes of all things, the limit, and no more taken than that. -/
def Bud (lim : Int) (l : List Int) : Prop := Cls l ∧ used l ≤ lim
theorem Bud.take {lim : Int} {l : List Int} (h : Bud lim l) {c : Int} (h0 : 0 ≤ c) (h8 : c ≤ 8) (hr : sz c ≤ lim - used l) : Bud lim (l ++ [c]) := ⟨h.1.snoc h0 h8, by rw [used_snoc]; omega⟩
theorem Bud.give {lim : Int} {l : List Int} (h : Bud lim l) {c : Int} (hm : c ∈ l) : Bud lim (l.erase c) := ⟨h.1.erase c, by rw [used_erase hm]; have := sz_nonneg c; have := h.2; omega⟩
end Go.Proofs.YtkgecpplgjfhiaaGreatDoor.Sla

namespace Go.Proofs.YtkgecpplgjfhiaaGreatDoor
open Ite (Ent zeroE checkE sizeE)
open Lis (Lst but mem_but getL setL whereP fnd fnd_some lastP)

/-- A function, at one place another. -/
def chg {α : Type} (f : Int → α) (x : Int) (v : α) : Int → α := fun y => if y = x then v else f y
theorem chg_at {α : Type} (f : Int → α) (x : Int) (v : α) : chg f x v x = v := if_pos rfl
theorem chg_ne {α : Type} (f : Int → α) {x y : Int} (v : α) (h : y ≠ x) : chg f x v y = f y := if_neg h

/-- The class of an entry; how much it takes. -/
def ucl (x : Ent) : Int := Sla.cls (sizeE x : Int)
def tk (x : Ent) : Int := Sla.sz (ucl x)
/-- What all take. -/
def usedL (L : List Ent) : Int := Sla.used (L.map ucl)
theorem usedL_cons (x : Ent) (L : List Ent) : usedL (x :: L) = tk x + usedL L := Sla.used_cons _ _
theorem usedL_nil : usedL [] = 0 := rfl
theorem usedL_append (a b : List Ent) : usedL (a ++ b) = usedL a + usedL b := by unfold usedL; rw [List.map_append, Sla.used_append]
theorem usedL_nonneg (L : List Ent) : 0 ≤ usedL L := Sla.used_nonneg _
theorem tk_nonneg (x : Ent) : 0 ≤ tk x := Sla.sz_nonneg _
theorem usedL_take_succ {L : List Ent} {k : Nat} {x : Ent} (h : L[k]? = some x) : usedL (L.take (k + 1)) = usedL (L.take k) + tk x := by
  obtain ⟨hl, rfl⟩ := List.getElem?_eq_some_iff.1 h
  rw [List.take_succ_eq_append_getElem hl, usedL_append, usedL_cons, usedL_nil]; omega
theorem fine_class {x : Ent} (h : checkE x = 0) : 0 ≤ ucl x ∧ ucl x ≤ 8 ∧ 32 ≤ tk x ∧ tk x ≤ 8192 := by
  have h1 := Ite.sizeE_le h
  have h2 := (Ite.chk_ok h).2.2.2.2.2.2.2
  obtain ⟨a, b⟩ := Sla.cls_in (n := (sizeE x : Int)) (by omega) (by omega)
  exact ⟨a, b, Sla.sz_in a b⟩
theorem used_many {L : List Ent} (h : ∀ x ∈ L, checkE x = 0) : 32 * (L.length : Int) ≤ usedL L := by
  induction L with
  | nil => simp [usedL_nil]
  | cons x r ih =>
    have a := (fine_class (h x (List.mem_cons_self ..))).2.2.1
    have b := ih fun y hy => h y (List.mem_cons_of_mem _ hy)
    rw [usedL_cons, List.length_cons]
    omega

/-- Where a key's entry is. -/
def idx (L : List Ent) (k : ByteArray) : Option Nat := L.findIdx? fun x => decide (x.key = k)
def findE (L : List Ent) (k : ByteArray) : Int := match idx L k with | some i => (i : Int) | none => -1
theorem idx_some {L : List Ent} {k : ByteArray} {i : Nat} : idx L k = some i ↔ ∃ x, L[i]? = some x ∧ x.key = k ∧ ∀ j y, j < i → L[j]? = some y → y.key ≠ k := by
  unfold idx
  rw [List.findIdx?_eq_some_iff_getElem]
  constructor
  · rintro ⟨h, h1, h2⟩
    refine ⟨L[i], List.getElem?_eq_getElem h, by simpa using h1, fun j y hj hy => ?_⟩
    obtain ⟨hl, rfl⟩ := List.getElem?_eq_some_iff.1 hy
    simpa using h2 j hj
  · rintro ⟨x, hx, h1, h2⟩
    obtain ⟨hl, rfl⟩ := List.getElem?_eq_some_iff.1 hx
    exact ⟨hl, by simpa using h1, fun j hj => by simpa using h2 j L[j] hj (List.getElem?_eq_getElem (by omega))⟩
theorem idx_none {L : List Ent} {k : ByteArray} : idx L k = none ↔ ∀ x ∈ L, x.key ≠ k := by
  unfold idx
  rw [List.findIdx?_eq_none_iff]
  constructor
  · intro h x hx; simpa using h x hx
  · intro h x hx; simpa using h x hx
theorem idx_lt {L : List Ent} {k : ByteArray} {i : Nat} (h : idx L k = some i) : i < L.length := by
  obtain ⟨x, hx, _⟩ := idx_some.1 h
  exact (List.getElem?_eq_some_iff.1 hx).1
/-- Without the entry at a place. -/
def butE (L : List Ent) (i : Nat) : List Ent := L.take i ++ L.drop (i + 1)
theorem butE_eq (L : List Ent) (i : Nat) : butE L i = L.eraseIdx i := (List.eraseIdx_eq_take_drop_succ ..).symm
def atE (L : List Ent) (i : Nat) : Ent := L[i]?.getD zeroE
theorem atE_some {L : List Ent} {i : Nat} {x : Ent} (h : L[i]? = some x) : atE L i = x := by unfold atE; rw [h]; rfl
/-- Whether an entry has not ended. -/
def lv (x : Ent) (now : Int) : Bool := decide (x.ends = 0) || decide (now < x.ends)

/-- A Get: the entries behind it, the entry, whether there is one. -/
def getP (L : List Ent) (k : ByteArray) (now : Int) : List Ent × Ent × Bool :=
  match idx L k with
  | none => (L, zeroE, false)
  | some i => if lv (atE L i) now = true then (atE L i :: butE L i, atE L i, true) else (butE L i, zeroE, false)
/-- A Drop. -/
def dropE (L : List Ent) (k : ByteArray) : List Ent := match idx L k with | none => L | some i => butE L i
/-- How many stay where room is made: the first of them, as many as leave room. -/
def cutJ (lim need : Int) (L : List Ent) : Nat → Nat
  | 0 => 0
  | j + 1 => if need ≤ lim - usedL (L.take (j + 1)) then j + 1 else cutJ lim need L j
theorem cutJ_le (lim need : Int) (L : List Ent) (k : Nat) : cutJ lim need L k ≤ k := by
  induction k with
  | zero => exact Nat.le_refl _
  | succ k ih => unfold cutJ; split; exact Nat.le_refl _; omega
theorem cutJ_stop {lim need : Int} {L : List Ent} {k : Nat} (h : need ≤ lim - usedL (L.take k)) : cutJ lim need L k = k := by
  cases k with
  | zero => rfl
  | succ k => unfold cutJ; rw [if_pos h]
theorem cutJ_go {lim need : Int} {L : List Ent} {k : Nat} (h : ¬ need ≤ lim - usedL (L.take (k + 1))) : cutJ lim need L (k + 1) = cutJ lim need L k := by
  rw [cutJ.eq_2, if_neg h]
theorem cutJ_room {lim need : Int} {L : List Ent} (h0 : need ≤ lim) (k : Nat) : need ≤ lim - usedL (L.take (cutJ lim need L k)) := by
  induction k with
  | zero => simp [cutJ, usedL_nil]; omega
  | succ k ih => unfold cutJ; split; assumption; exact ih
/-- Those that went, in their order, without those that had ended. -/
def goneL (L : List Ent) (k : Nat) (now : Int) : List Ent := (L.drop k).reverse.filter fun x => lv x now
theorem goneL_all (L : List Ent) (now : Int) : goneL L L.length now = [] := by simp [goneL]
theorem goneL_step {L : List Ent} {k : Nat} {x : Ent} (h : L[k]? = some x) (now : Int) : goneL L k now = goneL L (k + 1) now ++ (if lv x now = true then [x] else []) := by
  obtain ⟨hl, rfl⟩ := List.getElem?_eq_some_iff.1 h
  unfold goneL
  rw [List.drop_eq_getElem_cons hl, List.reverse_cons, List.filter_append]
  congr 1
  by_cases e : lv L[k] now = true
  · simp [e]
  · simp [e]
def fitsX (lim : Int) (x : Ent) : Bool := decide (0 ≤ ucl x) && decide (tk x ≤ lim)
/-- A Set: the entries behind it, those that went, the code. -/
def setP (lim : Int) (L : List Ent) (x : Ent) (now : Int) : List Ent × List Ent × Int :=
  if checkE x ≠ 0 then (L, [], checkE x) else if lv x now = false then (L, [], 10) else if fitsX lim x = false then (L, [], 3) else
  (x :: (dropE L x.key).take (cutJ lim (tk x) (dropE L x.key) (dropE L x.key).length), goneL (dropE L x.key) (cutJ lim (tk x) (dropE L x.key) (dropE L x.key).length) now, 0)
def sweepP (L : List Ent) (now : Int) : List Ent := L.filter fun x => lv x now
/-- All, by how much they take. -/
def allE (L : List Ent) : Nat → List Ent
  | 0 => []
  | k + 1 => allE L k ++ L.filter fun x => ucl x == (k : Int)

/-! ### Chains -/
/-- From this head the nodes l come, one behind the other, and no more. -/
def Way (X : Int → Int) : Int → List Int → Prop
  | h, [] => h = -1
  | h, x :: r => h = x ∧ 0 ≤ x ∧ Way X (X x) r
theorem Way.out {X : Int → Int} {x v : Int} {l : List Int} (hx : ¬ x ∈ l) : ∀ {h : Int}, Way X h l → Way (chg X x v) h l := by
  induction l with
  | nil => intro h w; exact w
  | cons y r ih =>
    rintro h ⟨rfl, h0, w⟩
    have hy : h ≠ x := fun e => hx (by rw [e]; exact List.mem_cons_self ..)
    refine ⟨rfl, h0, ?_⟩
    rw [chg_ne _ _ hy]
    exact ih (fun hm => hx (List.mem_cons_of_mem _ hm)) w
theorem Way.drop {X : Int → Int} : ∀ {a : List Int} {h : Int} {b : List Int}, Way X h (a ++ b) → ∃ h', Way X h' b ∧ ((a = [] ∧ h' = h) ∨ ∃ y, a.getLast? = some y ∧ h' = X y)
  | [], h, b, w => ⟨h, w, .inl ⟨rfl, rfl⟩⟩
  | y :: a, h, b, w => by
    obtain ⟨rfl, h0, w⟩ := w
    obtain ⟨h', w', e⟩ := w.drop
    refine ⟨h', w', .inr ?_⟩
    rcases e with ⟨rfl, rfl⟩ | ⟨z, hz, rfl⟩
    · exact ⟨h, rfl, rfl⟩
    · refine ⟨z, ?_, rfl⟩
      rw [List.getLast?_cons, hz]; rfl
theorem Way.cut {X : Int → Int} {x : Int} {b : List Int} : ∀ {a : List Int} {h y : Int}, Way X h (a ++ y :: x :: b) → (a ++ y :: x :: b).Nodup → Way (chg X y (X x)) h (a ++ y :: b)
  | [], h, y, w, nd => by
    obtain ⟨rfl, h0, h1, h2, w⟩ := w
    simp only [List.nil_append, List.nodup_cons] at nd
    refine ⟨rfl, h0, ?_⟩
    rw [chg_at]
    exact w.out (fun hm => nd.1 (List.mem_cons_of_mem _ hm))
  | z :: a, h, y, w, nd => by
    obtain ⟨rfl, h0, w⟩ := w
    simp only [List.cons_append, List.nodup_cons] at nd
    have hz : h ≠ y := fun e => nd.1 (by rw [e]; simp)
    refine ⟨rfl, h0, ?_⟩
    rw [chg_ne _ _ hz]
    exact w.cut nd.2

/-! ### Nodes -/
/-- What holds of the lists alone. -/
structure Pl (n : Nat) (s : Lst) : Prop where
  len : s.L.length = 9
  sn : s.n = n
  cnt : s.F.length + s.U.length = n
  nd : (s.F ++ s.U).Nodup
  rng : ∀ x ∈ s.F ++ s.U, 0 ≤ x ∧ x < n
theorem Pl.ndU {n : Nat} {s : Lst} (h : Pl n s) : s.U.Nodup := (List.nodup_append.1 h.nd).2.1
theorem Pl.dis {n : Nat} {s : Lst} (h : Pl n s) {x : Int} (hF : x ∈ s.F) : ¬ x ∈ s.U := fun hU => (List.nodup_append.1 h.nd).2.2 x hF x hU rfl
/-- What holds between the program's state and the document's list: nodes, their things, their chains, the budget. -/
structure Tn (lim : Int) (n : Nat) (sl : ByteArray → Nat) (s : Lst) (T : Int → Ent) (th : Nat) (C : Nat → List Int) (bl : List Int) : Prop where
  ord : ∀ k : Nat, k < 9 → s.L[k]? = some (s.U.filter fun x => ucl (T x) == (k : Int))
  used : ∀ x ∈ s.U, 0 ≤ x ∧ x < th
  free : ∃ D, s.F = D ++ (List.range' th (n - th)).map (fun (k : Nat) => (k : Int)) ∧ ∀ d ∈ D, 0 ≤ d ∧ d < (th : Int)
  thn : th ≤ n
  keys : (s.U.map fun x => (T x).key).Nodup
  fine : ∀ x ∈ s.U, checkE (T x) = 0
  ch : ∀ c x, x ∈ C c ↔ x ∈ s.U ∧ sl (T x).key = c
  cnd : ∀ c, (C c).Nodup
  bud : bl.Perm (s.U.map fun x => ucl (T x))
  low : Sla.used bl ≤ lim
  room : lim < 32 * ((n : Int) + 1)

variable {lim : Int} {n : Nat} {sl : ByteArray → Nat} {s : Lst} {T : Int → Ent} {th : Nat} {C : Nat → List Int} {bl : List Int}

theorem used_perm {a b : List Int} (h : a.Perm b) : Sla.used a = Sla.used b := by
  induction h with
  | nil => rfl
  | cons x _ ih => rw [Sla.used_cons, Sla.used_cons, ih]
  | swap x y l => rw [Sla.used_cons, Sla.used_cons, Sla.used_cons, Sla.used_cons]; omega
  | trans _ _ h1 h2 => exact h1.trans h2
theorem nodup_at {α : Type} : ∀ {l : List α} {i j : Nat} {x : α}, l.Nodup → l[i]? = some x → l[j]? = some x → i = j
  | [], i, _, _, _, hi, _ => by simp at hi
  | y :: r, 0, 0, _, _, _, _ => rfl
  | y :: r, 0, j + 1, x, nd, hi, hj => by
    simp at hi hj
    rw [List.nodup_cons] at nd
    exact absurd (List.mem_of_getElem? hj) (by rw [← hi]; exact nd.1)
  | y :: r, i + 1, 0, x, nd, hi, hj => by
    simp at hi hj
    rw [List.nodup_cons] at nd
    exact absurd (List.mem_of_getElem? hi) (by rw [← hj]; exact nd.1)
  | y :: r, i + 1, j + 1, x, nd, hi, hj => by
    simp at hi hj
    rw [List.nodup_cons] at nd
    rw [nodup_at nd.2 hi hj]
theorem nodup_of_map {α β : Type} (f : α → β) {l : List α} (h : (l.map f).Nodup) : l.Nodup := List.Pairwise.of_map f (fun _ _ hn e => hn (by rw [e])) h
theorem Tn.usedL (v : Tn lim n sl s T th C bl) : Sla.used bl = usedL (s.U.map T) := by
  rw [used_perm v.bud]
  unfold Proofs.YtkgecpplgjfhiaaGreatDoor.usedL
  rw [List.map_map]; rfl
theorem Tn.cls (v : Tn lim n sl s T th C bl) : Sla.Cls bl := by
  intro c hc
  obtain ⟨x, hx, rfl⟩ := List.mem_map.1 (v.bud.mem_iff.1 hc)
  have := fine_class (v.fine x hx)
  exact ⟨this.1, this.2.1⟩
/-- Where a node's list is. -/
theorem Tn.where_ (v : Tn lim n sl s T th C bl) {x : Int} (hx : x ∈ s.U) : whereP s.L x = ucl (T x) := by
  obtain ⟨h0, h8, _⟩ := fine_class (v.fine x hx)
  obtain ⟨k, hk⟩ := Int.eq_ofNat_of_zero_le h0
  have hk9 : k < 9 := by omega
  unfold whereP
  rw [fnd_some (i := 0) (k := k) (v.ord k hk9) (by simp [hx, hk]) ?_, Nat.zero_add, hk]
  intro j b hj hb hm
  rw [v.ord j (by omega)] at hb
  cases hb
  have := (List.mem_filter.1 hm).2
  simp at this
  omega
/-- A key's node, if there is one, is in its chain. -/
theorem Tn.node (v : Tn lim n sl s T th C bl) {x : Int} (hx : x ∈ s.U) : x ∈ C (sl (T x).key) := (v.ch _ _).2 ⟨hx, rfl⟩
theorem Tn.uniq (v : Tn lim n sl s T th C bl) {x y : Int} (hx : x ∈ s.U) (hy : y ∈ s.U) (h : (T x).key = (T y).key) : x = y := by
  obtain ⟨i, hi⟩ := List.mem_iff_getElem?.1 hx
  obtain ⟨j, hj⟩ := List.mem_iff_getElem?.1 hy
  have := nodup_at v.keys (i := i) (j := j) (x := (T x).key) (by rw [List.getElem?_map, hi]; rfl) (by rw [List.getElem?_map, hj, h]; rfl)
  subst this
  rw [hi] at hj
  exact Option.some.inj hj
/-- The node of a key: -1, or the one in the list. -/
def nodeP (T : Int → Ent) (k : ByteArray) : List Int → Int
  | [] => -1
  | x :: r => if (T x).key = k then x else nodeP T k r
theorem nodeP_spec {T : Int → Ent} {k : ByteArray} {l : List Int} : (nodeP T k l = -1 ∧ ∀ x ∈ l, (T x).key ≠ k) ∨ (nodeP T k l ∈ l ∧ (T (nodeP T k l)).key = k) := by
  induction l with
  | nil => exact .inl ⟨rfl, fun x hx => nomatch hx⟩
  | cons y r ih =>
    unfold nodeP
    by_cases e : (T y).key = k
    · rw [if_pos e]; exact .inr ⟨List.mem_cons_self .., e⟩
    · rw [if_neg e]
      rcases ih with ⟨h1, h2⟩ | ⟨h1, h2⟩
      · exact .inl ⟨h1, fun x hx => (List.mem_cons.1 hx).elim (fun h => by rw [h]; exact e) (h2 x)⟩
      · exact .inr ⟨List.mem_cons_of_mem _ h1, h2⟩
theorem Tn.find (v : Tn lim n sl s T th C bl) (k : ByteArray) : (idx (s.U.map T) k = none ∧ nodeP T k (C (sl k)) = -1) ∨ ∃ i, idx (s.U.map T) k = some i ∧ s.U[i]? = some (nodeP T k (C (sl k))) := by
  rcases nodeP_spec (T := T) (k := k) (l := C (sl k)) with ⟨h1, h2⟩ | ⟨h1, h2⟩
  · refine .inl ⟨idx_none.2 fun x hx => ?_, h1⟩
    obtain ⟨y, hy, rfl⟩ := List.mem_map.1 hx
    intro e
    exact h2 y (by rw [← e]; exact v.node hy) e
  · refine .inr ?_
    have hU := ((v.ch _ _).1 h1).1
    obtain ⟨i, hi⟩ := List.mem_iff_getElem?.1 hU
    refine ⟨i, idx_some.2 ⟨T (nodeP T k (C (sl k))), by rw [List.getElem?_map, hi]; rfl, h2, fun j y hj hy e => ?_⟩, hi⟩
    rw [List.getElem?_map] at hy
    obtain ⟨z, hz, rfl⟩ := Option.map_eq_some_iff.1 hy
    have := v.uniq (List.mem_iff_getElem?.2 ⟨j, hz⟩) hU (by rw [e, h2])
    rw [this] at hz
    have := nodup_at (nodup_of_map _ v.keys) hi hz
    omega
/-- Where there is room for an entry, a node is free. -/
theorem Tn.some_free (v : Tn lim n sl s T th C bl) (p : Pl n s) {c : Int} (h0 : 0 ≤ c) (h8 : c ≤ 8) (hr : Sla.sz c ≤ lim - Sla.used bl) : ∃ x r, s.F = x :: r ∧ 0 ≤ x ∧ x ≤ th ∧ x < n ∧ ¬ x ∈ s.U := by
  have h1 := used_many (L := s.U.map T) (fun x hx => by obtain ⟨y, hy, rfl⟩ := List.mem_map.1 hx; exact v.fine y hy)
  rw [← v.usedL, List.length_map] at h1
  have h2 := (Sla.sz_in h0 h8).1
  have h3 := v.room
  have h4 := p.cnt
  cases hF : s.F with
  | nil => rw [hF] at h4; simp at h4; omega
  | cons x r =>
    have hx : x ∈ s.F := by rw [hF]; exact List.mem_cons_self ..
    have := p.rng x (List.mem_append_left _ hx)
    refine ⟨x, r, rfl, this.1, ?_, this.2, p.dis hx⟩
    obtain ⟨D, e, hD⟩ := v.free
    rw [hF] at e
    cases D with
    | nil =>
      have hlt : th < n := by
        rcases Nat.lt_or_ge th n with h | h
        · exact h
        · rw [Nat.sub_eq_zero_of_le h] at e; simp at e
      obtain ⟨m, hm⟩ : ∃ m, n - th = m + 1 := ⟨n - th - 1, by omega⟩
      rw [hm, List.range'_succ] at e
      simp at e
      rw [e.1]; exact Int.le_refl _
    | cons d D =>
      simp at e
      have := (hD d (List.mem_cons_self ..)).2
      omega
end Go.Proofs.YtkgecpplgjfhiaaGreatDoor

namespace Go.Proofs.YtkgecpplgjfhiaaGreatDoor
open Ite (Ent zeroE checkE sizeE)
open Lis (Lst but mem_but getL setL whereP fnd fnd_some lastP)
variable {lim : Int} {n : Nat} {sl : ByteArray → Nat} {s : Lst} {T : Int → Ent} {th : Nat} {C : Nat → List Int} {bl : List Int}

theorem filter_same {α : Type} {p q : α → Bool} {l : List α} (h : ∀ x ∈ l, p x = q x) : l.filter p = l.filter q := List.filter_congr h
theorem but_map {α : Type} {T : Int → α} {x : Int} {v : α} (U : List Int) : (but U x).map (chg T x v) = (but U x).map T :=
  List.map_congr_left fun _y hy => chg_ne _ _ (mem_but.1 hy).2
theorem new_map {α : Type} {T : Int → α} {x : Int} {v : α} {U : List Int} (h : ¬ x ∈ U) : U.map (chg T x v) = U.map T :=
  List.map_congr_left fun _ hy => chg_ne _ _ (fun e => h (by rw [← e]; exact hy))
theorem but_at : ∀ {U : List Int} {i : Nat} {x : Int}, U.Nodup → U[i]? = some x → but U x = U.take i ++ U.drop (i + 1)
  | [], i, _, _, hi => by simp at hi
  | y :: r, 0, x, nd, hi => by
    simp at hi; subst hi
    rw [List.nodup_cons] at nd
    have : but (y :: r) y = but r y := by simp [but]
    rw [this, Lis.but_none nd.1]; simp
  | y :: r, i + 1, x, nd, hi => by
    simp at hi
    rw [List.nodup_cons] at nd
    have hne : y ≠ x := fun e => nd.1 (by rw [e]; exact List.mem_of_getElem? hi)
    have : but (y :: r) x = y :: but r x := by simp [but, hne]
    rw [this, but_at nd.2 hi]; simp
theorem but_perm {U : List Int} {x : Int} (nd : U.Nodup) (hx : x ∈ U) : U.Perm (x :: but U x) := by
  obtain ⟨i, hi⟩ := List.mem_iff_getElem?.1 hx
  rw [but_at nd hi]
  obtain ⟨hl, rfl⟩ := List.getElem?_eq_some_iff.1 hi
  have e : U = U.take i ++ U[i] :: U.drop (i + 1) := by
    rw [← List.drop_eq_getElem_cons hl, List.take_append_drop]
  exact (List.Perm.of_eq e).trans List.perm_middle
theorem but_L {T : Int → Ent} {U : List Int} {i : Nat} {x : Int} (nd : U.Nodup) (hi : U[i]? = some x) : (but U x).map T = butE (U.map T) i := by
  rw [but_at nd hi]; unfold butE; rw [List.map_append, List.map_take, List.map_drop]

theorem set_at (s : Lst) {c : Int} {k : Nat} (a : List Int) (hl : s.L.length = 9) (h0 : 0 ≤ c) (hk : k < 9) : (setL s c a)[k]? = if (k : Int) = c then some a else s.L[k]? := by
  unfold setL
  rw [List.getElem?_set]
  by_cases e : (k : Int) = c
  · rw [if_pos (by omega), if_pos (by omega), if_pos e]
  · rw [if_neg (by omega), if_neg e]
theorem Tn.get (v : Tn lim n sl s T th C bl) {c : Int} (h0 : 0 ≤ c) (h8 : c ≤ 8) : getL s c = s.U.filter fun x => ucl (T x) == c := by
  unfold getL
  rw [v.ord c.toNat (by omega)]
  show (s.U.filter _) = _
  rw [show ((c.toNat : Nat) : Int) = c by omega]

theorem Tn.add (v : Tn lim n sl s T th C bl) (p : Pl n s) {e : Ent} (he : checkE e = 0) (hk : ∀ y ∈ s.U, (T y).key ≠ e.key) {x : Int} {r : List Int} (hF : s.F = x :: r)
    (h0 : 0 ≤ x) (hth : x ≤ th) (hn : x < n) (hU : ¬ x ∈ s.U) (hr : tk e ≤ lim - Sla.used bl) :
    Tn lim n sl ⟨setL s (ucl e) (x :: getL s (ucl e)), r, x :: s.U, s.n⟩ (chg T x e) (if x = th then th + 1 else th) (fun c => if c = sl e.key then x :: C c else C c) (bl ++ [ucl e]) := by
  obtain ⟨c0, c8, c32, _⟩ := fine_class he
  have hT : ∀ y ∈ s.U, chg T x e y = T y := fun y hy => chg_ne _ _ (fun h => hU (by rw [← h]; exact hy))
  have hths : th ≤ (if x = th then th + 1 else th) := by split <;> omega
  refine ⟨?_, ?_, ?_, ?_, ?_, ?_, ?_, ?_, ?_, ?_, v.room⟩
  · intro k hk9
    rw [set_at s _ p.len c0 hk9]
    show _ = some ((x :: s.U).filter _)
    rw [List.filter_cons, chg_at]
    have ht : (s.U.filter fun y => ucl (chg T x e y) == (k : Int)) = s.U.filter fun y => ucl (T y) == (k : Int) := filter_same fun y hy => by rw [hT y hy]
    rw [ht]
    by_cases e1 : (k : Int) = ucl e
    · rw [if_pos e1, if_pos (by simp [e1]), v.get c0 c8, e1]
    · rw [if_neg e1, if_neg (by simp; exact fun h => e1 h.symm), v.ord k hk9]
  · intro y hy
    rcases List.mem_cons.1 hy with rfl | hy
    · refine ⟨h0, ?_⟩
      by_cases e1 : y = (th : Int)
      · rw [if_pos e1]; omega
      · rw [if_neg e1]; omega
    · have := v.used y hy; omega
  · obtain ⟨D, eD, hD⟩ := v.free
    rw [hF] at eD
    by_cases e1 : x = (th : Int)
    · rw [if_pos e1]
      cases D with
      | cons d D =>
        simp at eD
        have := (hD d (List.mem_cons_self ..)).2
        omega
      | nil =>
        obtain ⟨m, hm⟩ : ∃ m, n - th = m + 1 := ⟨n - th - 1, by omega⟩
        rw [hm, List.range'_succ] at eD
        simp at eD
        refine ⟨[], ?_, fun d hd => nomatch hd⟩
        show r = _
        rw [eD.2, show n - (th + 1) = m by omega]; rfl
    · rw [if_neg e1]
      cases D with
      | cons d D =>
        simp at eD
        exact ⟨D, eD.2, fun y hy => hD y (List.mem_cons_of_mem _ hy)⟩
      | nil =>
        exfalso
        obtain ⟨m, hm⟩ : ∃ m, n - th = m + 1 := ⟨n - th - 1, by have := v.thn; have := congrArg List.length eD; simp at this; omega⟩
        rw [hm, List.range'_succ] at eD
        simp at eD
        exact e1 eD.1
  · by_cases e1 : x = (th : Int)
    · rw [if_pos e1]; omega
    · rw [if_neg e1]; exact v.thn
  · show ((x :: s.U).map fun y => (chg T x e y).key).Nodup
    have : ((x :: s.U).map fun y => (chg T x e y).key) = e.key :: s.U.map fun y => (T y).key := by
      rw [List.map_cons, chg_at]
      exact congrArg (List.cons _) (List.map_congr_left fun y hy => by rw [hT y hy])
    rw [this, List.nodup_cons]
    refine ⟨fun hm => ?_, v.keys⟩
    obtain ⟨y, hy, e1⟩ := List.mem_map.1 hm
    exact hk y hy e1
  · intro y hy
    rcases List.mem_cons.1 hy with rfl | hy
    · rw [chg_at]; exact he
    · rw [hT y hy]; exact v.fine y hy
  · intro c y
    show y ∈ (if c = sl e.key then x :: C c else C c) ↔ y ∈ x :: s.U ∧ sl (chg T x e y).key = c
    by_cases e2 : y = x
    · subst e2
      rw [chg_at]
      by_cases e1 : c = sl e.key
      · rw [if_pos e1]; simp [e1]
      · rw [if_neg e1]
        constructor
        · intro hm; exact absurd ((v.ch c y).1 hm).1 hU
        · rintro ⟨_, h⟩; exact absurd h.symm e1
    · rw [chg_ne _ _ e2]
      have a1 : y ∈ x :: s.U ↔ y ∈ s.U := by simp [e2]
      rw [a1, ← v.ch c y]
      by_cases e1 : c = sl e.key
      · rw [if_pos e1]; simp [e2]
      · rw [if_neg e1]
  · intro c
    show (if c = sl e.key then x :: C c else C c).Nodup
    by_cases e1 : c = sl e.key
    · rw [if_pos e1, List.nodup_cons]
      exact ⟨fun hm => hU ((v.ch c x).1 hm).1, v.cnd c⟩
    · rw [if_neg e1]; exact v.cnd c
  · show (bl ++ [ucl e]).Perm ((x :: s.U).map fun y => ucl (chg T x e y))
    have : ((x :: s.U).map fun y => ucl (chg T x e y)) = ucl e :: s.U.map fun y => ucl (T y) := by
      rw [List.map_cons, chg_at]
      exact congrArg (List.cons _) (List.map_congr_left fun y hy => by rw [hT y hy])
    rw [this]
    exact (List.perm_append_comm (l₁ := bl) (l₂ := [ucl e])).trans (v.bud.cons _)
  · rw [Sla.used_snoc]
    show _ + tk e ≤ lim
    omega

theorem Tn.drop (v : Tn lim n sl s T th C bl) (p : Pl n s) {x : Int} (hx : x ∈ s.U) :
    Tn lim n sl ⟨setL s (whereP s.L x) (but (getL s (whereP s.L x)) x), x :: s.F, but s.U x, s.n⟩ (chg T x zeroE) th (fun c => if c = sl (T x).key then but (C c) x else C c) (bl.erase (ucl (T x))) := by
  obtain ⟨c0, c8, c32, _⟩ := fine_class (v.fine x hx)
  have hT : ∀ y ∈ but s.U x, chg T x zeroE y = T y := fun y hy => chg_ne _ _ (mem_but.1 hy).2
  have hmem : ucl (T x) ∈ bl := v.bud.mem_iff.2 (List.mem_map.2 ⟨x, hx, rfl⟩)
  rw [v.where_ hx]
  refine ⟨?_, ?_, ?_, v.thn, ?_, ?_, ?_, ?_, ?_, ?_, v.room⟩
  · intro k hk9
    rw [set_at s _ p.len c0 hk9]
    show _ = some ((but s.U x).filter _)
    have ht : ((but s.U x).filter fun y => ucl (chg T x zeroE y) == (k : Int)) = (but s.U x).filter fun y => ucl (T y) == (k : Int) := filter_same fun y hy => by rw [hT y hy]
    rw [ht]
    unfold but
    rw [List.filter_filter]
    by_cases e1 : (k : Int) = ucl (T x)
    · rw [if_pos e1, v.get c0 c8, List.filter_filter]
      exact congrArg some (filter_same fun y _ => by rw [e1, Bool.and_comm])
    · rw [if_neg e1, v.ord k hk9]
      refine congrArg some (filter_same fun y _ => ?_)
      by_cases e2 : y = x
      · subst e2
        simp
        exact fun h => e1 h.symm
      · simp [e2]
  · intro y hy
    exact v.used y (mem_but.1 hy).1
  · obtain ⟨D, eD, hD⟩ := v.free
    refine ⟨x :: D, by show x :: s.F = _; rw [eD]; rfl, fun d hd => ?_⟩
    rcases List.mem_cons.1 hd with rfl | hd
    · exact v.used d hx
    · exact hD d hd
  · show ((but s.U x).map fun y => (chg T x zeroE y).key).Nodup
    have : ((but s.U x).map fun y => (chg T x zeroE y).key) = (but s.U x).map fun y => (T y).key := List.map_congr_left fun y hy => by rw [hT y hy]
    rw [this]
    exact List.Nodup.sublist (List.Sublist.map _ List.filter_sublist) v.keys
  · intro y hy
    rw [hT y hy]; exact v.fine y (mem_but.1 hy).1
  · intro c y
    show y ∈ (if c = sl (T x).key then but (C c) x else C c) ↔ y ∈ but s.U x ∧ sl (chg T x zeroE y).key = c
    by_cases e2 : y = x
    · subst e2
      constructor
      · intro hm
        by_cases e1 : c = sl (T y).key
        · rw [if_pos e1] at hm; exact absurd rfl (mem_but.1 hm).2
        · rw [if_neg e1] at hm; exact absurd ((v.ch c y).1 hm).2.symm e1
      · rintro ⟨hm, _⟩; exact absurd rfl (mem_but.1 hm).2
    · rw [chg_ne _ _ e2, mem_but]
      by_cases e1 : c = sl (T x).key
      · rw [if_pos e1, mem_but, v.ch c y]
        constructor
        · rintro ⟨⟨a, b⟩, c⟩; exact ⟨⟨a, c⟩, b⟩
        · rintro ⟨⟨a, b⟩, c⟩; exact ⟨⟨a, c⟩, b⟩
      · rw [if_neg e1, v.ch c y]; simp [e2]
  · intro c
    show (if c = sl (T x).key then but (C c) x else C c).Nodup
    by_cases e1 : c = sl (T x).key
    · rw [if_pos e1]; exact Lis.but_nodup (v.cnd c) x
    · rw [if_neg e1]; exact v.cnd c
  · show (bl.erase (ucl (T x))).Perm ((but s.U x).map fun y => ucl (chg T x zeroE y))
    have : ((but s.U x).map fun y => ucl (chg T x zeroE y)) = (but s.U x).map fun y => ucl (T y) := List.map_congr_left fun y hy => by rw [hT y hy]
    rw [this]
    have h1 := v.bud.trans ((but_perm p.ndU hx).map fun y => ucl (T y))
    rw [List.map_cons] at h1
    have h2 := h1.erase (ucl (T x))
    rwa [List.erase_cons_head] at h2
  · rw [Sla.used_erase hmem]
    have := v.low
    have := Sla.sz_nonneg (ucl (T x))
    omega

theorem Tn.touch (v : Tn lim n sl s T th C bl) (p : Pl n s) {x : Int} (hx : x ∈ s.U) :
    Tn lim n sl ⟨setL s (whereP s.L x) (x :: but (getL s (whereP s.L x)) x), s.F, x :: but s.U x, s.n⟩ T th C bl := by
  obtain ⟨c0, c8, c32, _⟩ := fine_class (v.fine x hx)
  have hmm : ∀ y, y ∈ x :: but s.U x ↔ y ∈ s.U := fun y => (but_perm p.ndU hx).symm.mem_iff
  rw [v.where_ hx]
  refine ⟨?_, ?_, v.free, v.thn, ?_, ?_, ?_, v.cnd, ?_, v.low, v.room⟩
  · intro k hk9
    rw [set_at s _ p.len c0 hk9]
    show _ = some ((x :: but s.U x).filter _)
    rw [List.filter_cons]
    unfold but
    rw [List.filter_filter]
    by_cases e1 : (k : Int) = ucl (T x)
    · rw [if_pos e1, if_pos (by simp [e1]), v.get c0 c8, List.filter_filter]
      exact congrArg (fun l => some (x :: l)) (filter_same fun y _ => by rw [e1, Bool.and_comm])
    · rw [if_neg e1, if_neg (by simp; exact fun h => e1 h.symm), v.ord k hk9]
      refine congrArg some (filter_same fun y _ => ?_)
      by_cases e2 : y = x
      · subst e2
        simp
        exact fun h => e1 h.symm
      · simp [e2]
  · intro y hy
    exact v.used y ((hmm y).1 hy)
  · show ((x :: but s.U x).map fun y => (T y).key).Nodup
    exact ((but_perm p.ndU hx).map fun y => (T y).key).nodup_iff.1 v.keys
  · intro y hy
    exact v.fine y ((hmm y).1 hy)
  · intro c y
    rw [v.ch c y, hmm y]
  · exact v.bud.trans ((but_perm p.ndU hx).map fun y => ucl (T y))
end Go.Proofs.YtkgecpplgjfhiaaGreatDoor
