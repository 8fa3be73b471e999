/-
  The program's lists in memory: an object, its links, its lengths; how single cells are read and written.
-/
import Derived.KernelRfl
import Derived.Test.YtkgecpplgjfhiaaGreatDoorQFlt
import Derived.WalkKit
import Derived.WalkSpells
import Derived.WalkLawsBesides
import Derived.Handy
import Derived.Deep.LoopGhost
import Derived.Deep.QuietTactic
import Derived.BigQuiet
import Derived.Deep.RegionWith
namespace Go.Proofs.YtkgecpplgjfhiaaGreatDoor.Lis

/-- Numbers without one. -/
def but (l : List Int) (x : Int) : List Int := l.filter fun y => y != x
theorem mem_but {l : List Int} {x y : Int} : y ∈ but l x ↔ y ∈ l ∧ y ≠ x := by simp [but]
theorem but_none {l : List Int} {x : Int} (h : ¬ x ∈ l) : but l x = l := by
  unfold but
  rw [List.filter_eq_self]
  intro y hy
  simp only [bne_iff_ne, ne_eq]
  rintro rfl
  exact h hy
theorem but_nodup {l : List Int} (h : l.Nodup) (x : Int) : (but l x).Nodup := h.filter _
theorem but_length {l : List Int} {x : Int} (h : l.Nodup) (hx : x ∈ l) : (but l x).length + 1 = l.length := by
  induction l with
  | nil => cases hx
  | cons y r ih =>
    rw [List.nodup_cons] at h
    by_cases e : y = x
    · subst e
      have : but (y :: r) y = r := by
        have h1 : but (y :: r) y = but r y := by simp [but]
        rw [h1, but_none h.1]
      rw [this]; rfl
    · have h1 : but (y :: r) x = y :: but r x := by simp [but, e]
      rw [h1, List.length_cons, List.length_cons, ih h.2 (by rcases List.mem_cons.1 hx with h | h; exact absurd h.symm e; exact h)]
theorem but_take_snoc {l : List Int} {k : Nat} {y : Int} (h : l[k]? = some y) (x : Int) : but (l.take (k + 1)) x = but (l.take k) x ++ (if y = x then [] else [y]) := by
  obtain ⟨hl, rfl⟩ := List.getElem?_eq_some_iff.1 h
  rw [List.take_succ_eq_append_getElem hl]
  unfold but
  rw [List.filter_append]
  congr 1
  by_cases e : l[k] = x
  · rw [if_pos e]; simp [e]
  · rw [if_neg e]; simp [e]

/-- The first list that has a node; -1: none. -/
def fnd : List (List Int) → Nat → Int → Int
  | [], _, _ => -1
  | a :: r, i, x => if x ∈ a then (i : Int) else fnd r (i + 1) x
def whereP (L : List (List Int)) (x : Int) : Int := fnd L 0 x
theorem fnd_none {L : List (List Int)} {i : Nat} {x : Int} (h : ∀ a ∈ L, ¬ x ∈ a) : fnd L i x = -1 := by
  induction L generalizing i with
  | nil => rfl
  | cons a r ih =>
    unfold fnd
    rw [if_neg (h a (List.mem_cons_self ..))]
    exact ih (fun b hb => h b (List.mem_cons_of_mem _ hb))
theorem fnd_some {L : List (List Int)} {i k : Nat} {x : Int} {a : List Int} (hk : L[k]? = some a) (ha : x ∈ a) (h : ∀ j b, j < k → L[j]? = some b → ¬ x ∈ b) : fnd L i x = ((i + k : Nat) : Int) := by
  induction L generalizing i k with
  | nil => simp at hk
  | cons c r ih =>
    unfold fnd
    cases k with
    | zero =>
      simp at hk
      subst hk
      rw [if_pos ha]
      rfl
    | succ k =>
      rw [if_neg (h 0 c (by omega) rfl)]
      rw [ih (i := i + 1) (k := k) (by simpa using hk) (fun j b hj hb => h (j + 1) b (by omega) (by simpa using hb))]
      congr 1
      omega

/-- Lists, as the document has them. -/
structure Lst where
  L : List (List Int)
  F : List Int
  U : List Int
  n : Int
def newP (lists nodes : Nat) : Lst := ⟨List.replicate lists [], (List.range nodes).map fun (k : Nat) => (k : Int), [], nodes⟩
def setL (s : Lst) (k : Int) (a : List Int) : List (List Int) := s.L.set k.toNat a
def getL (s : Lst) (k : Int) : List Int := s.L[k.toNat]?.getD []
/-- Add: the lists behind it, the node, the code. -/
def addP (s : Lst) (k : Int) : Lst × Int × Int :=
  if k < 0 ∨ (s.L.length : Int) ≤ k then (s, -1, 2) else
  match s.F with
  | [] => (s, -1, 4)
  | x :: r => (⟨setL s k (x :: getL s k), r, x :: s.U, s.n⟩, x, 0)
/-- Why a node can't be asked for. -/
def atP (s : Lst) (x : Int) : Int := if x < 0 ∨ s.n ≤ x then 2 else if whereP s.L x < 0 then 9 else 0
def dropP (s : Lst) (x : Int) : Lst × Int :=
  if atP s x ≠ 0 then (s, atP s x) else (⟨setL s (whereP s.L x) (but (getL s (whereP s.L x)) x), x :: s.F, but s.U x, s.n⟩, 0)
def touchP (s : Lst) (x : Int) : Lst × Int :=
  if atP s x ≠ 0 then (s, atP s x) else (⟨setL s (whereP s.L x) (x :: but (getL s (whereP s.L x)) x), s.F, x :: but s.U x, s.n⟩, 0)
def lastP (l : List Int) : Int := l.getLast?.getD (-1)

/-- What lists there are: each node is free or used, once; each list is the nodes of it among the used ones, in their order. -/
structure Ok (s : Lst) (f : Int → Nat) : Prop where
  nd : (s.F ++ s.U).Nodup
  all : ∀ x, x ∈ s.F ++ s.U ↔ 0 ≤ x ∧ x < s.n
  lt : ∀ x ∈ s.U, f x < s.L.length
  at_ : ∀ k a, s.L[k]? = some a → a = s.U.filter fun x => f x == k

theorem Ok.ndU {s : Lst} {f : Int → Nat} (h : Ok s f) : s.U.Nodup := (List.nodup_append.1 h.nd).2.1
theorem Ok.ndF {s : Lst} {f : Int → Nat} (h : Ok s f) : s.F.Nodup := (List.nodup_append.1 h.nd).1
theorem Ok.dis {s : Lst} {f : Int → Nat} (h : Ok s f) {x : Int} (hF : x ∈ s.F) : ¬ x ∈ s.U := fun hU => (List.nodup_append.1 h.nd).2.2 x hF x hU rfl
theorem Ok.list {s : Lst} {f : Int → Nat} (h : Ok s f) {x : Int} (hx : x ∈ s.U) : s.L[f x]? = some (s.U.filter fun y => f y == f x) := by
  have hl := h.lt x hx
  have e : s.L[f x]? = some s.L[f x] := List.getElem?_eq_getElem hl
  rw [e, ← h.at_ (f x) _ e]
theorem Ok.where_ {s : Lst} {f : Int → Nat} (h : Ok s f) {x : Int} (hx : x ∈ s.U) : whereP s.L x = (f x : Int) := by
  unfold whereP
  rw [fnd_some (i := 0) (h.list hx) (by simp [hx]) ?_]
  · rw [Nat.zero_add]
  · intro j b hj hb hm
    rw [h.at_ j b hb] at hm
    have := (List.mem_filter.1 hm).2
    simp at this
    omega
theorem Ok.none_ {s : Lst} {f : Int → Nat} (h : Ok s f) {x : Int} (hx : ¬ x ∈ s.U) : whereP s.L x = -1 := by
  unfold whereP
  refine fnd_none (fun a ha hm => ?_)
  obtain ⟨k, hk⟩ := List.mem_iff_getElem?.1 ha
  rw [h.at_ k a hk] at hm
  exact hx (List.mem_filter.1 hm).1
theorem Ok.get {s : Lst} {f : Int → Nat} (h : Ok s f) {k : Int} (h0 : 0 ≤ k) (hk : k < s.L.length) : getL s k = s.U.filter fun x => f x == k.toNat := by
  unfold getL
  have e : s.L[k.toNat]? = some s.L[k.toNat] := List.getElem?_eq_getElem (by omega)
  rw [e]
  exact h.at_ _ _ e
theorem Ok.new (lists nodes : Nat) : Ok (newP lists nodes) (fun _ => 0) := by
  refine ⟨?_, ?_, ?_, ?_⟩
  · simp only [newP, List.append_nil]
    exact List.Pairwise.map _ (fun a b (hab : a ≠ b) => by omega) List.nodup_range
  · intro x
    simp only [newP, List.append_nil, List.mem_map, List.mem_range]
    constructor
    · rintro ⟨k, hk, rfl⟩; omega
    · intro ⟨h0, h1⟩; exact ⟨x.toNat, by omega, by omega⟩
  · intro x hx; simp [newP] at hx
  · intro k a hk
    simp only [newP] at hk
    rw [List.getElem?_replicate] at hk
    split at hk
    · simp at hk; subst hk; simp [newP]
    · cases hk

/-- Where the nodes are, behind an Add. -/
def upd (f : Int → Nat) (x : Int) (k : Nat) : Int → Nat := fun y => if y = x then k else f y
theorem Ok.add {s : Lst} {f : Int → Nat} (h : Ok s f) {x : Int} {r : List Int} (hF : s.F = x :: r) {k : Int} (h0 : 0 ≤ k) (hk : k < s.L.length) :
    Ok ⟨setL s k (x :: getL s k), r, x :: s.U, s.n⟩ (upd f x k.toNat) := by
  have hnd := h.nd
  have hall := h.all
  rw [hF] at hnd hall
  have hxU : ¬ x ∈ s.U := h.dis (by rw [hF]; exact List.mem_cons_self ..)
  have hfl : ∀ j, (s.U.filter fun y => upd f x k.toNat y == j) = s.U.filter fun y => f y == j := fun j => by
    refine List.filter_congr (fun y hy => ?_)
    have : y ≠ x := fun e => hxU (e ▸ hy)
    simp [upd, this]
  refine ⟨?_, ?_, ?_, ?_⟩
  · show (r ++ x :: s.U).Nodup
    exact (List.perm_middle.nodup_iff).2 hnd
  · intro y
    show y ∈ r ++ x :: s.U ↔ _
    rw [← hall y]
    exact List.perm_middle.mem_iff
  · intro y hy
    show upd f x k.toNat y < (s.L.set k.toNat _).length
    rw [List.length_set]
    unfold upd
    split
    · omega
    · rcases List.mem_cons.1 hy with e | e
      · exact absurd e ‹_›
      · exact h.lt y e
  · intro j a ha
    show a = (x :: s.U).filter _
    rw [List.filter_cons, hfl]
    have ha' : (s.L.set k.toNat (x :: getL s k))[j]? = some a := ha
    rw [List.getElem?_set] at ha'
    by_cases e : k.toNat = j
    · rw [if_pos e, if_pos (by omega)] at ha'
      cases ha'
      rw [h.get h0 hk, if_pos (by simp [upd, e]), e]
    · rw [if_neg e] at ha'
      rw [h.at_ j a ha', if_neg (by simp [upd]; exact e)]
theorem filter_but (U : List Int) (x : Int) (p : Int → Bool) : (but U x).filter p = but (U.filter p) x := by
  unfold but
  rw [List.filter_filter, List.filter_filter]
  exact List.filter_congr (fun y _ => Bool.and_comm _ _)
theorem Ok.drop {s : Lst} {f : Int → Nat} (h : Ok s f) {x : Int} (hx : x ∈ s.U) :
    Ok ⟨setL s (f x) (but (getL s (f x)) x), x :: s.F, but s.U x, s.n⟩ f := by
  have hl := h.lt x hx
  refine ⟨?_, ?_, ?_, ?_⟩
  · show (x :: s.F ++ but s.U x).Nodup
    rw [List.cons_append, List.nodup_cons]
    refine ⟨fun hm => ?_, ?_⟩
    · rcases List.mem_append.1 hm with hm | hm
      · exact h.dis hm hx
      · exact (mem_but.1 hm).2 rfl
    · rw [List.nodup_append]
      exact ⟨h.ndF, but_nodup h.ndU x, fun a ha b hb e => h.dis ha (e ▸ (mem_but.1 hb).1)⟩
  · intro y
    show y ∈ x :: s.F ++ but s.U x ↔ _
    rw [← h.all y, List.cons_append, List.mem_cons, List.mem_append, List.mem_append, mem_but]
    by_cases e : y = x
    · subst e; simp [hx]
    · simp [e]
  · intro y hy
    show f y < (s.L.set _ _).length
    rw [List.length_set]
    exact h.lt y (mem_but.1 hy).1
  · intro j a ha
    show a = (but s.U x).filter _
    rw [filter_but]
    have ha' : (s.L.set (f x : Int).toNat (but (getL s (f x)) x))[j]? = some a := ha
    rw [List.getElem?_set] at ha'
    by_cases e : (f x : Int).toNat = j
    · rw [if_pos e, if_pos (by omega)] at ha'
      cases ha'
      rw [h.get (by omega) (by omega), e]
    · rw [if_neg e] at ha'
      rw [← h.at_ j a ha', but_none]
      rw [h.at_ j a ha']
      intro hm
      have := (List.mem_filter.1 hm).2
      simp at this
      omega
theorem Ok.touch {s : Lst} {f : Int → Nat} (h : Ok s f) {x : Int} (hx : x ∈ s.U) :
    Ok ⟨setL s (f x) (x :: but (getL s (f x)) x), s.F, x :: but s.U x, s.n⟩ f := by
  have hl := h.lt x hx
  refine ⟨?_, ?_, ?_, ?_⟩
  · show (s.F ++ x :: but s.U x).Nodup
    rw [List.perm_middle.nodup_iff, List.nodup_cons]
    refine ⟨fun hm => ?_, ?_⟩
    · rcases List.mem_append.1 hm with hm | hm
      · exact h.dis hm hx
      · exact (mem_but.1 hm).2 rfl
    · rw [List.nodup_append]
      exact ⟨h.ndF, but_nodup h.ndU x, fun a ha b hb e => h.dis ha (e ▸ (mem_but.1 hb).1)⟩
  · intro y
    show y ∈ s.F ++ x :: but s.U x ↔ _
    rw [← h.all y, List.mem_append, List.mem_append, List.mem_cons, mem_but]
    by_cases e : y = x
    · subst e; simp [hx]
    · simp [e]
  · intro y hy
    show f y < (s.L.set _ _).length
    rw [List.length_set]
    rcases List.mem_cons.1 hy with rfl | e
    · exact hl
    · exact h.lt y (mem_but.1 e).1
  · intro j a ha
    show a = (x :: but s.U x).filter _
    rw [List.filter_cons, filter_but]
    have ha' : (s.L.set (f x : Int).toNat (x :: but (getL s (f x)) x))[j]? = some a := ha
    rw [List.getElem?_set] at ha'
    by_cases e : (f x : Int).toNat = j
    · rw [if_pos e, if_pos (by omega)] at ha'
      cases ha'
      rw [h.get (by omega) (by omega), if_pos (by simp; omega), e]
    · rw [if_neg e] at ha'
      rw [if_neg (by simp; omega), ← h.at_ j a ha', but_none]
      rw [h.at_ j a ha']
      intro hm
      have := (List.mem_filter.1 hm).2
      simp at this
      omega
/-- A node that was touched is not the oldest one, if there are others. -/
theorem touch_last {U : List Int} {x : Int} (hnd : U.Nodup) (hx : x ∈ U) (h2 : 2 ≤ U.length) : lastP (x :: but U x) ≠ x := by
  have hl := but_length hnd hx
  have hne : but U x ≠ [] := by intro e; rw [e] at hl; simp at hl; omega
  unfold lastP
  rw [List.getLast?_cons_of_ne_nil hne, List.getLast?_eq_some_getLast hne]
  intro e
  exact (mem_but.1 (List.getLast_mem hne)).2 e
end Go.Proofs.YtkgecpplgjfhiaaGreatDoor.Lis

namespace Go.Proofs.YtkgecpplgjfhiaaGreatDoor.Lis

/-- A function changed at one place. -/
def up (f : Int → Int) (x v : Int) : Int → Int := fun y => if y = x then v else f y
theorem up_at (f : Int → Int) (x v : Int) : up f x v x = v := if_pos rfl
theorem up_ne (f : Int → Int) {x y : Int} (v : Int) (h : y ≠ x) : up f x v y = f y := if_neg h

/-- From a link over others to a link: each stands right behind the one ahead of it. -/
def Seg (A B : Int → Int) : Int → List Int → Int → Prop
  | a, [], b => B a = b ∧ A b = a
  | a, x :: r, b => (B a = x ∧ A x = a) ∧ Seg A B x r b
theorem Seg.frame {A B A' B' : Int → Int} {a : Int} {l : List Int} {b : Int} (h : Seg A B a l b) (hB : ∀ y ∈ a :: l, B' y = B y) (hA : ∀ y ∈ l ++ [b], A' y = A y) : Seg A' B' a l b := by
  induction l generalizing a with
  | nil => exact ⟨(hB a (by simp)).trans h.1, (hA b (by simp)).trans h.2⟩
  | cons x r ih => exact ⟨⟨(hB a (by simp)).trans h.1.1, (hA x (by simp)).trans h.1.2⟩, ih h.2 (fun y hy => hB y (List.mem_cons_of_mem _ hy)) (fun y hy => hA y (by simp at hy ⊢; rcases hy with hy | hy <;> simp [hy]))⟩
theorem Seg.at_ {A B : Int → Int} {a : Int} {l : List Int} {b : Int} (h : Seg A B a l b) {i : Nat} {y z : Int} (hy : (a :: l)[i]? = some y) (hz : (l ++ [b])[i]? = some z) : B y = z ∧ A z = y := by
  induction l generalizing a i with
  | nil =>
    cases i with
    | zero => simp at hy hz; subst hy hz; exact h
    | succ i => simp at hy
  | cons x r ih =>
    cases i with
    | zero => simp at hy hz; subst hy hz; exact h.1
    | succ i => exact ih h.2 (by simpa using hy) (by simpa using hz)
theorem Seg.split {A B : Int → Int} {a x b : Int} {p q : List Int} : Seg A B a (p ++ x :: q) b ↔ Seg A B a p x ∧ Seg A B x q b := by
  induction p generalizing a with
  | nil => exact Iff.rfl
  | cons y r ih =>
    show ((B a = y ∧ A y = a) ∧ Seg A B y (r ++ x :: q) b) ↔ ((B a = y ∧ A y = a) ∧ Seg A B y r x) ∧ Seg A B x q b
    rw [ih]
    exact and_assoc.symm
theorem Seg.first {A B : Int → Int} {a : Int} {l : List Int} {b : Int} (h : Seg A B a l b) : B a ∈ l ++ [b] := by
  cases l with
  | nil => rw [h.1]; simp
  | cons x r => rw [h.1.1]; simp
theorem Seg.last {A B : Int → Int} {a : Int} {l : List Int} {b : Int} (h : Seg A B a l b) : A b ∈ a :: l := by
  induction l generalizing a with
  | nil => rw [h.2]; simp
  | cons x r ih => exact List.mem_cons_of_mem _ (ih h.2)
/-- What was between two links is taken out. -/
theorem Seg.drop {A B : Int → Int} {a x b : Int} {p q : List Int} (h1 : Seg A B a p x) (h2 : Seg A B x q b) (n1 : (a :: p).Nodup) (n2 : q.Nodup) (d1 : ∀ y ∈ a :: p, ¬ y ∈ q) (d2 : ∀ y ∈ p, y ≠ b) (d3 : ¬ b ∈ q) :
    Seg (up A (B x) (A x)) (up B (A x) (B x)) a (p ++ q) b := by
  induction p generalizing a with
  | nil =>
    obtain ⟨_, hA⟩ := h1
    rw [hA]
    have ha : ¬ a ∈ q := d1 a (by simp)
    cases q with
    | nil =>
      rw [h2.1]
      exact ⟨up_at _ _ _, up_at _ _ _⟩
    | cons y r =>
      rw [h2.1.1]
      rw [List.nodup_cons] at n2
      refine ⟨⟨up_at _ _ _, up_at _ _ _⟩, h2.2.frame (fun z hz => up_ne _ _ (fun e => ha (e ▸ hz))) (fun z hz => up_ne _ _ (fun e => ?_))⟩
      subst e
      rcases List.mem_append.1 hz with hz | hz
      · exact n2.1 hz
      · simp at hz; subst hz; exact d3 (List.mem_cons_self ..)
  | cons y r ih =>
    obtain ⟨⟨e1, e2⟩, h1⟩ := h1
    rw [List.nodup_cons] at n1
    have hl := h1.last
    have hf := h2.first
    refine ⟨⟨?_, ?_⟩, ih h1 n1.2 (fun z hz => d1 z (List.mem_cons_of_mem _ hz)) (fun z hz => d2 z (List.mem_cons_of_mem _ hz))⟩
    · rw [up_ne _ _ (fun e => n1.1 (by rw [e]; exact hl)), e1]
    · rw [up_ne _ _ (fun e => ?_), e2]
      rw [← e] at hf
      rcases List.mem_append.1 hf with hf | hf
      · exact d1 y (by simp) hf
      · simp at hf; exact d2 y (by simp) hf

/-- What the program keeps: of each link the ones ahead and behind, its list, its last use; of each list how many; how many uses. -/
structure St where
  A : Int → Int
  B : Int → Int
  P : Int → Int
  S : Int → Int
  len : Int → Int
  uses : Int
def tieP (t : St) (a b : Int) : St := { t with B := up t.B a b, A := up t.A b a }
def takeP (t : St) (x : Int) : St := { tieP t (t.A x) (t.B x) with len := up t.len (t.P x) (t.len (t.P x) - 1) }
def putP (n : Int) (t : St) (x k : Int) : St := { tieP (tieP t x (t.B (n + k))) (n + k) x with P := up t.P x k, len := up t.len k (t.len k + 1) }
def useP (n : Int) (t : St) (x k : Int) : St := { putP n t x k with uses := t.uses + 1, S := up t.S x (t.uses + 1) }

/-- The rings of a state: each list is the nodes of a ring that its end closes. -/
def Rings (n : Int) (t : St) (R : List (List Int)) : Prop :=
  ∀ (k : Nat) l, R[k]? = some l → Seg t.A t.B (n + k) l (n + k) ∧ t.len k = l.length ∧ t.P (n + k) = k ∧ l.Nodup ∧ ∀ x ∈ l, 0 ≤ x ∧ x < n ∧ t.P x = k

theorem Rings.one {n : Int} {t : St} {R : List (List Int)} (h : Rings n t R) {j k : Nat} {l m : List Int} {x : Int} (hj : R[j]? = some l) (hk : R[k]? = some m) (h1 : x ∈ (n + j) :: l) (h2 : x ∈ (n + k) :: m) : j = k := by
  obtain ⟨_, _, p1, _, q1⟩ := h j l hj
  obtain ⟨_, _, p2, _, q2⟩ := h k m hk
  have e1 : t.P x = j := (List.mem_cons.1 h1).elim (fun e => e ▸ p1) (fun e => (q1 x e).2.2)
  have e2 : t.P x = k := (List.mem_cons.1 h2).elim (fun e => e ▸ p2) (fun e => (q2 x e).2.2)
  omega
theorem mem_swap {l : List Int} {e x : Int} : x ∈ l ++ [e] ↔ x ∈ e :: l := by simp [or_comm]
theorem but_split {p q : List Int} {x : Int} (h : (p ++ x :: q).Nodup) : but (p ++ x :: q) x = p ++ q := by
  have hp := List.nodup_append.1 h
  have hq := List.nodup_cons.1 hp.2.1
  have e1 : but (p ++ x :: q) x = but p x ++ but q x := by simp [but]
  rw [e1, but_none (fun hm => hp.2.2 x hm x (by simp) rfl), but_none hq.1]

/-- A node is taken out of its ring. -/
theorem Rings.take {n : Int} {t : St} {R : List (List Int)} (h : Rings n t R) {k : Nat} {l : List Int} (hk : R[k]? = some l) {x : Int} (hx : x ∈ l) : Rings n (takeP t x) (R.set k (but l x)) := by
  obtain ⟨s1, s2, s3, s4, s5⟩ := h k l hk
  have hPx := (s5 x hx).2.2
  have hAx : t.A x ∈ (n + k) :: l := by
    obtain ⟨p, q, rfl⟩ := List.append_of_mem hx
    have := (Seg.split.1 s1).1.last
    simp at this ⊢
    rcases this with h | h <;> simp [h]
  have hBx : t.B x ∈ l ++ [n + (k : Int)] := by
    obtain ⟨p, q, rfl⟩ := List.append_of_mem hx
    have := (Seg.split.1 s1).2.first
    simp at this ⊢
    rcases this with h | h <;> simp [h]
  intro j m hj
  rw [List.getElem?_set] at hj
  by_cases e : k = j
  · subst e
    rw [if_pos rfl] at hj
    split at hj
    · cases hj
      refine ⟨?_, ?_, s3, but_nodup s4 x, fun y hy => s5 y (mem_but.1 hy).1⟩
      · obtain ⟨p, q, rfl⟩ := List.append_of_mem hx
        rw [but_split s4]
        obtain ⟨g1, g2⟩ := Seg.split.1 s1
        have hp := List.nodup_append.1 s4
        have hq := List.nodup_cons.1 hp.2.1
        have hen : ∀ y ∈ p ++ x :: q, y ≠ n + (k : Int) := fun y hy e => by have := (s5 y hy).2.1; omega
        refine g1.drop g2 (List.nodup_cons.2 ⟨fun hm => hen _ (by simp [hm]) rfl, hp.1⟩) hq.2 (fun y hy hm => ?_) (fun y hy => hen y (by simp [hy])) (fun hm => hen _ (by simp [hm]) rfl)
        rcases List.mem_cons.1 hy with rfl | hy
        · exact hen _ (by simp [hm]) rfl
        · exact hp.2.2 y hy y (by simp [hm]) rfl
      · show up t.len (t.P x) _ _ = _
        have := but_length s4 hx
        rw [hPx, up_at, s2]
        omega
    · cases hj
  · rw [if_neg e] at hj
    obtain ⟨r1, r2, r3, r4, r5⟩ := h j m hj
    refine ⟨r1.frame (fun y hy => up_ne _ _ (fun ee => ?_)) (fun y hy => up_ne _ _ (fun ee => ?_)), ?_, r3, r4, r5⟩
    · subst ee; exact e (h.one hk hj hAx hy)
    · subst ee; exact e (h.one hk hj (mem_swap.1 hBx) (mem_swap.1 hy))
    · show up t.len (t.P x) _ _ = _
      rw [hPx, up_ne _ _ (by omega), r2]
/-- A node that stands nowhere is put ahead in a ring. -/
theorem Rings.put {n : Int} {t : St} {R : List (List Int)} (h : Rings n t R) {k : Nat} {l : List Int} (hk : R[k]? = some l) {x : Int} (h0 : 0 ≤ x) (h1 : x < n) (hx : ∀ m ∈ R, ¬ x ∈ m) : Rings n (putP n t x k) (R.set k (x :: l)) := by
  obtain ⟨s1, s2, s3, s4, s5⟩ := h k l hk
  have hB := s1.first
  have hxl : ¬ x ∈ l := hx l (List.mem_iff_getElem?.2 ⟨k, hk⟩)
  have hxe : ∀ i : Nat, n + (i : Int) ≠ x := fun i e => by omega
  intro j m hj
  rw [List.getElem?_set] at hj
  by_cases e : k = j
  · subst e
    rw [if_pos rfl] at hj
    split at hj
    · cases hj
      have hen : ∀ y ∈ l, y ≠ n + (k : Int) := fun y hy e => by have := (s5 y hy).2.1; omega
      refine ⟨⟨⟨?_, ?_⟩, ?_⟩, ?_, ?_, List.nodup_cons.2 ⟨hxl, s4⟩, ?_⟩
      · exact up_at _ _ _
      · exact up_at _ _ _
      · show Seg (up (up t.A (t.B (n + k)) x) x (n + k)) (up (up t.B x (t.B (n + k))) (n + k) x) x l (n + k)
        cases l with
        | nil =>
          refine ⟨?_, ?_⟩
          · rw [up_ne _ _ (fun e => hxe k e.symm), up_at, s1.1]
          · rw [up_ne _ _ (hxe k), s1.1, up_at]
        | cons y r =>
          have hyx : y ≠ x := fun e => hxl (by simp [e])
          rw [List.nodup_cons] at s4
          refine ⟨⟨?_, ?_⟩, s1.2.frame (fun z hz => ?_) (fun z hz => ?_)⟩
          · rw [up_ne _ _ (fun e => hxe k e.symm), up_at, s1.1.1]
          · rw [up_ne _ _ hyx, s1.1.1, up_at]
          · rw [up_ne _ _ (hen z hz), up_ne _ _ (fun e => hxl (by rw [← e]; exact hz))]
          · rw [s1.1.1]
            rcases List.mem_append.1 hz with hz | hz
            · rw [up_ne _ _ (fun e => hxl (by rw [← e]; exact List.mem_cons_of_mem _ hz)), up_ne _ _ (fun e => s4.1 (by rw [← e]; exact hz))]
            · simp at hz
              subst hz
              rw [up_ne _ _ (hxe k), up_ne _ _ (fun e => hen y (by simp) e.symm)]
      · show up t.len k _ _ = _
        rw [up_at, s2, List.length_cons]
        omega
      · show up t.P x k (n + k) = _
        rw [up_ne _ _ (hxe k), s3]
      · intro y hy
        rcases List.mem_cons.1 hy with rfl | hy
        · exact ⟨h0, h1, up_at _ _ _⟩
        · obtain ⟨a, b, c⟩ := s5 y hy
          refine ⟨a, b, ?_⟩
          show up t.P x k y = _
          rw [up_ne _ _ (fun e => hxl (by rw [← e]; exact hy)), c]
    · cases hj
  · rw [if_neg e] at hj
    obtain ⟨r1, r2, r3, r4, r5⟩ := h j m hj
    have hxm : ¬ x ∈ m := hx m (List.mem_iff_getElem?.2 ⟨j, hj⟩)
    refine ⟨r1.frame (fun y hy => ?_) (fun y hy => ?_), ?_, ?_, r4, fun y hy => ?_⟩
    · show up (up t.B x _) (n + k) x y = _
      rw [up_ne _ _ (fun ee => e (h.one hk hj (by simp) (ee ▸ hy))), up_ne _ _ (fun ee => ?_)]
      rcases List.mem_cons.1 hy with hy | hy
      · exact hxe j (hy.symm.trans ee)
      · exact hxm (ee ▸ hy)
    · show up (up t.A (t.B (n + k)) x) x (n + k) y = _
      rw [up_ne _ _ (fun ee => ?_), up_ne _ _ (fun ee => e (h.one hk hj (mem_swap.1 hB) (mem_swap.1 (by rw [← ee]; exact hy))))]
      rcases List.mem_append.1 hy with hy | hy
      · exact hxm (ee ▸ hy)
      · simp at hy; exact hxe j (hy.symm.trans ee)
    · show up t.len k _ _ = _
      rw [up_ne _ _ (by omega), r2]
    · show up t.P x k (n + j) = _
      rw [up_ne _ _ (hxe j), r3]
    · obtain ⟨a, b, c⟩ := r5 y hy
      refine ⟨a, b, ?_⟩
      show up t.P x k y = _
      rw [up_ne _ _ (fun e => hxm (by rw [← e]; exact hy)), c]
end Go.Proofs.YtkgecpplgjfhiaaGreatDoor.Lis

namespace Go.Proofs.YtkgecpplgjfhiaaGreatDoor.Lis
open Go.RowKit

theorem drew_below (w : World) (n B : Nat) : Below B w (w.drewN n) := ⟨rfl, rfl, rfl, Nat.le_refl _, fun _ _ => rfl⟩

/-- Blocks g, h and l are the program's lists: K of them, n nodes, N links, in this state. -/
structure Ob (w : World) (g h l K n N : Nat) (t : St) : Prop where
  gh : g ≠ h
  gl : g ≠ l
  hl : h ≠ l
  K64 : K ≤ 64
  n40 : n ≤ 700
  eN : N = n + K + 1
  obj : w.heap[g]? = some (.cells #[.int .i64 (K : Int), .int .i64 (n : Int), .slice (some ⟨h, 0, none⟩) N N, .slice (some ⟨l, 0, none⟩) (K + 1) (K + 1), .int .i64 t.uses] 115 (0, 0))
  lnk : ∃ cur, w.heap[h]? = some (.cells cur 117 (0, 0)) ∧ ∀ i : Nat, i < N → cur[i * 4]? = some (.int .i64 (t.A (i : Int))) ∧ cur[i * 4 + 1]? = some (.int .i64 (t.B (i : Int))) ∧ cur[i * 4 + 2]? = some (.int .i64 (t.P (i : Int))) ∧ cur[i * 4 + 3]? = some (.int .i64 (t.S (i : Int)))
  lns : ∃ cur, w.heap[l]? = some (.cells cur 3 (0, 0)) ∧ ∀ k : Nat, k < K + 1 → cur[k]? = some (.int .i64 (t.len (k : Int)))

theorem Ob.cells {w : World} {g h l K n N : Nat} {t : St} (o : Ob w g h l K n N t) : (g < w.heap.size ∧ h < w.heap.size ∧ l < w.heap.size) ∧
    w.cell? ⟨g, 0, none⟩ = some (.int .i64 (K : Int)) ∧ w.cell? ⟨g, 1, none⟩ = some (.int .i64 (n : Int)) ∧ w.cell? ⟨g, 2, none⟩ = some (.slice (some ⟨h, 0, none⟩) N N) ∧ w.cell? ⟨g, 3, none⟩ = some (.slice (some ⟨l, 0, none⟩) (K + 1) (K + 1)) ∧ w.cell? ⟨g, 4, none⟩ = some (.int .i64 t.uses) ∧
    (∀ o, w.frozen? ⟨g, o, none⟩ = false) ∧ (∀ o, w.frozen? ⟨h, o, none⟩ = false) ∧ ∀ o, w.frozen? ⟨l, o, none⟩ = false := by
  obtain ⟨_, _, _, _, _, _, e1, ⟨c2, e2, _⟩, ⟨c3, e3, _⟩⟩ := o
  exact ⟨⟨lt_of_block e1, lt_of_block e2, lt_of_block e3⟩, by simp [World.cell?, e1], by simp [World.cell?, e1], by simp [World.cell?, e1], by simp [World.cell?, e1], by simp [World.cell?, e1],
    fun o => by simp [World.frozen?, e1], fun o => by simp [World.frozen?, e2], fun o => by simp [World.frozen?, e3]⟩
theorem Ob.link {w : World} {g h l K n N : Nat} {t : St} (o : Ob w g h l K n N t) {i : Nat} (hi : i < N) :
    w.cell? ⟨h, i * 4, none⟩ = some (.int .i64 (t.A (i : Int))) ∧ w.cell? ⟨h, i * 4 + 1, none⟩ = some (.int .i64 (t.B (i : Int))) ∧ w.cell? ⟨h, i * 4 + 2, none⟩ = some (.int .i64 (t.P (i : Int))) ∧ w.cell? ⟨h, i * 4 + 3, none⟩ = some (.int .i64 (t.S (i : Int))) := by
  obtain ⟨c, e, f⟩ := o.lnk
  obtain ⟨f1, f2, f3, f4⟩ := f i hi
  exact ⟨by simp [World.cell?, e, f1], by simp [World.cell?, e, f2], by simp [World.cell?, e, f3], by simp [World.cell?, e, f4]⟩
theorem Ob.count {w : World} {g h l K n N : Nat} {t : St} (o : Ob w g h l K n N t) {k : Nat} (hk : k < K + 1) : w.cell? ⟨l, k, none⟩ = some (.int .i64 (t.len (k : Int))) := by
  obtain ⟨c, e, f⟩ := o.lns
  simp [World.cell?, e, f k hk]

theorem set_other {w : World} {h b o : Nat} {v : Value} (e : b ≠ h) : (w.setCell ⟨h, o, none⟩ v).heap[b]? = w.heap[b]? := by
  simp only [World.setCell, Array.getElem?_modify]
  rw [if_neg (fun x => e x.symm)]
theorem set_same {w : World} {h o : Nat} {v : Value} {cur : Array Value} {T : TypeId} {fr : Nat × Nat} (e : w.heap[h]? = some (.cells cur T fr)) : (w.setCell ⟨h, o, none⟩ v).heap[h]? = some (.cells (cur.setIfInBounds o v) T fr) := by
  simp [World.setCell, Array.getElem?_modify, e]

theorem Ob.setA {w : World} {g h l K n N : Nat} {t : St} (o : Ob w g h l K n N t) {i : Nat} (hi : i < N) (v : Int) : Ob (w.setCell ⟨h, i * 4, none⟩ (.int .i64 v)) g h l K n N { t with A := up t.A i v } := by
  obtain ⟨c, e, f⟩ := o.lnk
  refine ⟨o.gh, o.gl, o.hl, o.K64, o.n40, o.eN, ?_, ⟨_, set_same e, fun j hj => ?_⟩, ?_⟩
  · rw [set_other o.gh]; exact o.obj
  · obtain ⟨f1, f2, f3, f4⟩ := f j hj
    obtain ⟨f0, _⟩ := f i hi
    have hs : i * 4 < c.size := (Array.getElem?_eq_some_iff.1 f0).1
    refine ⟨?_, ?_, ?_, ?_⟩
    · rw [Array.getElem?_setIfInBounds]
      by_cases ej : i = j
      · subst ej; rw [if_pos rfl, if_pos hs]; simp [up]
      · rw [if_neg (by omega), f1]; simp only [up]; rw [if_neg (by omega)]
    · rw [Array.getElem?_setIfInBounds, if_neg (by omega)]; exact f2
    · rw [Array.getElem?_setIfInBounds, if_neg (by omega)]; exact f3
    · rw [Array.getElem?_setIfInBounds, if_neg (by omega)]; exact f4
  · obtain ⟨c, e, f⟩ := o.lns
    exact ⟨c, by rw [set_other (fun x => o.hl x.symm)]; exact e, f⟩
theorem Ob.setB {w : World} {g h l K n N : Nat} {t : St} (o : Ob w g h l K n N t) {i : Nat} (hi : i < N) (v : Int) : Ob (w.setCell ⟨h, i * 4 + 1, none⟩ (.int .i64 v)) g h l K n N { t with B := up t.B i v } := by
  obtain ⟨c, e, f⟩ := o.lnk
  refine ⟨o.gh, o.gl, o.hl, o.K64, o.n40, o.eN, ?_, ⟨_, set_same e, fun j hj => ?_⟩, ?_⟩
  · rw [set_other o.gh]; exact o.obj
  · obtain ⟨f1, f2, f3, f4⟩ := f j hj
    obtain ⟨_, f0, _⟩ := f i hi
    have hs : i * 4 + 1 < c.size := (Array.getElem?_eq_some_iff.1 f0).1
    refine ⟨?_, ?_, ?_, ?_⟩
    · rw [Array.getElem?_setIfInBounds, if_neg (by omega)]; exact f1
    · rw [Array.getElem?_setIfInBounds]
      by_cases ej : i = j
      · subst ej; rw [if_pos rfl, if_pos hs]; simp [up]
      · rw [if_neg (by omega), f2]; simp only [up]; rw [if_neg (by omega)]
    · rw [Array.getElem?_setIfInBounds, if_neg (by omega)]; exact f3
    · rw [Array.getElem?_setIfInBounds, if_neg (by omega)]; exact f4
  · obtain ⟨c, e, f⟩ := o.lns
    exact ⟨c, by rw [set_other (fun x => o.hl x.symm)]; exact e, f⟩
theorem Ob.setP {w : World} {g h l K n N : Nat} {t : St} (o : Ob w g h l K n N t) {i : Nat} (hi : i < N) (v : Int) : Ob (w.setCell ⟨h, i * 4 + 2, none⟩ (.int .i64 v)) g h l K n N { t with P := up t.P i v } := by
  obtain ⟨c, e, f⟩ := o.lnk
  refine ⟨o.gh, o.gl, o.hl, o.K64, o.n40, o.eN, ?_, ⟨_, set_same e, fun j hj => ?_⟩, ?_⟩
  · rw [set_other o.gh]; exact o.obj
  · obtain ⟨f1, f2, f3, f4⟩ := f j hj
    obtain ⟨_, _, f0, _⟩ := f i hi
    have hs : i * 4 + 2 < c.size := (Array.getElem?_eq_some_iff.1 f0).1
    refine ⟨?_, ?_, ?_, ?_⟩
    · rw [Array.getElem?_setIfInBounds, if_neg (by omega)]; exact f1
    · rw [Array.getElem?_setIfInBounds, if_neg (by omega)]; exact f2
    · rw [Array.getElem?_setIfInBounds]
      by_cases ej : i = j
      · subst ej; rw [if_pos rfl, if_pos hs]; simp [up]
      · rw [if_neg (by omega), f3]; simp only [up]; rw [if_neg (by omega)]
    · rw [Array.getElem?_setIfInBounds, if_neg (by omega)]; exact f4
  · obtain ⟨c, e, f⟩ := o.lns
    exact ⟨c, by rw [set_other (fun x => o.hl x.symm)]; exact e, f⟩
theorem Ob.setS {w : World} {g h l K n N : Nat} {t : St} (o : Ob w g h l K n N t) {i : Nat} (hi : i < N) (v : Int) : Ob (w.setCell ⟨h, i * 4 + 3, none⟩ (.int .i64 v)) g h l K n N { t with S := up t.S i v } := by
  obtain ⟨c, e, f⟩ := o.lnk
  refine ⟨o.gh, o.gl, o.hl, o.K64, o.n40, o.eN, ?_, ⟨_, set_same e, fun j hj => ?_⟩, ?_⟩
  · rw [set_other o.gh]; exact o.obj
  · obtain ⟨f1, f2, f3, f4⟩ := f j hj
    obtain ⟨_, _, _, f0⟩ := f i hi
    have hs : i * 4 + 3 < c.size := (Array.getElem?_eq_some_iff.1 f0).1
    refine ⟨?_, ?_, ?_, ?_⟩
    · rw [Array.getElem?_setIfInBounds, if_neg (by omega)]; exact f1
    · rw [Array.getElem?_setIfInBounds, if_neg (by omega)]; exact f2
    · rw [Array.getElem?_setIfInBounds, if_neg (by omega)]; exact f3
    · rw [Array.getElem?_setIfInBounds]
      by_cases ej : i = j
      · subst ej; rw [if_pos rfl, if_pos hs]; simp [up]
      · rw [if_neg (by omega), f4]; simp only [up]; rw [if_neg (by omega)]
  · obtain ⟨c, e, f⟩ := o.lns
    exact ⟨c, by rw [set_other (fun x => o.hl x.symm)]; exact e, f⟩
theorem Ob.setLen {w : World} {g h l K n N : Nat} {t : St} (o : Ob w g h l K n N t) {k : Nat} (hk : k < K + 1) (v : Int) : Ob (w.setCell ⟨l, k, none⟩ (.int .i64 v)) g h l K n N { t with len := up t.len k v } := by
  obtain ⟨c, e, f⟩ := o.lns
  refine ⟨o.gh, o.gl, o.hl, o.K64, o.n40, o.eN, ?_, ?_, ⟨_, set_same e, fun j hj => ?_⟩⟩
  · rw [set_other o.gl]; exact o.obj
  · obtain ⟨c, e, f⟩ := o.lnk
    exact ⟨c, by rw [set_other o.hl]; exact e, f⟩
  · have hs : k < c.size := (Array.getElem?_eq_some_iff.1 (f k hk)).1
    rw [Array.getElem?_setIfInBounds]
    by_cases ej : k = j
    · subst ej; rw [if_pos rfl, if_pos hs]; simp [up]
    · rw [if_neg (by omega), f j hj]; simp only [up]; rw [if_neg (by omega)]
theorem Ob.setUses {w : World} {g h l K n N : Nat} {t : St} (o : Ob w g h l K n N t) (v : Int) : Ob (w.setCell ⟨g, 4, none⟩ (.int .i64 v)) g h l K n N { t with uses := v } := by
  refine ⟨o.gh, o.gl, o.hl, o.K64, o.n40, o.eN, ?_, ?_, ?_⟩
  · rw [set_same o.obj]; simp
  · obtain ⟨c, e, f⟩ := o.lnk
    exact ⟨c, by rw [set_other (fun x => o.gh x.symm)]; exact e, f⟩
  · obtain ⟨c, e, f⟩ := o.lns
    exact ⟨c, by rw [set_other (fun x => o.gl x.symm)]; exact e, f⟩

/-- What stays where these three blocks alone are written. -/
structure Off (g h l : Nat) (w w' : World) : Prop where
  os : w'.os = w.os
  tape : w'.tape = w.tape
  output : w'.output = w.output
  size : w.heap.size ≤ w'.heap.size
  block : ∀ k, k < w.heap.size → k ≠ g → k ≠ h → k ≠ l → w'.heap[k]? = w.heap[k]?
theorem Off.refl (g h l : Nat) (w : World) : Off g h l w w := ⟨rfl, rfl, rfl, Nat.le_refl _, fun _ _ _ _ _ => rfl⟩
theorem Off.trans {g h l : Nat} {a b c : World} (x : Off g h l a b) (y : Off g h l b c) : Off g h l a c :=
  ⟨y.os.trans x.os, y.tape.trans x.tape, y.output.trans x.output, Nat.le_trans x.size y.size, fun k hk h1 h2 h3 => (y.block k (Nat.lt_of_lt_of_le hk x.size) h1 h2 h3).trans (x.block k hk h1 h2 h3)⟩
theorem Off.of {g h l : Nat} {a b : World} (x : Below a.heap.size a b) : Off g h l a b := ⟨x.os, x.tape, x.output, x.size, fun k hk _ _ _ => x.block k hk⟩
theorem Off.then_ {g h l : Nat} {a b c : World} (x : Off g h l a b) (y : Below b.heap.size b c) : Off g h l a c := x.trans (.of y)
theorem Off.drew {g h l : Nat} {a b : World} (x : Off g h l a b) : Off g h l a b.drew := ⟨x.os, x.tape, x.output, x.size, x.block⟩
theorem Off.setH {g h l : Nat} {a b : World} (x : Off g h l a b) (o : Nat) (v : Value) : Off g h l a (b.setCell ⟨h, o, none⟩ v) :=
  ⟨x.os, x.tape, x.output, by simpa using x.size, fun k hk h1 h2 h3 => by rw [set_other h2]; exact x.block k hk h1 h2 h3⟩
theorem Off.setG {g h l : Nat} {a b : World} (x : Off g h l a b) (o : Nat) (v : Value) : Off g h l a (b.setCell ⟨g, o, none⟩ v) :=
  ⟨x.os, x.tape, x.output, by simpa using x.size, fun k hk h1 h2 h3 => by rw [set_other h1]; exact x.block k hk h1 h2 h3⟩
theorem Off.setL {g h l : Nat} {a b : World} (x : Off g h l a b) (o : Nat) (v : Value) : Off g h l a (b.setCell ⟨l, o, none⟩ v) :=
  ⟨x.os, x.tape, x.output, by simpa using x.size, fun k hk h1 h2 h3 => by rw [set_other h3]; exact x.block k hk h1 h2 h3⟩

theorem Ob.same {w w' : World} {g h l K n N : Nat} {t : St} (o : Ob w g h l K n N t) (e1 : w'.heap[g]? = w.heap[g]?) (e2 : w'.heap[h]? = w.heap[h]?) (e3 : w'.heap[l]? = w.heap[l]?) : Ob w' g h l K n N t := by
  obtain ⟨c, e, f⟩ := o.lnk
  obtain ⟨c', e', f'⟩ := o.lns
  exact ⟨o.gh, o.gl, o.hl, o.K64, o.n40, o.eN, by rw [e1]; exact o.obj, ⟨c, by rw [e2]; exact e, f⟩, ⟨c', by rw [e3]; exact e', f'⟩⟩
theorem Ob.below {w w' : World} {g h l K n N : Nat} {t : St} (o : Ob w g h l K n N t) (b : Below w.heap.size w w') : Ob w' g h l K n N t := by
  obtain ⟨⟨h1, h2, h3⟩, _⟩ := o.cells
  exact o.same (b.block _ h1) (b.block _ h2) (b.block _ h3)
end Go.Proofs.YtkgecpplgjfhiaaGreatDoor.Lis
