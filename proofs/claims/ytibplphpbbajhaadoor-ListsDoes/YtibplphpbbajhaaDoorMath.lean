/-
  Nodes in lists: the plain mathematics of layer 9. The document keeps a list of lists, the free nodes, and all nodes that stand in lists, the one that was used last ahead: each list is then the nodes of it among these, in their order.
-/
import Derived.KernelRfl
namespace Go.Proofs.YtibplphpbbajhaaDoor

/-- Numbers without one. -/
def but (l : List Int) (x : Int) : List Int := l.filter fun y => y != x
theorem mem_but {l : List Int} {x y : Int} : y ∈ but l x ↔ y ∈ l ∧ y ≠ x := by simp [but]
theorem but_none {l : List Int} {x : Int} (h : ¬ x ∈ l) : but l x = l := by
  unfold but
  rw [List.filter_eq_self]
  intro y hy
  simp only [bne_iff_ne, ne_eq]
  rintro rfl
  exact h hy
theorem but_nodup {l : List Int} (h : l.Nodup) (x : Int) : (but l x).Nodup := h.filter _
theorem but_length {l : List Int} {x : Int} (h : l.Nodup) (hx : x ∈ l) : (but l x).length + 1 = l.length := by
  induction l with
  | nil => cases hx
  | cons y r ih =>
    rw [List.nodup_cons] at h
    by_cases e : y = x
    · subst e
      have : but (y :: r) y = r := by
        have h1 : but (y :: r) y = but r y := by simp [but]
        rw [h1, but_none h.1]
      rw [this]; rfl
    · have h1 : but (y :: r) x = y :: but r x := by simp [but, e]
      rw [h1, List.length_cons, List.length_cons, ih h.2 (by rcases List.mem_cons.1 hx with h | h; exact absurd h.symm e; exact h)]
theorem but_take_snoc {l : List Int} {k : Nat} {y : Int} (h : l[k]? = some y) (x : Int) : but (l.take (k + 1)) x = but (l.take k) x ++ (if y = x then [] else [y]) := by
  obtain ⟨hl, rfl⟩ := List.getElem?_eq_some_iff.1 h
  rw [List.take_succ_eq_append_getElem hl]
  unfold but
  rw [List.filter_append]
  congr 1
  by_cases e : l[k] = x
  · rw [if_pos e]; simp [e]
  · rw [if_neg e]; simp [e]

/-- The first list that has a node; -1: none. -/
def fnd : List (List Int) → Nat → Int → Int
  | [], _, _ => -1
  | a :: r, i, x => if x ∈ a then (i : Int) else fnd r (i + 1) x
def whereP (L : List (List Int)) (x : Int) : Int := fnd L 0 x
theorem fnd_none {L : List (List Int)} {i : Nat} {x : Int} (h : ∀ a ∈ L, ¬ x ∈ a) : fnd L i x = -1 := by
  induction L generalizing i with
  | nil => rfl
  | cons a r ih =>
    unfold fnd
    rw [if_neg (h a (List.mem_cons_self ..))]
    exact ih (fun b hb => h b (List.mem_cons_of_mem _ hb))
theorem fnd_some {L : List (List Int)} {i k : Nat} {x : Int} {a : List Int} (hk : L[k]? = some a) (ha : x ∈ a) (h : ∀ j b, j < k → L[j]? = some b → ¬ x ∈ b) : fnd L i x = ((i + k : Nat) : Int) := by
  induction L generalizing i k with
  | nil => simp at hk
  | cons c r ih =>
    unfold fnd
    cases k with
    | zero =>
      simp at hk
      subst hk
      rw [if_pos ha]
      rfl
    | succ k =>
      rw [if_neg (h 0 c (by omega) rfl)]
      rw [ih (i := i + 1) (k := k) (by simpa using hk) (fun j b hj hb => h (j + 1) b (by omega) (by simpa using hb))]
      congr 1
      omega

/-- Lists, as the document has them. -/
structure Lst where
  L : List (List Int)
  F : List Int
  U : List Int
  n : Int
def newP (lists nodes : Nat) : Lst := ⟨List.replicate lists [], (List.range nodes).map fun (k : Nat) => (k : Int), [], nodes⟩
def setL (s : Lst) (k : Int) (a : List Int) : List (List Int) := s.L.set k.toNat a
def getL (s : Lst) (k : Int) : List Int := s.L[k.toNat]?.getD []
/-- Add: the lists behind it, the node, the code. -/
def addP (s : Lst) (k : Int) : Lst × Int × Int :=
  if k < 0 ∨ (s.L.length : Int) ≤ k then (s, -1, 2) else
  match s.F with
  | [] => (s, -1, 4)
  | x :: r => (⟨setL s k (x :: getL s k), r, x :: s.U, s.n⟩, x, 0)
/-- Why a node can't be asked for. -/
def atP (s : Lst) (x : Int) : Int := if x < 0 ∨ s.n ≤ x then 2 else if whereP s.L x < 0 then 9 else 0
def dropP (s : Lst) (x : Int) : Lst × Int :=
  if atP s x ≠ 0 then (s, atP s x) else (⟨setL s (whereP s.L x) (but (getL s (whereP s.L x)) x), x :: s.F, but s.U x, s.n⟩, 0)
def touchP (s : Lst) (x : Int) : Lst × Int :=
  if atP s x ≠ 0 then (s, atP s x) else (⟨setL s (whereP s.L x) (x :: but (getL s (whereP s.L x)) x), s.F, x :: but s.U x, s.n⟩, 0)
def lastP (l : List Int) : Int := l.getLast?.getD (-1)

/-- What lists there are: each node is free or used, once; each list is the nodes of it among the used ones, in their order. -/
structure Ok (s : Lst) (f : Int → Nat) : Prop where
  nd : (s.F ++ s.U).Nodup
  all : ∀ x, x ∈ s.F ++ s.U ↔ 0 ≤ x ∧ x < s.n
  lt : ∀ x ∈ s.U, f x < s.L.length
  at_ : ∀ k a, s.L[k]? = some a → a = s.U.filter fun x => f x == k

theorem Ok.ndU {s : Lst} {f : Int → Nat} (h : Ok s f) : s.U.Nodup := (List.nodup_append.1 h.nd).2.1
theorem Ok.ndF {s : Lst} {f : Int → Nat} (h : Ok s f) : s.F.Nodup := (List.nodup_append.1 h.nd).1
theorem Ok.dis {s : Lst} {f : Int → Nat} (h : Ok s f) {x : Int} (hF : x ∈ s.F) : ¬ x ∈ s.U := fun hU => (List.nodup_append.1 h.nd).2.2 x hF x hU rfl
theorem Ok.list {s : Lst} {f : Int → Nat} (h : Ok s f) {x : Int} (hx : x ∈ s.U) : s.L[f x]? = some (s.U.filter fun y => f y == f x) := by
  have hl := h.lt x hx
  have e : s.L[f x]? = some s.L[f x] := List.getElem?_eq_getElem hl
  rw [e, ← h.at_ (f x) _ e]
theorem Ok.where_ {s : Lst} {f : Int → Nat} (h : Ok s f) {x : Int} (hx : x ∈ s.U) : whereP s.L x = (f x : Int) := by
  unfold whereP
  rw [fnd_some (i := 0) (h.list hx) (by simp [hx]) ?_]
  · rw [Nat.zero_add]
  · intro j b hj hb hm
    rw [h.at_ j b hb] at hm
    have := (List.mem_filter.1 hm).2
    simp at this
    omega
theorem Ok.none_ {s : Lst} {f : Int → Nat} (h : Ok s f) {x : Int} (hx : ¬ x ∈ s.U) : whereP s.L x = -1 := by
  unfold whereP
  refine fnd_none (fun a ha hm => ?_)
  obtain ⟨k, hk⟩ := List.mem_iff_getElem?.1 ha
  rw [h.at_ k a hk] at hm
  exact hx (List.mem_filter.1 hm).1
theorem Ok.get {s : Lst} {f : Int → Nat} (h : Ok s f) {k : Int} (h0 : 0 ≤ k) (hk : k < s.L.length) : getL s k = s.U.filter fun x => f x == k.toNat := by
  unfold getL
  have e : s.L[k.toNat]? = some s.L[k.toNat] := List.getElem?_eq_getElem (by omega)
  rw [e]
  exact h.at_ _ _ e
theorem Ok.new (lists nodes : Nat) : Ok (newP lists nodes) (fun _ => 0) := by
  refine ⟨?_, ?_, ?_, ?_⟩
  · simp only [newP, List.append_nil]
    exact List.Pairwise.map _ (fun a b (hab : a ≠ b) => by omega) List.nodup_range
  · intro x
    simp only [newP, List.append_nil, List.mem_map, List.mem_range]
    constructor
    · rintro ⟨k, hk, rfl⟩; omega
    · intro ⟨h0, h1⟩; exact ⟨x.toNat, by omega, by omega⟩
  · intro x hx; simp [newP] at hx
  · intro k a hk
    simp only [newP] at hk
    rw [List.getElem?_replicate] at hk
    split at hk
    · simp at hk; subst hk; simp [newP]
    · cases hk

/-- Where the nodes are, behind an Add. -/
def upd (f : Int → Nat) (x : Int) (k : Nat) : Int → Nat := fun y => if y = x then k else f y
theorem Ok.add {s : Lst} {f : Int → Nat} (h : Ok s f) {x : Int} {r : List Int} (hF : s.F = x :: r) {k : Int} (h0 : 0 ≤ k) (hk : k < s.L.length) :
    Ok ⟨setL s k (x :: getL s k), r, x :: s.U, s.n⟩ (upd f x k.toNat) := by
  have hnd := h.nd
  have hall := h.all
  rw [hF] at hnd hall
  have hxU : ¬ x ∈ s.U := h.dis (by rw [hF]; exact List.mem_cons_self ..)
  have hfl : ∀ j, (s.U.filter fun y => upd f x k.toNat y == j) = s.U.filter fun y => f y == j := fun j => by
    refine List.filter_congr (fun y hy => ?_)
    have : y ≠ x := fun e => hxU (e ▸ hy)
    simp [upd, this]
  refine ⟨?_, ?_, ?_, ?_⟩
  · show (r ++ x :: s.U).Nodup
    exact (List.perm_middle.nodup_iff).2 hnd
  · intro y
    show y ∈ r ++ x :: s.U ↔ _
    rw [← hall y]
    exact List.perm_middle.mem_iff
  · intro y hy
    show upd f x k.toNat y < (s.L.set k.toNat _).length
    rw [List.length_set]
    unfold upd
    split
    · omega
    · rcases List.mem_cons.1 hy with e | e
      · exact absurd e ‹_›
      · exact h.lt y e
  · intro j a ha
    show a = (x :: s.U).filter _
    rw [List.filter_cons, hfl]
    have ha' : (s.L.set k.toNat (x :: getL s k))[j]? = some a := ha
    rw [List.getElem?_set] at ha'
    by_cases e : k.toNat = j
    · rw [if_pos e, if_pos (by omega)] at ha'
      cases ha'
      rw [h.get h0 hk, if_pos (by simp [upd, e]), e]
    · rw [if_neg e] at ha'
      rw [h.at_ j a ha', if_neg (by simp [upd]; exact e)]
theorem filter_but (U : List Int) (x : Int) (p : Int → Bool) : (but U x).filter p = but (U.filter p) x := by
  unfold but
  rw [List.filter_filter, List.filter_filter]
  exact List.filter_congr (fun y _ => Bool.and_comm _ _)
theorem Ok.drop {s : Lst} {f : Int → Nat} (h : Ok s f) {x : Int} (hx : x ∈ s.U) :
    Ok ⟨setL s (f x) (but (getL s (f x)) x), x :: s.F, but s.U x, s.n⟩ f := by
  have hl := h.lt x hx
  refine ⟨?_, ?_, ?_, ?_⟩
  · show (x :: s.F ++ but s.U x).Nodup
    rw [List.cons_append, List.nodup_cons]
    refine ⟨fun hm => ?_, ?_⟩
    · rcases List.mem_append.1 hm with hm | hm
      · exact h.dis hm hx
      · exact (mem_but.1 hm).2 rfl
    · rw [List.nodup_append]
      exact ⟨h.ndF, but_nodup h.ndU x, fun a ha b hb e => h.dis ha (e ▸ (mem_but.1 hb).1)⟩
  · intro y
    show y ∈ x :: s.F ++ but s.U x ↔ _
    rw [← h.all y, List.cons_append, List.mem_cons, List.mem_append, List.mem_append, mem_but]
    by_cases e : y = x
    · subst e; simp [hx]
    · simp [e]
  · intro y hy
    show f y < (s.L.set _ _).length
    rw [List.length_set]
    exact h.lt y (mem_but.1 hy).1
  · intro j a ha
    show a = (but s.U x).filter _
    rw [filter_but]
    have ha' : (s.L.set (f x : Int).toNat (but (getL s (f x)) x))[j]? = some a := ha
    rw [List.getElem?_set] at ha'
    by_cases e : (f x : Int).toNat = j
    · rw [if_pos e, if_pos (by omega)] at ha'
      cases ha'
      rw [h.get (by omega) (by omega), e]
    · rw [if_neg e] at ha'
      rw [← h.at_ j a ha', but_none]
      rw [h.at_ j a ha']
      intro hm
      have := (List.mem_filter.1 hm).2
      simp at this
      omega
theorem Ok.touch {s : Lst} {f : Int → Nat} (h : Ok s f) {x : Int} (hx : x ∈ s.U) :
    Ok ⟨setL s (f x) (x :: but (getL s (f x)) x), s.F, x :: but s.U x, s.n⟩ f := by
  have hl := h.lt x hx
  refine ⟨?_, ?_, ?_, ?_⟩
  · show (s.F ++ x :: but s.U x).Nodup
    rw [List.perm_middle.nodup_iff, List.nodup_cons]
    refine ⟨fun hm => ?_, ?_⟩
    · rcases List.mem_append.1 hm with hm | hm
      · exact h.dis hm hx
      · exact (mem_but.1 hm).2 rfl
    · rw [List.nodup_append]
      exact ⟨h.ndF, but_nodup h.ndU x, fun a ha b hb e => h.dis ha (e ▸ (mem_but.1 hb).1)⟩
  · intro y
    show y ∈ s.F ++ x :: but s.U x ↔ _
    rw [← h.all y, List.mem_append, List.mem_append, List.mem_cons, mem_but]
    by_cases e : y = x
    · subst e; simp [hx]
    · simp [e]
  · intro y hy
    show f y < (s.L.set _ _).length
    rw [List.length_set]
    rcases List.mem_cons.1 hy with rfl | e
    · exact hl
    · exact h.lt y (mem_but.1 e).1
  · intro j a ha
    show a = (x :: but s.U x).filter _
    rw [List.filter_cons, filter_but]
    have ha' : (s.L.set (f x : Int).toNat (x :: but (getL s (f x)) x))[j]? = some a := ha
    rw [List.getElem?_set] at ha'
    by_cases e : (f x : Int).toNat = j
    · rw [if_pos e, if_pos (by omega)] at ha'
      cases ha'
      rw [h.get (by omega) (by omega), if_pos (by simp; omega), e]
    · rw [if_neg e] at ha'
      rw [if_neg (by simp; omega), ← h.at_ j a ha', but_none]
      rw [h.at_ j a ha']
      intro hm
      have := (List.mem_filter.1 hm).2
      simp at this
      omega
/-- A node that was touched is not the oldest one, if there are others. -/
theorem touch_last {U : List Int} {x : Int} (hnd : U.Nodup) (hx : x ∈ U) (h2 : 2 ≤ U.length) : lastP (x :: but U x) ≠ x := by
  have hl := but_length hnd hx
  have hne : but U x ≠ [] := by intro e; rw [e] at hl; simp at hl; omega
  unfold lastP
  rw [List.getLast?_cons_of_ne_nil hne, List.getLast?_eq_some_getLast hne]
  intro e
  exact (mem_but.1 (List.getLast_mem hne)).2 e
end Go.Proofs.YtibplphpbbajhaaDoor
