/-
  Rings of links: how the program keeps its lists, as plain functions, and that they keep what the document says.
-/
import Derived.Test.YtibplphpbbajhaaDoorMath
namespace Go.Proofs.YtibplphpbbajhaaDoor

/-- A function changed at one place. -/
def up (f : Int → Int) (x v : Int) : Int → Int := fun y => if y = x then v else f y
theorem up_at (f : Int → Int) (x v : Int) : up f x v x = v := if_pos rfl
theorem up_ne (f : Int → Int) {x y : Int} (v : Int) (h : y ≠ x) : up f x v y = f y := if_neg h

/-- From a link over others to a link: each stands right behind the one ahead of it. -/
def Seg (A B : Int → Int) : Int → List Int → Int → Prop
  | a, [], b => B a = b ∧ A b = a
  | a, x :: r, b => (B a = x ∧ A x = a) ∧ Seg A B x r b
theorem Seg.frame {A B A' B' : Int → Int} {a : Int} {l : List Int} {b : Int} (h : Seg A B a l b) (hB : ∀ y ∈ a :: l, B' y = B y) (hA : ∀ y ∈ l ++ [b], A' y = A y) : Seg A' B' a l b := by
  induction l generalizing a with
  | nil => exact ⟨(hB a (by simp)).trans h.1, (hA b (by simp)).trans h.2⟩
  | cons x r ih => exact ⟨⟨(hB a (by simp)).trans h.1.1, (hA x (by simp)).trans h.1.2⟩, ih h.2 (fun y hy => hB y (List.mem_cons_of_mem _ hy)) (fun y hy => hA y (by simp at hy ⊢; rcases hy with hy | hy <;> simp [hy]))⟩
theorem Seg.at_ {A B : Int → Int} {a : Int} {l : List Int} {b : Int} (h : Seg A B a l b) {i : Nat} {y z : Int} (hy : (a :: l)[i]? = some y) (hz : (l ++ [b])[i]? = some z) : B y = z ∧ A z = y := by
  induction l generalizing a i with
  | nil =>
    cases i with
    | zero => simp at hy hz; subst hy hz; exact h
    | succ i => simp at hy
  | cons x r ih =>
    cases i with
    | zero => simp at hy hz; subst hy hz; exact h.1
    | succ i => exact ih h.2 (by simpa using hy) (by simpa using hz)
theorem Seg.split {A B : Int → Int} {a x b : Int} {p q : List Int} : Seg A B a (p ++ x :: q) b ↔ Seg A B a p x ∧ Seg A B x q b := by
  induction p generalizing a with
  | nil => exact Iff.rfl
  | cons y r ih =>
    show ((B a = y ∧ A y = a) ∧ Seg A B y (r ++ x :: q) b) ↔ ((B a = y ∧ A y = a) ∧ Seg A B y r x) ∧ Seg A B x q b
    rw [ih]
    exact and_assoc.symm
theorem Seg.first {A B : Int → Int} {a : Int} {l : List Int} {b : Int} (h : Seg A B a l b) : B a ∈ l ++ [b] := by
  cases l with
  | nil => rw [h.1]; simp
  | cons x r => rw [h.1.1]; simp
theorem Seg.last {A B : Int → Int} {a : Int} {l : List Int} {b : Int} (h : Seg A B a l b) : A b ∈ a :: l := by
  induction l generalizing a with
  | nil => rw [h.2]; simp
  | cons x r ih => exact List.mem_cons_of_mem _ (ih h.2)
/-- What was between two links is taken out. -/
theorem Seg.drop {A B : Int → Int} {a x b : Int} {p q : List Int} (h1 : Seg A B a p x) (h2 : Seg A B x q b) (n1 : (a :: p).Nodup) (n2 : q.Nodup) (d1 : ∀ y ∈ a :: p, ¬ y ∈ q) (d2 : ∀ y ∈ p, y ≠ b) (d3 : ¬ b ∈ q) :
    Seg (up A (B x) (A x)) (up B (A x) (B x)) a (p ++ q) b := by
  induction p generalizing a with
  | nil =>
    obtain ⟨_, hA⟩ := h1
    rw [hA]
    have ha : ¬ a ∈ q := d1 a (by simp)
    cases q with
    | nil =>
      rw [h2.1]
      exact ⟨up_at _ _ _, up_at _ _ _⟩
    | cons y r =>
      rw [h2.1.1]
      rw [List.nodup_cons] at n2
      refine ⟨⟨up_at _ _ _, up_at _ _ _⟩, h2.2.frame (fun z hz => up_ne _ _ (fun e => ha (e ▸ hz))) (fun z hz => up_ne _ _ (fun e => ?_))⟩
      subst e
      rcases List.mem_append.1 hz with hz | hz
      · exact n2.1 hz
      · simp at hz; subst hz; exact d3 (List.mem_cons_self ..)
  | cons y r ih =>
    obtain ⟨⟨e1, e2⟩, h1⟩ := h1
    rw [List.nodup_cons] at n1
    have hl := h1.last
    have hf := h2.first
    refine ⟨⟨?_, ?_⟩, ih h1 n1.2 (fun z hz => d1 z (List.mem_cons_of_mem _ hz)) (fun z hz => d2 z (List.mem_cons_of_mem _ hz))⟩
    · rw [up_ne _ _ (fun e => n1.1 (by rw [e]; exact hl)), e1]
    · rw [up_ne _ _ (fun e => ?_), e2]
      rw [← e] at hf
      rcases List.mem_append.1 hf with hf | hf
      · exact d1 y (by simp) hf
      · simp at hf; exact d2 y (by simp) hf

/-- What the program keeps: of each link the ones ahead and behind, its list, its last use; of each list how many; how many uses. -/
structure St where
  A : Int → Int
  B : Int → Int
  P : Int → Int
  S : Int → Int
  len : Int → Int
  uses : Int
def tieP (t : St) (a b : Int) : St := { t with B := up t.B a b, A := up t.A b a }
def takeP (t : St) (x : Int) : St := { tieP t (t.A x) (t.B x) with len := up t.len (t.P x) (t.len (t.P x) - 1) }
def putP (n : Int) (t : St) (x k : Int) : St := { tieP (tieP t x (t.B (n + k))) (n + k) x with P := up t.P x k, len := up t.len k (t.len k + 1) }
def useP (n : Int) (t : St) (x k : Int) : St := { putP n t x k with uses := t.uses + 1, S := up t.S x (t.uses + 1) }

/-- The rings of a state: each list is the nodes of a ring that its end closes. -/
def Rings (n : Int) (t : St) (R : List (List Int)) : Prop :=
  ∀ (k : Nat) l, R[k]? = some l → Seg t.A t.B (n + k) l (n + k) ∧ t.len k = l.length ∧ t.P (n + k) = k ∧ l.Nodup ∧ ∀ x ∈ l, 0 ≤ x ∧ x < n ∧ t.P x = k

theorem Rings.one {n : Int} {t : St} {R : List (List Int)} (h : Rings n t R) {j k : Nat} {l m : List Int} {x : Int} (hj : R[j]? = some l) (hk : R[k]? = some m) (h1 : x ∈ (n + j) :: l) (h2 : x ∈ (n + k) :: m) : j = k := by
  obtain ⟨_, _, p1, _, q1⟩ := h j l hj
  obtain ⟨_, _, p2, _, q2⟩ := h k m hk
  have e1 : t.P x = j := (List.mem_cons.1 h1).elim (fun e => e ▸ p1) (fun e => (q1 x e).2.2)
  have e2 : t.P x = k := (List.mem_cons.1 h2).elim (fun e => e ▸ p2) (fun e => (q2 x e).2.2)
  omega
theorem mem_swap {l : List Int} {e x : Int} : x ∈ l ++ [e] ↔ x ∈ e :: l := by simp [or_comm]
theorem but_split {p q : List Int} {x : Int} (h : (p ++ x :: q).Nodup) : but (p ++ x :: q) x = p ++ q := by
  have hp := List.nodup_append.1 h
  have hq := List.nodup_cons.1 hp.2.1
  have e1 : but (p ++ x :: q) x = but p x ++ but q x := by simp [but]
  rw [e1, but_none (fun hm => hp.2.2 x hm x (by simp) rfl), but_none hq.1]

/-- A node is taken out of its ring. -/
theorem Rings.take {n : Int} {t : St} {R : List (List Int)} (h : Rings n t R) {k : Nat} {l : List Int} (hk : R[k]? = some l) {x : Int} (hx : x ∈ l) : Rings n (takeP t x) (R.set k (but l x)) := by
  obtain ⟨s1, s2, s3, s4, s5⟩ := h k l hk
  have hPx := (s5 x hx).2.2
  have hAx : t.A x ∈ (n + k) :: l := by
    obtain ⟨p, q, rfl⟩ := List.append_of_mem hx
    have := (Seg.split.1 s1).1.last
    simp at this ⊢
    rcases this with h | h <;> simp [h]
  have hBx : t.B x ∈ l ++ [n + (k : Int)] := by
    obtain ⟨p, q, rfl⟩ := List.append_of_mem hx
    have := (Seg.split.1 s1).2.first
    simp at this ⊢
    rcases this with h | h <;> simp [h]
  intro j m hj
  rw [List.getElem?_set] at hj
  by_cases e : k = j
  · subst e
    rw [if_pos rfl] at hj
    split at hj
    · cases hj
      refine ⟨?_, ?_, s3, but_nodup s4 x, fun y hy => s5 y (mem_but.1 hy).1⟩
      · obtain ⟨p, q, rfl⟩ := List.append_of_mem hx
        rw [but_split s4]
        obtain ⟨g1, g2⟩ := Seg.split.1 s1
        have hp := List.nodup_append.1 s4
        have hq := List.nodup_cons.1 hp.2.1
        have hen : ∀ y ∈ p ++ x :: q, y ≠ n + (k : Int) := fun y hy e => by have := (s5 y hy).2.1; omega
        refine g1.drop g2 (List.nodup_cons.2 ⟨fun hm => hen _ (by simp [hm]) rfl, hp.1⟩) hq.2 (fun y hy hm => ?_) (fun y hy => hen y (by simp [hy])) (fun hm => hen _ (by simp [hm]) rfl)
        rcases List.mem_cons.1 hy with rfl | hy
        · exact hen _ (by simp [hm]) rfl
        · exact hp.2.2 y hy y (by simp [hm]) rfl
      · show up t.len (t.P x) _ _ = _
        have := but_length s4 hx
        rw [hPx, up_at, s2]
        omega
    · cases hj
  · rw [if_neg e] at hj
    obtain ⟨r1, r2, r3, r4, r5⟩ := h j m hj
    refine ⟨r1.frame (fun y hy => up_ne _ _ (fun ee => ?_)) (fun y hy => up_ne _ _ (fun ee => ?_)), ?_, r3, r4, r5⟩
    · subst ee; exact e (h.one hk hj hAx hy)
    · subst ee; exact e (h.one hk hj (mem_swap.1 hBx) (mem_swap.1 hy))
    · show up t.len (t.P x) _ _ = _
      rw [hPx, up_ne _ _ (by omega), r2]
/-- A node that stands nowhere is put ahead in a ring. -/
theorem Rings.put {n : Int} {t : St} {R : List (List Int)} (h : Rings n t R) {k : Nat} {l : List Int} (hk : R[k]? = some l) {x : Int} (h0 : 0 ≤ x) (h1 : x < n) (hx : ∀ m ∈ R, ¬ x ∈ m) : Rings n (putP n t x k) (R.set k (x :: l)) := by
  obtain ⟨s1, s2, s3, s4, s5⟩ := h k l hk
  have hB := s1.first
  have hxl : ¬ x ∈ l := hx l (List.mem_iff_getElem?.2 ⟨k, hk⟩)
  have hxe : ∀ i : Nat, n + (i : Int) ≠ x := fun i e => by omega
  intro j m hj
  rw [List.getElem?_set] at hj
  by_cases e : k = j
  · subst e
    rw [if_pos rfl] at hj
    split at hj
    · cases hj
      have hen : ∀ y ∈ l, y ≠ n + (k : Int) := fun y hy e => by have := (s5 y hy).2.1; omega
      refine ⟨⟨⟨?_, ?_⟩, ?_⟩, ?_, ?_, List.nodup_cons.2 ⟨hxl, s4⟩, ?_⟩
      · exact up_at _ _ _
      · exact up_at _ _ _
      · show Seg (up (up t.A (t.B (n + k)) x) x (n + k)) (up (up t.B x (t.B (n + k))) (n + k) x) x l (n + k)
        cases l with
        | nil =>
          refine ⟨?_, ?_⟩
          · rw [up_ne _ _ (fun e => hxe k e.symm), up_at, s1.1]
          · rw [up_ne _ _ (hxe k), s1.1, up_at]
        | cons y r =>
          have hyx : y ≠ x := fun e => hxl (by simp [e])
          rw [List.nodup_cons] at s4
          refine ⟨⟨?_, ?_⟩, s1.2.frame (fun z hz => ?_) (fun z hz => ?_)⟩
          · rw [up_ne _ _ (fun e => hxe k e.symm), up_at, s1.1.1]
          · rw [up_ne _ _ hyx, s1.1.1, up_at]
          · rw [up_ne _ _ (hen z hz), up_ne _ _ (fun e => hxl (by rw [← e]; exact hz))]
          · rw [s1.1.1]
            rcases List.mem_append.1 hz with hz | hz
            · rw [up_ne _ _ (fun e => hxl (by rw [← e]; exact List.mem_cons_of_mem _ hz)), up_ne _ _ (fun e => s4.1 (by rw [← e]; exact hz))]
            · simp at hz
              subst hz
              rw [up_ne _ _ (hxe k), up_ne _ _ (fun e => hen y (by simp) e.symm)]
      · show up t.len k _ _ = _
        rw [up_at, s2, List.length_cons]
        omega
      · show up t.P x k (n + k) = _
        rw [up_ne _ _ (hxe k), s3]
      · intro y hy
        rcases List.mem_cons.1 hy with rfl | hy
        · exact ⟨h0, h1, up_at _ _ _⟩
        · obtain ⟨a, b, c⟩ := s5 y hy
          refine ⟨a, b, ?_⟩
          show up t.P x k y = _
          rw [up_ne _ _ (fun e => hxl (by rw [← e]; exact hy)), c]
    · cases hj
  · rw [if_neg e] at hj
    obtain ⟨r1, r2, r3, r4, r5⟩ := h j m hj
    have hxm : ¬ x ∈ m := hx m (List.mem_iff_getElem?.2 ⟨j, hj⟩)
    refine ⟨r1.frame (fun y hy => ?_) (fun y hy => ?_), ?_, ?_, r4, fun y hy => ?_⟩
    · show up (up t.B x _) (n + k) x y = _
      rw [up_ne _ _ (fun ee => e (h.one hk hj (by simp) (ee ▸ hy))), up_ne _ _ (fun ee => ?_)]
      rcases List.mem_cons.1 hy with hy | hy
      · exact hxe j (hy.symm.trans ee)
      · exact hxm (ee ▸ hy)
    · show up (up t.A (t.B (n + k)) x) x (n + k) y = _
      rw [up_ne _ _ (fun ee => ?_), up_ne _ _ (fun ee => e (h.one hk hj (mem_swap.1 hB) (mem_swap.1 (by rw [← ee]; exact hy))))]
      rcases List.mem_append.1 hy with hy | hy
      · exact hxm (ee ▸ hy)
      · simp at hy; exact hxe j (hy.symm.trans ee)
    · show up t.len k _ _ = _
      rw [up_ne _ _ (by omega), r2]
    · show up t.P x k (n + j) = _
      rw [up_ne _ _ (hxe j), r3]
    · obtain ⟨a, b, c⟩ := r5 y hy
      refine ⟨a, b, ?_⟩
      show up t.P x k y = _
      rw [up_ne _ _ (fun e => hxm (by rw [← e]; exact hy)), c]
end Go.Proofs.YtibplphpbbajhaaDoor
