/-
  What is asked of the lists: the answers out of the program's state are the document's.
-/
import Derived.Test.YtibplphpbbajhaaDoorInv
import Derived.Test.YtibplphpbbajhaaDoorLook
namespace Go.Proofs.YtibplphpbbajhaaDoor
open Go.RowKit

/-- The nodes of a list; none, if there is no such list. -/
def orderP (s : Lst) (k : Int) : List Int := if 0 ≤ k ∧ k < s.L.length then getL s k else []
theorem lastP_nil : lastP [] = -1 := rfl
theorem lastP_snoc (l : List Int) (z : Int) : lastP (l ++ [z]) = z := by unfold lastP; rw [List.getLast?_concat]; rfl
theorem lastP_nonneg {l : List Int} (h : ∀ x ∈ l, 0 ≤ x) : lastP l = -1 ↔ l = [] := by
  constructor
  · intro e
    rcases List.eq_nil_or_concat l with rfl | ⟨m, z, rfl⟩
    · rfl
    · rw [List.concat_eq_append, lastP_snoc] at e
      have := h z (by simp)
      omega
  · rintro rfl; rfl
theorem lastP_mem {l : List Int} (h : l ≠ []) : lastP l ∈ l := by
  rcases List.eq_nil_or_concat l with rfl | ⟨m, z, rfl⟩
  · exact absurd rfl h
  · rw [List.concat_eq_append, lastP_snoc]; simp

theorem Inv.get {K n : Nat} {t : St} {s : Lst} {f : Int → Nat} {M : Nat} (v : Inv K n t s f M) {k : Nat} (hk : k < K) : getL s k = s.U.filter fun x => f x == k := v.ok.get (by omega) (by rw [v.len]; omega)
theorem Inv.order {K n : Nat} {t : St} {s : Lst} {f : Int → Nat} {M : Nat} (v : Inv K n t s f M) {k : Nat} (hk : k < K) : orderP s k = s.U.filter fun x => f x == k := by
  unfold orderP
  rw [if_pos ⟨by omega, by rw [v.len]; omega⟩, v.get hk]
theorem Inv.noorder {K n : Nat} {t : St} {s : Lst} {f : Int → Nat} {M : Nat} (v : Inv K n t s f M) {k : Int} (hk : ¬ (0 ≤ k ∧ k < K)) : orderP s k = [] := by
  unfold orderP
  rw [if_neg (by rw [v.len]; exact hk)]
theorem Inv.ring {K n : Nat} {t : St} {s : Lst} {f : Int → Nat} {M : Nat} (v : Inv K n t s f M) {k : Nat} (hk : k < K) : (s.L ++ [s.F])[k]? = some (s.U.filter fun x => f x == k) := by
  rw [v.list hk, v.has hk]
theorem Inv.order_ring {K n : Nat} {t : St} {s : Lst} {f : Int → Nat} {M : Nat} (v : Inv K n t s f M) {k : Nat} (hk : k < K) : (s.L ++ [s.F])[k]? = some (orderP s k) := by
  rw [v.ring hk, v.order hk]
theorem Inv.lenQ {K n : Nat} {t : St} {s : Lst} {f : Int → Nat} {M : Nat} (v : Inv K n t s f M) (k : Int) : lenQ K t k = ((orderP s k).length : Int) := by
  unfold YtibplphpbbajhaaDoor.lenQ
  by_cases hk : 0 ≤ k ∧ k < K
  · rw [if_pos hk]
    obtain ⟨j, rfl⟩ := Int.eq_ofNat_of_zero_le hk.1
    exact (v.rings j _ (v.order_ring (by omega))).2.1
  · rw [if_neg hk, v.noorder hk]; rfl
theorem Inv.lasQ {K n : Nat} {t : St} {s : Lst} {f : Int → Nat} {M : Nat} (v : Inv K n t s f M) (k : Int) : lasQ n K t k = lastP (orderP s k) := by
  unfold YtibplphpbbajhaaDoor.lasQ
  rw [v.lenQ k]
  by_cases hz : ((orderP s k).length : Int) = 0
  · rw [if_pos hz, List.eq_nil_of_length_eq_zero (l := orderP s k) (by omega)]; rfl
  · rw [if_neg hz]
    have hk : 0 ≤ k ∧ k < K := by
      by_cases hk : 0 ≤ k ∧ k < K
      · exact hk
      · rw [v.noorder hk] at hz; exact absurd rfl hz
    obtain ⟨j, rfl⟩ := Int.eq_ofNat_of_zero_le hk.1
    obtain ⟨s1, _⟩ := v.rings j _ (v.order_ring (by omega))
    rcases List.eq_nil_or_concat (orderP s (j : Int)) with e | ⟨m, z, e⟩
    · rw [e] at hz; exact absurd rfl hz
    · rw [List.concat_eq_append] at e
      rw [e] at s1 ⊢
      rw [lastP_snoc]
      exact (Seg.split.1 s1).2.2
theorem Inv.refQ {K n : Nat} {t : St} {s : Lst} {f : Int → Nat} {M : Nat} (v : Inv K n t s f M) (x : Int) : refQ n K t x = atP s x := by
  unfold YtibplphpbbajhaaDoor.refQ atP
  rw [v.sn]
  by_cases hx : x < 0 ∨ (n : Int) ≤ x
  · rw [if_pos hx, if_pos hx]
  · rw [if_neg hx, if_neg hx]
    rcases v.either (x := x) (by omega) (by omega) with hF | hU
    · rw [if_pos (v.isfree hF).1, v.ok.none_ (v.ok.dis hF), if_pos (by omega)]
    · obtain ⟨e, hk, _⟩ := v.where_ hU
      rw [if_neg (by omega), v.ok.where_ hU, if_neg (by omega)]
theorem Inv.lisQ {K n : Nat} {t : St} {s : Lst} {f : Int → Nat} {M : Nat} (v : Inv K n t s f M) (x : Int) : lisQ n K t x = whereP s.L x := by
  unfold YtibplphpbbajhaaDoor.lisQ
  rw [v.refQ]
  unfold atP
  rw [v.sn]
  by_cases hx : x < 0 ∨ (n : Int) ≤ x
  · rw [if_pos hx, if_neg (by omega), v.ok.none_ (v.out hx)]
  · rw [if_neg hx]
    rcases v.either (x := x) (by omega) (by omega) with hF | hU
    · rw [v.ok.none_ (v.ok.dis hF)]; rfl
    · obtain ⟨e, hk, _⟩ := v.where_ hU
      have h0 : (if ((f x : Nat) : Int) < 0 then (9 : Int) else 0) = 0 := if_neg (by omega)
      rw [v.ok.where_ hU, h0, if_pos rfl, e]
theorem atP_zero {s : Lst} {x : Int} (h : atP s x = 0) : 0 ≤ whereP s.L x ∧ 0 ≤ x ∧ x < s.n := by
  unfold atP at h
  split at h
  · cases h
  · split at h
    · cases h
    · omega
theorem Inv.used {K n : Nat} {t : St} {s : Lst} {f : Int → Nat} {M : Nat} (v : Inv K n t s f M) {x : Int} (h : atP s x = 0) : x ∈ s.U := by
  obtain ⟨h1, h2, h3⟩ := atP_zero h
  rw [v.sn] at h3
  rcases v.either h2 h3 with hF | hU
  · rw [v.ok.none_ (v.ok.dis hF)] at h1; omega
  · exact hU

theorem snoc_ind {α : Type} {P : List α → Prop} (h0 : P []) (h1 : ∀ l a, P l → P (l ++ [a])) (l : List α) : P l := by
  have key : ∀ m : List α, P m.reverse := fun m => by
    induction m with
    | nil => exact h0
    | cons a r ih => rw [List.reverse_cons]; exact h1 _ _ ih
  have := key l.reverse
  rwa [List.reverse_reverse] at this
/-- The node of two kinds together that was used least lately. -/
theorem last_two {S : Int → Int} (p q : Int → Bool) (hd : ∀ x, p x = true → q x = true → False) (U : List Int) : (U.Pairwise fun x y => S y < S x) → (∀ x ∈ U, 0 ≤ x) →
    lastP (U.filter fun x => p x || q x) = if lastP (U.filter q) ≠ -1 ∧ (lastP (U.filter p) = -1 ∨ S (lastP (U.filter q)) < S (lastP (U.filter p))) then lastP (U.filter q) else lastP (U.filter p) := by
  induction U using snoc_ind with
  | h0 => intro _ _; rfl
  | h1 V z ih =>
    intro hs h0
    rw [List.pairwise_append] at hs
    have hz0 : 0 ≤ z := h0 z (by simp)
    have h0V : ∀ x ∈ V, 0 ≤ x := fun x hx => h0 x (by simp [hx])
    have hlt : ∀ y ∈ V, S z < S y := fun y hy => hs.2.2 y hy z (by simp)
    have fs : ∀ r : Int → Bool, (V ++ [z]).filter r = if r z = true then V.filter r ++ [z] else V.filter r := fun r => by
      rw [List.filter_append]
      by_cases e : r z = true
      · rw [if_pos e]; simp [e]
      · rw [if_neg e]; simp [e]
    by_cases hp : p z = true
    · have hq : ¬ q z = true := fun e => hd z hp e
      rw [fs, if_pos (by simp [hp]), fs q, if_neg hq, fs p, if_pos hp, lastP_snoc, lastP_snoc, if_neg]
      rintro ⟨e1, e2⟩
      have hm := (List.mem_filter.1 (lastP_mem (l := V.filter q) (fun e => e1 (by rw [e]; rfl)))).1
      have := hlt _ hm
      omega
    · by_cases hq : q z = true
      · rw [fs, if_pos (by simp [hq]), fs q, if_pos hq, fs p, if_neg hp, lastP_snoc, lastP_snoc, if_pos]
        refine ⟨by omega, ?_⟩
        by_cases e : V.filter p = []
        · exact .inl (by rw [e]; rfl)
        · exact .inr (hlt _ (List.mem_filter.1 (lastP_mem e)).1)
      · rw [fs, if_neg (by simp [hp, hq]), fs q, if_neg hq, fs p, if_neg hp]
        exact ih hs.1 h0V

/-- The oldest node of the first lists. -/
def oldP (s : Lst) (f : Int → Nat) (k : Nat) : Int := lastP (s.U.filter fun x => decide (f x < k))
theorem Inv.nonneg {K n : Nat} {t : St} {s : Lst} {f : Int → Nat} {M : Nat} (v : Inv K n t s f M) : ∀ x ∈ s.U, 0 ≤ x := fun _x hx => (v.where_ hx).2.2.1
theorem Inv.old_step {K n : Nat} {t : St} {s : Lst} {f : Int → Nat} {M : Nat} (v : Inv K n t s f M) {k : Nat} (hk : k < K) :
    oldP s f (k + 1) = if lastP (orderP s k) ≠ -1 ∧ (oldP s f k = -1 ∨ t.S (lastP (orderP s k)) < t.S (oldP s f k)) then lastP (orderP s k) else oldP s f k := by
  rw [v.order hk]
  unfold oldP
  rw [← last_two (fun x => decide (f x < k)) (fun x => f x == k) (fun x h1 h2 => by simp at h1 h2; omega) s.U v.sorted v.nonneg]
  congr 1
  refine List.filter_congr (fun x _ => ?_)
  by_cases e : f x = k
  · simp [e]
  · have : (f x < k + 1) ↔ f x < k := by omega
    simp [e, this]
theorem Inv.old_all {K n : Nat} {t : St} {s : Lst} {f : Int → Nat} {M : Nat} (v : Inv K n t s f M) : oldP s f K = lastP s.U := by
  unfold oldP
  rw [List.filter_eq_self.2]
  intro x hx
  simpa using (v.where_ hx).2.1
theorem Inv.old_mem {K n : Nat} {t : St} {s : Lst} {f : Int → Nat} {M : Nat} (v : Inv K n t s f M) (k : Nat) : oldP s f k = -1 ∨ ∃ j : Nat, oldP s f k = j ∧ j < n := by
  by_cases e : (s.U.filter fun x => decide (f x < k)) = []
  · left; unfold oldP; rw [e]; rfl
  · right
    obtain ⟨_, _, q0, q1⟩ := v.where_ (List.mem_filter.1 (lastP_mem e)).1
    exact ⟨(oldP s f k).toNat, by unfold oldP; omega, by unfold oldP; omega⟩
theorem Inv.last_mem {K n : Nat} {t : St} {s : Lst} {f : Int → Nat} {M : Nat} (v : Inv K n t s f M) {k : Nat} (hk : k < K) : lastP (orderP s k) = -1 ∨ ∃ j : Nat, lastP (orderP s k) = j ∧ j < n := by
  by_cases e : orderP s k = []
  · left; rw [e]; rfl
  · right
    have := lastP_mem e
    rw [v.order hk] at this
    obtain ⟨_, _, q0, q1⟩ := v.where_ (List.mem_filter.1 this).1
    rw [← v.order hk] at q0 q1
    exact ⟨(lastP (orderP s k)).toNat, by omega, by omega⟩

/-- How many nodes the first lists have. -/
def cumP (s : Lst) (f : Int → Nat) (k : Nat) : Nat := (s.U.filter fun x => decide (f x < k)).length
theorem filter_two (p q : Int → Bool) (hd : ∀ x, p x = true → q x = true → False) (U : List Int) : (U.filter fun x => p x || q x).length = (U.filter p).length + (U.filter q).length := by
  induction U with
  | nil => rfl
  | cons x r ih =>
    rw [List.filter_cons, List.filter_cons, List.filter_cons]
    by_cases hp : p x = true
    · have hq : ¬ q x = true := fun e => hd x hp e
      rw [if_pos (by simp [hp]), if_pos hp, if_neg hq, List.length_cons, List.length_cons, ih]; omega
    · by_cases hq : q x = true
      · rw [if_pos (by simp [hq]), if_neg hp, if_pos hq, List.length_cons, List.length_cons, ih]; omega
      · rw [if_neg (by simp [hp, hq]), if_neg hp, if_neg hq, ih]
theorem Inv.cum_step {K n : Nat} {t : St} {s : Lst} {f : Int → Nat} {M : Nat} (v : Inv K n t s f M) {k : Nat} (hk : k < K) : cumP s f (k + 1) = cumP s f k + (orderP s k).length := by
  rw [v.order hk]
  unfold cumP
  rw [← filter_two (fun x => decide (f x < k)) (fun x => f x == k) (fun x h1 h2 => by simp at h1 h2; omega)]
  congr 1
  refine List.filter_congr (fun x _ => ?_)
  by_cases e : f x = k
  · simp [e]
  · have : (f x < k + 1) ↔ f x < k := by omega
    simp [e, this]
theorem Inv.cum_all {K n : Nat} {t : St} {s : Lst} {f : Int → Nat} {M : Nat} (v : Inv K n t s f M) : cumP s f K = s.U.length := by
  unfold cumP
  rw [List.filter_eq_self.2]
  intro x hx
  simpa using (v.where_ hx).2.1
theorem cum_le (s : Lst) (f : Int → Nat) (k : Nat) : cumP s f k ≤ s.U.length := List.length_filter_le _ _
end Go.Proofs.YtibplphpbbajhaaDoor
