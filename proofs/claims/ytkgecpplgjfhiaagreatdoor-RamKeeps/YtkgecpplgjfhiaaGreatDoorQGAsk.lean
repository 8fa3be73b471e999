/-
  What is asked of the lists: the answers out of the program's state are the document's.
-/
import Derived.Test.YtkgecpplgjfhiaaGreatDoorQGOb
import Derived.Test.YtkgecpplgjfhiaaGreatDoorQGTake
namespace Go.Proofs.YtkgecpplgjfhiaaGreatDoor.Lis

/-- The rings are the document's lists and, behind them, its free nodes; the later used, the greater its number. -/
structure Inv (K n : Nat) (t : St) (s : Lst) (f : Int → Nat) (M : Nat) : Prop where
  ok : Ok s f
  len : s.L.length = K
  sn : s.n = n
  rings : Rings n t (s.L ++ [s.F])
  sorted : s.U.Pairwise fun x y => t.S y < t.S x
  top : ∀ x ∈ s.U, t.S x ≤ t.uses
  u0 : 0 ≤ t.uses
  uM : t.uses ≤ M
  cnt : s.F.length + s.U.length = n

theorem Rings.gone {n : Int} {t : St} {R : List (List Int)} (h : Rings n t R) {k : Nat} {l : List Int} (hk : R[k]? = some l) {x : Int} (hx : x ∈ l) : ∀ m ∈ R.set k (but l x), ¬ x ∈ m := by
  intro m hm hxm
  obtain ⟨j, hj⟩ := List.mem_iff_getElem?.1 hm
  rw [List.getElem?_set] at hj
  by_cases e : k = j
  · subst e
    rw [if_pos rfl] at hj
    split at hj
    · cases hj
      exact (mem_but.1 hxm).2 rfl
    · cases hj
  · rw [if_neg e] at hj
    exact e (h.one hk hj (List.mem_cons_of_mem _ hx) (List.mem_cons_of_mem _ hxm))
/-- The neighbours of a node are links. -/
theorem Rings.near {n : Nat} {t : St} {R : List (List Int)} (h : Rings n t R) {k : Nat} {l : List Int} (hk : R[k]? = some l) {x : Int} (hx : x ∈ l) : ∃ a b : Nat, t.A x = a ∧ a < n + R.length ∧ t.B x = b ∧ b < n + R.length := by
  obtain ⟨s1, _, _, _, s5⟩ := h k l hk
  have hkl : k < R.length := (List.getElem?_eq_some_iff.1 hk).1
  have key : ∀ y, y ∈ ((n : Int) + (k : Int)) :: l → ∃ a : Nat, y = a ∧ a < n + R.length := fun y hy => by
    rcases List.mem_cons.1 hy with e | hy
    · exact ⟨n + k, by omega, by omega⟩
    · obtain ⟨q1, q2, _⟩ := s5 y hy
      exact ⟨y.toNat, by omega, by omega⟩
  obtain ⟨p, q, rfl⟩ := List.append_of_mem hx
  obtain ⟨g1, g2⟩ := Seg.split.1 s1
  obtain ⟨a, ha, ha2⟩ := key (t.A x) (by have := g1.last; simp at this ⊢; rcases this with h | h <;> simp [h])
  obtain ⟨b, hb, hb2⟩ := key (t.B x) (by have := g2.first; simp at this ⊢; rcases this with h | h <;> simp [h])
  exact ⟨a, b, ha, ha2, hb, hb2⟩
/-- What stands right behind an end. -/
theorem Rings.head {n : Nat} {t : St} {R : List (List Int)} (h : Rings n t R) {k : Nat} {l : List Int} (hk : R[k]? = some l) : ∃ b : Nat, t.B ((n : Int) + (k : Int)) = b ∧ b < n + R.length := by
  obtain ⟨s1, _, _, _, s5⟩ := h k l hk
  have hkl : k < R.length := (List.getElem?_eq_some_iff.1 hk).1
  have := s1.first
  rcases List.mem_append.1 this with hm | hm
  · obtain ⟨q1, q2, _⟩ := s5 _ hm
    exact ⟨(t.B ((n : Int) + (k : Int))).toNat, by omega, by omega⟩
  · simp at hm
    exact ⟨n + k, by omega, by omega⟩

theorem Inv.free {K n : Nat} {t : St} {s : Lst} {f : Int → Nat} {M : Nat} (v : Inv K n t s f M) : (s.L ++ [s.F])[K]? = some s.F := by
  rw [List.getElem?_append_right (by rw [v.len]; exact Nat.le_refl _), v.len, Nat.sub_self]; rfl
theorem Inv.list {K n : Nat} {t : St} {s : Lst} {f : Int → Nat} {M : Nat} (v : Inv K n t s f M) {k : Nat} (hk : k < K) : (s.L ++ [s.F])[k]? = s.L[k]? :=
  List.getElem?_append_left (by rw [v.len]; exact hk)
theorem Inv.has {K n : Nat} {t : St} {s : Lst} {f : Int → Nat} {M : Nat} (v : Inv K n t s f M) {k : Nat} (hk : k < K) : s.L[k]? = some (s.U.filter fun x => f x == k) := by
  have e : s.L[k]? = some (s.L[k]'(by rw [v.len]; exact hk)) := List.getElem?_eq_getElem _
  rw [e, v.ok.at_ k _ e]
theorem Inv.where_ {K n : Nat} {t : St} {s : Lst} {f : Int → Nat} {M : Nat} (v : Inv K n t s f M) {x : Int} (hx : x ∈ s.U) : t.P x = (f x : Int) ∧ f x < K ∧ 0 ≤ x ∧ x < n := by
  have hl := v.ok.lt x hx
  rw [v.len] at hl
  obtain ⟨_, _, _, _, s5⟩ := v.rings (f x) _ (by rw [v.list hl]; exact v.ok.list hx)
  obtain ⟨q1, q2, q3⟩ := s5 x (List.mem_filter.2 ⟨hx, by simp⟩)
  exact ⟨q3, hl, q1, q2⟩
theorem Inv.isfree {K n : Nat} {t : St} {s : Lst} {f : Int → Nat} {M : Nat} (v : Inv K n t s f M) {x : Int} (hx : x ∈ s.F) : t.P x = (K : Int) ∧ 0 ≤ x ∧ x < n := by
  obtain ⟨_, _, _, _, s5⟩ := v.rings K _ v.free
  obtain ⟨q1, q2, q3⟩ := s5 x hx
  exact ⟨q3, q1, q2⟩
theorem Inv.either {K n : Nat} {t : St} {s : Lst} {f : Int → Nat} {M : Nat} (v : Inv K n t s f M) {x : Int} (h0 : 0 ≤ x) (h1 : x < n) : x ∈ s.F ∨ x ∈ s.U := by
  have := (v.ok.all x).2 ⟨h0, by rw [v.sn]; exact h1⟩
  simpa using this
theorem Inv.out {K n : Nat} {t : St} {s : Lst} {f : Int → Nat} {M : Nat} (v : Inv K n t s f M) {x : Int} (h : x < 0 ∨ (n : Int) ≤ x) : ¬ x ∈ s.U := fun hx => by
  have := v.where_ hx
  omega

theorem Inv.add {K n : Nat} {t : St} {s : Lst} {f : Int → Nat} {M : Nat} (v : Inv K n t s f M) {x : Int} {r : List Int} (hF : s.F = x :: r) {k : Nat} (hk : k < K) :
    Inv K n (useP n (takeP t x) x k) ⟨setL s k (x :: getL s k), r, x :: s.U, s.n⟩ (upd f x k) (M + 1) := by
  have hx : x ∈ s.F := by rw [hF]; exact List.mem_cons_self ..
  obtain ⟨_, q0, q1⟩ := v.isfree hx
  have hxU : ¬ x ∈ s.U := v.ok.dis hx
  have r1 := v.rings.take v.free hx
  have hb : but s.F x = r := by
    have := v.ok.ndF
    rw [hF] at this ⊢
    exact but_split (p := []) this
  have hg := v.rings.gone v.free hx
  have hk' : ((s.L ++ [s.F]).set K (but s.F x))[k]? = some (getL s k) := by
    rw [List.getElem?_set, if_neg (by omega), v.list hk, v.ok.get (by omega) (by rw [v.len]; omega)]
    exact v.has hk
  have r2 := r1.put hk' q0 q1 hg
  have e : ((s.L ++ [s.F]).set K (but s.F x)).set k (x :: getL s k) = setL s k (x :: getL s k) ++ [r] := by
    rw [hb, List.set_append, if_neg (by rw [v.len]; omega), v.len, Nat.sub_self, List.set_append, if_pos (by rw [v.len]; exact hk)]
    rfl
  rw [e] at r2
  refine ⟨?_, ?_, v.sn, r2, ?_, ?_, ?_, ?_, ?_⟩
  · exact v.ok.add hF (k := (k : Int)) (by omega) (by rw [v.len]; omega)
  · show (s.L.set _ _).length = K
    rw [List.length_set, v.len]
  · show (x :: s.U).Pairwise fun a b => up t.S x (t.uses + 1) b < up t.S x (t.uses + 1) a
    rw [List.pairwise_cons]
    refine ⟨fun y hy => ?_, v.sorted.imp_of_mem fun {a b} ha hb hab => ?_⟩
    · rw [up_at, up_ne _ _ (fun e => hxU (by rw [← e]; exact hy))]
      have := v.top y hy
      omega
    · rw [up_ne _ _ (fun e => hxU (by rw [← e]; exact hb)), up_ne _ _ (fun e => hxU (by rw [← e]; exact ha))]
      exact hab
  · intro y hy
    show up t.S x (t.uses + 1) y ≤ t.uses + 1
    by_cases e : y = x
    · rw [e, up_at]; omega
    · rw [up_ne _ _ e]
      have := v.top y ((List.mem_cons.1 hy).resolve_left e)
      omega
  · show 0 ≤ t.uses + 1
    have := v.u0; omega
  · show t.uses + 1 ≤ _
    have := v.uM; omega
  · show r.length + (x :: s.U).length = n
    have := v.cnt
    rw [hF, List.length_cons] at this
    rw [List.length_cons]; omega
theorem Inv.drop {K n : Nat} {t : St} {s : Lst} {f : Int → Nat} {M : Nat} (v : Inv K n t s f M) {x : Int} (hx : x ∈ s.U) :
    Inv K n (putP n (takeP t x) x K) ⟨setL s (f x) (but (getL s (f x)) x), x :: s.F, but s.U x, s.n⟩ f M := by
  obtain ⟨_, hk, q0, q1⟩ := v.where_ hx
  have hl : (s.L ++ [s.F])[f x]? = some (getL s (f x)) := by
    rw [v.list hk, v.ok.get (by omega) (by rw [v.len]; omega)]
    exact v.has hk
  have hxl : x ∈ getL s (f x) := by
    rw [v.ok.get (by omega) (by rw [v.len]; omega)]
    exact List.mem_filter.2 ⟨hx, by simp⟩
  have r1 := v.rings.take hl hxl
  have hg := v.rings.gone hl hxl
  have hK : ((s.L ++ [s.F]).set (f x) (but (getL s (f x)) x))[K]? = some s.F := by
    rw [List.getElem?_set, if_neg (by omega)]
    exact v.free
  have r2 := r1.put hK q0 q1 hg
  have e : ((s.L ++ [s.F]).set (f x) (but (getL s (f x)) x)).set K (x :: s.F) = setL s (f x) (but (getL s (f x)) x) ++ [x :: s.F] := by
    rw [List.set_append, if_pos (by rw [v.len]; exact hk), List.set_append, if_neg (by rw [List.length_set, v.len]; omega), List.length_set, v.len, Nat.sub_self]
    rfl
  rw [e] at r2
  refine ⟨v.ok.drop hx, ?_, v.sn, r2, v.sorted.filter _, fun y hy => v.top y (mem_but.1 hy).1, v.u0, v.uM, ?_⟩
  · show (s.L.set _ _).length = K
    rw [List.length_set, v.len]
  · show (x :: s.F).length + (but s.U x).length = n
    have := v.cnt
    have := but_length v.ok.ndU hx
    rw [List.length_cons]; omega
theorem Inv.touch {K n : Nat} {t : St} {s : Lst} {f : Int → Nat} {M : Nat} (v : Inv K n t s f M) {x : Int} (hx : x ∈ s.U) :
    Inv K n (useP n (takeP t x) x (f x)) ⟨setL s (f x) (x :: but (getL s (f x)) x), s.F, x :: but s.U x, s.n⟩ f (M + 1) := by
  obtain ⟨_, hk, q0, q1⟩ := v.where_ hx
  have hl : (s.L ++ [s.F])[f x]? = some (getL s (f x)) := by
    rw [v.list hk, v.ok.get (by omega) (by rw [v.len]; omega)]
    exact v.has hk
  have hxl : x ∈ getL s (f x) := by
    rw [v.ok.get (by omega) (by rw [v.len]; omega)]
    exact List.mem_filter.2 ⟨hx, by simp⟩
  have r1 := v.rings.take hl hxl
  have hg := v.rings.gone hl hxl
  have hK : ((s.L ++ [s.F]).set (f x) (but (getL s (f x)) x))[f x]? = some (but (getL s (f x)) x) := by
    rw [List.getElem?_set, if_pos rfl, if_pos (by simp [v.len]; omega)]
  have r2 := r1.put hK q0 q1 hg
  have e : ((s.L ++ [s.F]).set (f x) (but (getL s (f x)) x)).set (f x) (x :: but (getL s (f x)) x) = setL s (f x) (x :: but (getL s (f x)) x) ++ [s.F] := by
    rw [List.set_set, List.set_append, if_pos (by rw [v.len]; exact hk)]
    rfl
  rw [e] at r2
  have hbU : ∀ y ∈ but s.U x, y ≠ x := fun y hy => (mem_but.1 hy).2
  refine ⟨v.ok.touch hx, ?_, v.sn, r2, ?_, ?_, ?_, ?_, ?_⟩
  · show (s.L.set _ _).length = K
    rw [List.length_set, v.len]
  · show (x :: but s.U x).Pairwise fun a b => up t.S x (t.uses + 1) b < up t.S x (t.uses + 1) a
    rw [List.pairwise_cons]
    refine ⟨fun y hy => ?_, (v.sorted.filter _).imp_of_mem fun {a b} ha hb hab => ?_⟩
    · rw [up_at, up_ne _ _ (hbU y hy)]
      have := v.top y (mem_but.1 hy).1
      omega
    · rw [up_ne _ _ (hbU b hb), up_ne _ _ (hbU a ha)]
      exact hab
  · intro y hy
    show up t.S x (t.uses + 1) y ≤ t.uses + 1
    by_cases e : y = x
    · rw [e, up_at]; omega
    · rw [up_ne _ _ e]
      have := v.top y (mem_but.1 ((List.mem_cons.1 hy).resolve_left e)).1
      omega
  · show 0 ≤ t.uses + 1
    have := v.u0; omega
  · show t.uses + 1 ≤ _
    have := v.uM; omega
  · show s.F.length + (x :: but s.U x).length = n
    have := v.cnt
    have := but_length v.ok.ndU hx
    rw [List.length_cons]; omega
end Go.Proofs.YtkgecpplgjfhiaaGreatDoor.Lis

namespace Go.Proofs.YtkgecpplgjfhiaaGreatDoor.Lis
open Go.RowKit

/-- The nodes of a list; none, if there is no such list. -/
def orderP (s : Lst) (k : Int) : List Int := if 0 ≤ k ∧ k < s.L.length then getL s k else []
theorem lastP_nil : lastP [] = -1 := rfl
theorem lastP_snoc (l : List Int) (z : Int) : lastP (l ++ [z]) = z := by unfold lastP; rw [List.getLast?_concat]; rfl
theorem lastP_nonneg {l : List Int} (h : ∀ x ∈ l, 0 ≤ x) : lastP l = -1 ↔ l = [] := by
  constructor
  · intro e
    rcases List.eq_nil_or_concat l with rfl | ⟨m, z, rfl⟩
    · rfl
    · rw [List.concat_eq_append, lastP_snoc] at e
      have := h z (by simp)
      omega
  · rintro rfl; rfl
theorem lastP_mem {l : List Int} (h : l ≠ []) : lastP l ∈ l := by
  rcases List.eq_nil_or_concat l with rfl | ⟨m, z, rfl⟩
  · exact absurd rfl h
  · rw [List.concat_eq_append, lastP_snoc]; simp

theorem Inv.get {K n : Nat} {t : St} {s : Lst} {f : Int → Nat} {M : Nat} (v : Inv K n t s f M) {k : Nat} (hk : k < K) : getL s k = s.U.filter fun x => f x == k := v.ok.get (by omega) (by rw [v.len]; omega)
theorem Inv.order {K n : Nat} {t : St} {s : Lst} {f : Int → Nat} {M : Nat} (v : Inv K n t s f M) {k : Nat} (hk : k < K) : orderP s k = s.U.filter fun x => f x == k := by
  unfold orderP
  rw [if_pos ⟨by omega, by rw [v.len]; omega⟩, v.get hk]
theorem Inv.noorder {K n : Nat} {t : St} {s : Lst} {f : Int → Nat} {M : Nat} (v : Inv K n t s f M) {k : Int} (hk : ¬ (0 ≤ k ∧ k < K)) : orderP s k = [] := by
  unfold orderP
  rw [if_neg (by rw [v.len]; exact hk)]
theorem Inv.ring {K n : Nat} {t : St} {s : Lst} {f : Int → Nat} {M : Nat} (v : Inv K n t s f M) {k : Nat} (hk : k < K) : (s.L ++ [s.F])[k]? = some (s.U.filter fun x => f x == k) := by
  rw [v.list hk, v.has hk]
theorem Inv.order_ring {K n : Nat} {t : St} {s : Lst} {f : Int → Nat} {M : Nat} (v : Inv K n t s f M) {k : Nat} (hk : k < K) : (s.L ++ [s.F])[k]? = some (orderP s k) := by
  rw [v.ring hk, v.order hk]
theorem Inv.lenQ {K n : Nat} {t : St} {s : Lst} {f : Int → Nat} {M : Nat} (v : Inv K n t s f M) (k : Int) : lenQ K t k = ((orderP s k).length : Int) := by
  unfold Lis.lenQ
  by_cases hk : 0 ≤ k ∧ k < K
  · rw [if_pos hk]
    obtain ⟨j, rfl⟩ := Int.eq_ofNat_of_zero_le hk.1
    exact (v.rings j _ (v.order_ring (by omega))).2.1
  · rw [if_neg hk, v.noorder hk]; rfl
theorem Inv.lasQ {K n : Nat} {t : St} {s : Lst} {f : Int → Nat} {M : Nat} (v : Inv K n t s f M) (k : Int) : lasQ n K t k = lastP (orderP s k) := by
  unfold Lis.lasQ
  rw [v.lenQ k]
  by_cases hz : ((orderP s k).length : Int) = 0
  · rw [if_pos hz, List.eq_nil_of_length_eq_zero (l := orderP s k) (by omega)]; rfl
  · rw [if_neg hz]
    have hk : 0 ≤ k ∧ k < K := by
      by_cases hk : 0 ≤ k ∧ k < K
      · exact hk
      · rw [v.noorder hk] at hz; exact absurd rfl hz
    obtain ⟨j, rfl⟩ := Int.eq_ofNat_of_zero_le hk.1
    obtain ⟨s1, _⟩ := v.rings j _ (v.order_ring (by omega))
    rcases List.eq_nil_or_concat (orderP s (j : Int)) with e | ⟨m, z, e⟩
    · rw [e] at hz; exact absurd rfl hz
    · rw [List.concat_eq_append] at e
      rw [e] at s1 ⊢
      rw [lastP_snoc]
      exact (Seg.split.1 s1).2.2
theorem Inv.refQ {K n : Nat} {t : St} {s : Lst} {f : Int → Nat} {M : Nat} (v : Inv K n t s f M) (x : Int) : refQ n K t x = atP s x := by
  unfold Lis.refQ atP
  rw [v.sn]
  by_cases hx : x < 0 ∨ (n : Int) ≤ x
  · rw [if_pos hx, if_pos hx]
  · rw [if_neg hx, if_neg hx]
    rcases v.either (x := x) (by omega) (by omega) with hF | hU
    · rw [if_pos (v.isfree hF).1, v.ok.none_ (v.ok.dis hF), if_pos (by omega)]
    · obtain ⟨e, hk, _⟩ := v.where_ hU
      rw [if_neg (by omega), v.ok.where_ hU, if_neg (by omega)]
theorem Inv.lisQ {K n : Nat} {t : St} {s : Lst} {f : Int → Nat} {M : Nat} (v : Inv K n t s f M) (x : Int) : lisQ n K t x = whereP s.L x := by
  unfold Lis.lisQ
  rw [v.refQ]
  unfold atP
  rw [v.sn]
  by_cases hx : x < 0 ∨ (n : Int) ≤ x
  · rw [if_pos hx, if_neg (by omega), v.ok.none_ (v.out hx)]
  · rw [if_neg hx]
    rcases v.either (x := x) (by omega) (by omega) with hF | hU
    · rw [v.ok.none_ (v.ok.dis hF)]; rfl
    · obtain ⟨e, hk, _⟩ := v.where_ hU
      have h0 : (if ((f x : Nat) : Int) < 0 then (9 : Int) else 0) = 0 := if_neg (by omega)
      rw [v.ok.where_ hU, h0, if_pos rfl, e]
theorem atP_zero {s : Lst} {x : Int} (h : atP s x = 0) : 0 ≤ whereP s.L x ∧ 0 ≤ x ∧ x < s.n := by
  unfold atP at h
  split at h
  · cases h
  · split at h
    · cases h
    · omega
theorem Inv.used {K n : Nat} {t : St} {s : Lst} {f : Int → Nat} {M : Nat} (v : Inv K n t s f M) {x : Int} (h : atP s x = 0) : x ∈ s.U := by
  obtain ⟨h1, h2, h3⟩ := atP_zero h
  rw [v.sn] at h3
  rcases v.either h2 h3 with hF | hU
  · rw [v.ok.none_ (v.ok.dis hF)] at h1; omega
  · exact hU

theorem snoc_ind {α : Type} {P : List α → Prop} (h0 : P []) (h1 : ∀ l a, P l → P (l ++ [a])) (l : List α) : P l := by
  have key : ∀ m : List α, P m.reverse := fun m => by
    induction m with
    | nil => exact h0
    | cons a r ih => rw [List.reverse_cons]; exact h1 _ _ ih
  have := key l.reverse
  rwa [List.reverse_reverse] at this
/-- The node of two kinds together that was used least lately. -/
theorem last_two {S : Int → Int} (p q : Int → Bool) (hd : ∀ x, p x = true → q x = true → False) (U : List Int) : (U.Pairwise fun x y => S y < S x) → (∀ x ∈ U, 0 ≤ x) →
    lastP (U.filter fun x => p x || q x) = if lastP (U.filter q) ≠ -1 ∧ (lastP (U.filter p) = -1 ∨ S (lastP (U.filter q)) < S (lastP (U.filter p))) then lastP (U.filter q) else lastP (U.filter p) := by
  induction U using snoc_ind with
  | h0 => intro _ _; rfl
  | h1 V z ih =>
    intro hs h0
    rw [List.pairwise_append] at hs
    have hz0 : 0 ≤ z := h0 z (by simp)
    have h0V : ∀ x ∈ V, 0 ≤ x := fun x hx => h0 x (by simp [hx])
    have hlt : ∀ y ∈ V, S z < S y := fun y hy => hs.2.2 y hy z (by simp)
    have fs : ∀ r : Int → Bool, (V ++ [z]).filter r = if r z = true then V.filter r ++ [z] else V.filter r := fun r => by
      rw [List.filter_append]
      by_cases e : r z = true
      · rw [if_pos e]; simp [e]
      · rw [if_neg e]; simp [e]
    by_cases hp : p z = true
    · have hq : ¬ q z = true := fun e => hd z hp e
      rw [fs, if_pos (by simp [hp]), fs q, if_neg hq, fs p, if_pos hp, lastP_snoc, lastP_snoc, if_neg]
      rintro ⟨e1, e2⟩
      have hm := (List.mem_filter.1 (lastP_mem (l := V.filter q) (fun e => e1 (by rw [e]; rfl)))).1
      have := hlt _ hm
      omega
    · by_cases hq : q z = true
      · rw [fs, if_pos (by simp [hq]), fs q, if_pos hq, fs p, if_neg hp, lastP_snoc, lastP_snoc, if_pos]
        refine ⟨by omega, ?_⟩
        by_cases e : V.filter p = []
        · exact .inl (by rw [e]; rfl)
        · exact .inr (hlt _ (List.mem_filter.1 (lastP_mem e)).1)
      · rw [fs, if_neg (by simp [hp, hq]), fs q, if_neg hq, fs p, if_neg hp]
        exact ih hs.1 h0V

/-- The oldest node of the first lists. -/
def oldP (s : Lst) (f : Int → Nat) (k : Nat) : Int := lastP (s.U.filter fun x => decide (f x < k))
theorem Inv.nonneg {K n : Nat} {t : St} {s : Lst} {f : Int → Nat} {M : Nat} (v : Inv K n t s f M) : ∀ x ∈ s.U, 0 ≤ x := fun _x hx => (v.where_ hx).2.2.1
theorem Inv.old_step {K n : Nat} {t : St} {s : Lst} {f : Int → Nat} {M : Nat} (v : Inv K n t s f M) {k : Nat} (hk : k < K) :
    oldP s f (k + 1) = if lastP (orderP s k) ≠ -1 ∧ (oldP s f k = -1 ∨ t.S (lastP (orderP s k)) < t.S (oldP s f k)) then lastP (orderP s k) else oldP s f k := by
  rw [v.order hk]
  unfold oldP
  rw [← last_two (fun x => decide (f x < k)) (fun x => f x == k) (fun x h1 h2 => by simp at h1 h2; omega) s.U v.sorted v.nonneg]
  congr 1
  refine List.filter_congr (fun x _ => ?_)
  by_cases e : f x = k
  · simp [e]
  · have : (f x < k + 1) ↔ f x < k := by omega
    simp [e, this]
theorem Inv.old_all {K n : Nat} {t : St} {s : Lst} {f : Int → Nat} {M : Nat} (v : Inv K n t s f M) : oldP s f K = lastP s.U := by
  unfold oldP
  rw [List.filter_eq_self.2]
  intro x hx
  simpa using (v.where_ hx).2.1
theorem Inv.old_mem {K n : Nat} {t : St} {s : Lst} {f : Int → Nat} {M : Nat} (v : Inv K n t s f M) (k : Nat) : oldP s f k = -1 ∨ ∃ j : Nat, oldP s f k = j ∧ j < n := by
  by_cases e : (s.U.filter fun x => decide (f x < k)) = []
  · left; unfold oldP; rw [e]; rfl
  · right
    obtain ⟨_, _, q0, q1⟩ := v.where_ (List.mem_filter.1 (lastP_mem e)).1
    exact ⟨(oldP s f k).toNat, by unfold oldP; omega, by unfold oldP; omega⟩
theorem Inv.last_mem {K n : Nat} {t : St} {s : Lst} {f : Int → Nat} {M : Nat} (v : Inv K n t s f M) {k : Nat} (hk : k < K) : lastP (orderP s k) = -1 ∨ ∃ j : Nat, lastP (orderP s k) = j ∧ j < n := by
  by_cases e : orderP s k = []
  · left; rw [e]; rfl
  · right
    have := lastP_mem e
    rw [v.order hk] at this
    obtain ⟨_, _, q0, q1⟩ := v.where_ (List.mem_filter.1 this).1
    rw [← v.order hk] at q0 q1
    exact ⟨(lastP (orderP s k)).toNat, by omega, by omega⟩

/-- How many nodes the first lists have. -/
def cumP (s : Lst) (f : Int → Nat) (k : Nat) : Nat := (s.U.filter fun x => decide (f x < k)).length
theorem filter_two (p q : Int → Bool) (hd : ∀ x, p x = true → q x = true → False) (U : List Int) : (U.filter fun x => p x || q x).length = (U.filter p).length + (U.filter q).length := by
  induction U with
  | nil => rfl
  | cons x r ih =>
    rw [List.filter_cons, List.filter_cons, List.filter_cons]
    by_cases hp : p x = true
    · have hq : ¬ q x = true := fun e => hd x hp e
      rw [if_pos (by simp [hp]), if_pos hp, if_neg hq, List.length_cons, List.length_cons, ih]; omega
    · by_cases hq : q x = true
      · rw [if_pos (by simp [hq]), if_neg hp, if_pos hq, List.length_cons, List.length_cons, ih]; omega
      · rw [if_neg (by simp [hp, hq]), if_neg hp, if_neg hq, ih]
theorem Inv.cum_step {K n : Nat} {t : St} {s : Lst} {f : Int → Nat} {M : Nat} (v : Inv K n t s f M) {k : Nat} (hk : k < K) : cumP s f (k + 1) = cumP s f k + (orderP s k).length := by
  rw [v.order hk]
  unfold cumP
  rw [← filter_two (fun x => decide (f x < k)) (fun x => f x == k) (fun x h1 h2 => by simp at h1 h2; omega)]
  congr 1
  refine List.filter_congr (fun x _ => ?_)
  by_cases e : f x = k
  · simp [e]
  · have : (f x < k + 1) ↔ f x < k := by omega
    simp [e, this]
theorem Inv.cum_all {K n : Nat} {t : St} {s : Lst} {f : Int → Nat} {M : Nat} (v : Inv K n t s f M) : cumP s f K = s.U.length := by
  unfold cumP
  rw [List.filter_eq_self.2]
  intro x hx
  simpa using (v.where_ hx).2.1
theorem cum_le (s : Lst) (f : Int → Nat) (k : Nat) : cumP s f k ≤ s.U.length := List.length_filter_le _ _
end Go.Proofs.YtkgecpplgjfhiaaGreatDoor.Lis
