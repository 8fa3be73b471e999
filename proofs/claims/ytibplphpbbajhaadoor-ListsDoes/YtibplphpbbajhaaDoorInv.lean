/-
  The program's state beside what the document says: what holds between them, and that each act keeps it.
-/
import Derived.Test.YtibplphpbbajhaaDoorRing
namespace Go.Proofs.YtibplphpbbajhaaDoor

/-- The rings are the document's lists and, behind them, its free nodes; the later used, the greater its number. -/
structure Inv (K n : Nat) (t : St) (s : Lst) (f : Int → Nat) (M : Nat) : Prop where
  ok : Ok s f
  len : s.L.length = K
  sn : s.n = n
  rings : Rings n t (s.L ++ [s.F])
  sorted : s.U.Pairwise fun x y => t.S y < t.S x
  top : ∀ x ∈ s.U, t.S x ≤ t.uses
  u0 : 0 ≤ t.uses
  uM : t.uses ≤ M
  cnt : s.F.length + s.U.length = n

theorem Rings.gone {n : Int} {t : St} {R : List (List Int)} (h : Rings n t R) {k : Nat} {l : List Int} (hk : R[k]? = some l) {x : Int} (hx : x ∈ l) : ∀ m ∈ R.set k (but l x), ¬ x ∈ m := by
  intro m hm hxm
  obtain ⟨j, hj⟩ := List.mem_iff_getElem?.1 hm
  rw [List.getElem?_set] at hj
  by_cases e : k = j
  · subst e
    rw [if_pos rfl] at hj
    split at hj
    · cases hj
      exact (mem_but.1 hxm).2 rfl
    · cases hj
  · rw [if_neg e] at hj
    exact e (h.one hk hj (List.mem_cons_of_mem _ hx) (List.mem_cons_of_mem _ hxm))
/-- The neighbours of a node are links. -/
theorem Rings.near {n : Nat} {t : St} {R : List (List Int)} (h : Rings n t R) {k : Nat} {l : List Int} (hk : R[k]? = some l) {x : Int} (hx : x ∈ l) : ∃ a b : Nat, t.A x = a ∧ a < n + R.length ∧ t.B x = b ∧ b < n + R.length := by
  obtain ⟨s1, _, _, _, s5⟩ := h k l hk
  have hkl : k < R.length := (List.getElem?_eq_some_iff.1 hk).1
  have key : ∀ y, y ∈ ((n : Int) + (k : Int)) :: l → ∃ a : Nat, y = a ∧ a < n + R.length := fun y hy => by
    rcases List.mem_cons.1 hy with e | hy
    · exact ⟨n + k, by omega, by omega⟩
    · obtain ⟨q1, q2, _⟩ := s5 y hy
      exact ⟨y.toNat, by omega, by omega⟩
  obtain ⟨p, q, rfl⟩ := List.append_of_mem hx
  obtain ⟨g1, g2⟩ := Seg.split.1 s1
  obtain ⟨a, ha, ha2⟩ := key (t.A x) (by have := g1.last; simp at this ⊢; rcases this with h | h <;> simp [h])
  obtain ⟨b, hb, hb2⟩ := key (t.B x) (by have := g2.first; simp at this ⊢; rcases this with h | h <;> simp [h])
  exact ⟨a, b, ha, ha2, hb, hb2⟩
/-- What stands right behind an end. -/
theorem Rings.head {n : Nat} {t : St} {R : List (List Int)} (h : Rings n t R) {k : Nat} {l : List Int} (hk : R[k]? = some l) : ∃ b : Nat, t.B ((n : Int) + (k : Int)) = b ∧ b < n + R.length := by
  obtain ⟨s1, _, _, _, s5⟩ := h k l hk
  have hkl : k < R.length := (List.getElem?_eq_some_iff.1 hk).1
  have := s1.first
  rcases List.mem_append.1 this with hm | hm
  · obtain ⟨q1, q2, _⟩ := s5 _ hm
    exact ⟨(t.B ((n : Int) + (k : Int))).toNat, by omega, by omega⟩
  · simp at hm
    exact ⟨n + k, by omega, by omega⟩

theorem Inv.free {K n : Nat} {t : St} {s : Lst} {f : Int → Nat} {M : Nat} (v : Inv K n t s f M) : (s.L ++ [s.F])[K]? = some s.F := by
  rw [List.getElem?_append_right (by rw [v.len]; exact Nat.le_refl _), v.len, Nat.sub_self]; rfl
theorem Inv.list {K n : Nat} {t : St} {s : Lst} {f : Int → Nat} {M : Nat} (v : Inv K n t s f M) {k : Nat} (hk : k < K) : (s.L ++ [s.F])[k]? = s.L[k]? :=
  List.getElem?_append_left (by rw [v.len]; exact hk)
theorem Inv.has {K n : Nat} {t : St} {s : Lst} {f : Int → Nat} {M : Nat} (v : Inv K n t s f M) {k : Nat} (hk : k < K) : s.L[k]? = some (s.U.filter fun x => f x == k) := by
  have e : s.L[k]? = some (s.L[k]'(by rw [v.len]; exact hk)) := List.getElem?_eq_getElem _
  rw [e, v.ok.at_ k _ e]
theorem Inv.where_ {K n : Nat} {t : St} {s : Lst} {f : Int → Nat} {M : Nat} (v : Inv K n t s f M) {x : Int} (hx : x ∈ s.U) : t.P x = (f x : Int) ∧ f x < K ∧ 0 ≤ x ∧ x < n := by
  have hl := v.ok.lt x hx
  rw [v.len] at hl
  obtain ⟨_, _, _, _, s5⟩ := v.rings (f x) _ (by rw [v.list hl]; exact v.ok.list hx)
  obtain ⟨q1, q2, q3⟩ := s5 x (List.mem_filter.2 ⟨hx, by simp⟩)
  exact ⟨q3, hl, q1, q2⟩
theorem Inv.isfree {K n : Nat} {t : St} {s : Lst} {f : Int → Nat} {M : Nat} (v : Inv K n t s f M) {x : Int} (hx : x ∈ s.F) : t.P x = (K : Int) ∧ 0 ≤ x ∧ x < n := by
  obtain ⟨_, _, _, _, s5⟩ := v.rings K _ v.free
  obtain ⟨q1, q2, q3⟩ := s5 x hx
  exact ⟨q3, q1, q2⟩
theorem Inv.either {K n : Nat} {t : St} {s : Lst} {f : Int → Nat} {M : Nat} (v : Inv K n t s f M) {x : Int} (h0 : 0 ≤ x) (h1 : x < n) : x ∈ s.F ∨ x ∈ s.U := by
  have := (v.ok.all x).2 ⟨h0, by rw [v.sn]; exact h1⟩
  simpa using this
theorem Inv.out {K n : Nat} {t : St} {s : Lst} {f : Int → Nat} {M : Nat} (v : Inv K n t s f M) {x : Int} (h : x < 0 ∨ (n : Int) ≤ x) : ¬ x ∈ s.U := fun hx => by
  have := v.where_ hx
  omega

theorem Inv.add {K n : Nat} {t : St} {s : Lst} {f : Int → Nat} {M : Nat} (v : Inv K n t s f M) {x : Int} {r : List Int} (hF : s.F = x :: r) {k : Nat} (hk : k < K) :
    Inv K n (useP n (takeP t x) x k) ⟨setL s k (x :: getL s k), r, x :: s.U, s.n⟩ (upd f x k) (M + 1) := by
  have hx : x ∈ s.F := by rw [hF]; exact List.mem_cons_self ..
  obtain ⟨_, q0, q1⟩ := v.isfree hx
  have hxU : ¬ x ∈ s.U := v.ok.dis hx
  have r1 := v.rings.take v.free hx
  have hb : but s.F x = r := by
    have := v.ok.ndF
    rw [hF] at this ⊢
    exact but_split (p := []) this
  have hg := v.rings.gone v.free hx
  have hk' : ((s.L ++ [s.F]).set K (but s.F x))[k]? = some (getL s k) := by
    rw [List.getElem?_set, if_neg (by omega), v.list hk, v.ok.get (by omega) (by rw [v.len]; omega)]
    exact v.has hk
  have r2 := r1.put hk' q0 q1 hg
  have e : ((s.L ++ [s.F]).set K (but s.F x)).set k (x :: getL s k) = setL s k (x :: getL s k) ++ [r] := by
    rw [hb, List.set_append, if_neg (by rw [v.len]; omega), v.len, Nat.sub_self, List.set_append, if_pos (by rw [v.len]; exact hk)]
    rfl
  rw [e] at r2
  refine ⟨?_, ?_, v.sn, r2, ?_, ?_, ?_, ?_, ?_⟩
  · exact v.ok.add hF (k := (k : Int)) (by omega) (by rw [v.len]; omega)
  · show (s.L.set _ _).length = K
    rw [List.length_set, v.len]
  · show (x :: s.U).Pairwise fun a b => up t.S x (t.uses + 1) b < up t.S x (t.uses + 1) a
    rw [List.pairwise_cons]
    refine ⟨fun y hy => ?_, v.sorted.imp_of_mem fun {a b} ha hb hab => ?_⟩
    · rw [up_at, up_ne _ _ (fun e => hxU (by rw [← e]; exact hy))]
      have := v.top y hy
      omega
    · rw [up_ne _ _ (fun e => hxU (by rw [← e]; exact hb)), up_ne _ _ (fun e => hxU (by rw [← e]; exact ha))]
      exact hab
  · intro y hy
    show up t.S x (t.uses + 1) y ≤ t.uses + 1
    by_cases e : y = x
    · rw [e, up_at]; omega
    · rw [up_ne _ _ e]
      have := v.top y ((List.mem_cons.1 hy).resolve_left e)
      omega
  · show 0 ≤ t.uses + 1
    have := v.u0; omega
  · show t.uses + 1 ≤ _
    have := v.uM; omega
  · show r.length + (x :: s.U).length = n
    have := v.cnt
    rw [hF, List.length_cons] at this
    rw [List.length_cons]; omega
theorem Inv.drop {K n : Nat} {t : St} {s : Lst} {f : Int → Nat} {M : Nat} (v : Inv K n t s f M) {x : Int} (hx : x ∈ s.U) :
    Inv K n (putP n (takeP t x) x K) ⟨setL s (f x) (but (getL s (f x)) x), x :: s.F, but s.U x, s.n⟩ f M := by
  obtain ⟨_, hk, q0, q1⟩ := v.where_ hx
  have hl : (s.L ++ [s.F])[f x]? = some (getL s (f x)) := by
    rw [v.list hk, v.ok.get (by omega) (by rw [v.len]; omega)]
    exact v.has hk
  have hxl : x ∈ getL s (f x) := by
    rw [v.ok.get (by omega) (by rw [v.len]; omega)]
    exact List.mem_filter.2 ⟨hx, by simp⟩
  have r1 := v.rings.take hl hxl
  have hg := v.rings.gone hl hxl
  have hK : ((s.L ++ [s.F]).set (f x) (but (getL s (f x)) x))[K]? = some s.F := by
    rw [List.getElem?_set, if_neg (by omega)]
    exact v.free
  have r2 := r1.put hK q0 q1 hg
  have e : ((s.L ++ [s.F]).set (f x) (but (getL s (f x)) x)).set K (x :: s.F) = setL s (f x) (but (getL s (f x)) x) ++ [x :: s.F] := by
    rw [List.set_append, if_pos (by rw [v.len]; exact hk), List.set_append, if_neg (by rw [List.length_set, v.len]; omega), List.length_set, v.len, Nat.sub_self]
    rfl
  rw [e] at r2
  refine ⟨v.ok.drop hx, ?_, v.sn, r2, v.sorted.filter _, fun y hy => v.top y (mem_but.1 hy).1, v.u0, v.uM, ?_⟩
  · show (s.L.set _ _).length = K
    rw [List.length_set, v.len]
  · show (x :: s.F).length + (but s.U x).length = n
    have := v.cnt
    have := but_length v.ok.ndU hx
    rw [List.length_cons]; omega
theorem Inv.touch {K n : Nat} {t : St} {s : Lst} {f : Int → Nat} {M : Nat} (v : Inv K n t s f M) {x : Int} (hx : x ∈ s.U) :
    Inv K n (useP n (takeP t x) x (f x)) ⟨setL s (f x) (x :: but (getL s (f x)) x), s.F, x :: but s.U x, s.n⟩ f (M + 1) := by
  obtain ⟨_, hk, q0, q1⟩ := v.where_ hx
  have hl : (s.L ++ [s.F])[f x]? = some (getL s (f x)) := by
    rw [v.list hk, v.ok.get (by omega) (by rw [v.len]; omega)]
    exact v.has hk
  have hxl : x ∈ getL s (f x) := by
    rw [v.ok.get (by omega) (by rw [v.len]; omega)]
    exact List.mem_filter.2 ⟨hx, by simp⟩
  have r1 := v.rings.take hl hxl
  have hg := v.rings.gone hl hxl
  have hK : ((s.L ++ [s.F]).set (f x) (but (getL s (f x)) x))[f x]? = some (but (getL s (f x)) x) := by
    rw [List.getElem?_set, if_pos rfl, if_pos (by simp [v.len]; omega)]
  have r2 := r1.put hK q0 q1 hg
  have e : ((s.L ++ [s.F]).set (f x) (but (getL s (f x)) x)).set (f x) (x :: but (getL s (f x)) x) = setL s (f x) (x :: but (getL s (f x)) x) ++ [s.F] := by
    rw [List.set_set, List.set_append, if_pos (by rw [v.len]; exact hk)]
    rfl
  rw [e] at r2
  have hbU : ∀ y ∈ but s.U x, y ≠ x := fun y hy => (mem_but.1 hy).2
  refine ⟨v.ok.touch hx, ?_, v.sn, r2, ?_, ?_, ?_, ?_, ?_⟩
  · show (s.L.set _ _).length = K
    rw [List.length_set, v.len]
  · show (x :: but s.U x).Pairwise fun a b => up t.S x (t.uses + 1) b < up t.S x (t.uses + 1) a
    rw [List.pairwise_cons]
    refine ⟨fun y hy => ?_, (v.sorted.filter _).imp_of_mem fun {a b} ha hb hab => ?_⟩
    · rw [up_at, up_ne _ _ (hbU y hy)]
      have := v.top y (mem_but.1 hy).1
      omega
    · rw [up_ne _ _ (hbU b hb), up_ne _ _ (hbU a ha)]
      exact hab
  · intro y hy
    show up t.S x (t.uses + 1) y ≤ t.uses + 1
    by_cases e : y = x
    · rw [e, up_at]; omega
    · rw [up_ne _ _ e]
      have := v.top y (mem_but.1 ((List.mem_cons.1 hy).resolve_left e)).1
      omega
  · show 0 ≤ t.uses + 1
    have := v.u0; omega
  · show t.uses + 1 ≤ _
    have := v.uM; omega
  · show s.F.length + (x :: but s.U x).length = n
    have := v.cnt
    have := but_length v.ok.ndU hx
    rw [List.length_cons]; omega
end Go.Proofs.YtibplphpbbajhaaDoor
