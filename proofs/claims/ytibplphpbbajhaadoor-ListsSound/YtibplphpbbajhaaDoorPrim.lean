/-
  The least calls of the program: end, free, hasList, tie, Len, refuses.
-/
import Derived.Test.YtibplphpbbajhaaDoorOb
import Derived.Deep.Cut
namespace Go.Proofs.YtibplphpbbajhaaDoor
open Go.RowKit

theorem end_ob {w : World} {g h l K n N : Nat} {t : St} (o : Ob w g h l K n N t) {k : Nat} (hk : k < K + 1) : Calls Tryd.prog 24 #[.pointer (some ⟨g, 0, none⟩), .int .i64 (k : Int)] w fun e w' => e = .returned (.int .i64 ((n + k : Nat) : Int)) ∧ w' = w := by
  obtain ⟨⟨b1, _, _⟩, _, c2, _⟩ := o.cells
  have h1 := o.K64
  have h2 := o.n40
  clear o
  go_enter Tryd.func24, Tryd.ntmps24
  go_wp2
  go_ret
  exact ⟨by simp, rfl⟩
theorem free_ob {w : World} {g h l K n N : Nat} {t : St} (o : Ob w g h l K n N t) : Calls Tryd.prog 27 #[.pointer (some ⟨g, 0, none⟩)] w fun e w' => e = .returned (.int .i64 (K : Int)) ∧ w' = w := by
  obtain ⟨⟨b1, _, _⟩, c2, _⟩ := o.cells
  clear o
  go_enter Tryd.func27, Tryd.ntmps27
  go_wp2
  go_ret
  exact ⟨rfl, rfl⟩
theorem has_ob {w : World} {g h l K n N : Nat} {t : St} (o : Ob w g h l K n N t) (k : Int) : Calls Tryd.prog 34 #[.pointer (some ⟨g, 0, none⟩), .int .i64 k] w fun e w' => e = .returned (.bool (decide (0 ≤ k ∧ k < K))) ∧ w' = w := by
  obtain ⟨⟨b1, _, _⟩, c2, _⟩ := o.cells
  clear o
  by_cases h0 : 0 ≤ k
  · have hd : decide (0 ≤ k) = true := by simpa using h0
    have e : decide (0 ≤ k ∧ k < (K : Int)) = decide (k < (K : Int)) := by simp [h0]
    rw [e]
    go_enter Tryd.func34, Tryd.ntmps34
    go_wp2
    go_ret
    exact ⟨by simp, rfl⟩
  · have hd : decide (0 ≤ k) = false := by simpa using h0
    have e : decide (0 ≤ k ∧ k < (K : Int)) = false := by simp [h0]
    rw [e]
    go_enter Tryd.func34, Tryd.ntmps34
    go_wp2
    go_ret
    exact ⟨by simp, rfl⟩
theorem tie_ob {w : World} {g h l K n N : Nat} {t : St} (o : Ob w g h l K n N t) {a b : Nat} (ha : a < N) (hb : b < N) : Calls Tryd.prog 25 #[.pointer (some ⟨g, 0, none⟩), .int .i64 (a : Int), .int .i64 (b : Int)] w fun e w' => e = .returned (.tuple #[]) ∧ Ob w' g h l K n N (tieP t a b) ∧ Off g h l w w' := by
  obtain ⟨⟨b1, b2, _⟩, _, _, c3, _, _, _, f2, _⟩ := o.cells
  have h1 := o.K64
  have h2 := o.n40
  obtain ⟨_, k1, _, _⟩ := o.link ha
  have o1 := o.setB ha (b : Int)
  have p1 := (Off.refl g h l w).setH (a * 4 + 1) (.int .i64 (b : Int))
  have hN : N ≤ 105 := by have := o.eN; omega
  have HO := hid2 o1
  have HP := hid2 p1
  clear o o1 p1
  go_enter Tryd.func25, Tryd.ntmps25
  go_upto_region 1 with fail
  obtain ⟨w1, hw1⟩ : ∃ w1, w1 = w.setCell ⟨h, a * 4 + 1, none⟩ (.int .i64 (b : Int)) := ⟨_, rfl⟩
  rw [← hw1] at HO HP ⊢
  obtain ⟨⟨b1, b2, _⟩, _, _, c3, _, _, _, f2, _⟩ := HO.out.cells
  obtain ⟨k1, _, _, _⟩ := HO.out.link hb
  have HO2 := hid2 (HO.out.setA hb (a : Int))
  have HP2 := hid2 (HP.out.setH (b * 4) (.int .i64 (a : Int)))
  clear hw1 HO HP
  go_wp2
  go_end0
  exact ⟨rfl, HO2.out, HP2.out⟩

/-- What the lists answer. -/
def lenQ (K : Nat) (t : St) (k : Int) : Int := if 0 ≤ k ∧ k < K then t.len k else 0
def refQ (n K : Nat) (t : St) (x : Int) : Int := if x < 0 ∨ (n : Int) ≤ x then 2 else if t.P x = K then 9 else 0
theorem len_ob {w : World} {g h l K n N : Nat} {t : St} (o : Ob w g h l K n N t) (k : Int) : Calls Tryd.prog 22 #[.pointer (some ⟨g, 0, none⟩), .int .i64 k] w fun e w' => e = .returned (.int .i64 (lenQ K t k)) ∧ w' = w := by
  have KH := has_ob o k
  by_cases hk : 0 ≤ k ∧ k < K
  · have e : lenQ K t k = t.len k := if_pos hk
    rw [e]
    have hd : decide (0 ≤ k ∧ k < (K : Int)) = true := by simpa using hk
    rw [hd] at KH
    obtain ⟨j, rfl⟩ := Int.eq_ofNat_of_zero_le hk.1
    have hj : j < K := by omega
    have c := o.count (k := j) (by omega)
    obtain ⟨⟨b1, _, b3⟩, _, _, _, c4, _⟩ := o.cells
    have h1 := o.K64
    have HK := hid2 KH
    generalize t.len (j : Int) = m at *
    clear KH hk o e hd
    go_enter Tryd.func22, Tryd.ntmps22
    go_wp2_with fail
    refine (show Calls _ _ _ _ _ from HK.out).mono ?_
    rintro e w1 ⟨rfl, hw⟩
    cases hw
    go_wp2
    go_ret
    exact ⟨rfl, rfl⟩
  · have e : lenQ K t k = 0 := if_neg hk
    rw [e]
    have hd : decide (0 ≤ k ∧ k < (K : Int)) = false := by simpa using hk
    rw [hd] at KH
    have HK := hid2 KH
    clear KH hk o e hd
    go_enter Tryd.func22, Tryd.ntmps22
    go_wp2_with fail
    refine (show Calls _ _ _ _ _ from HK.out).mono ?_
    rintro e w1 ⟨rfl, hw⟩
    cases hw
    go_wp2
    go_ret
    exact ⟨rfl, rfl⟩
theorem refuses_ob {w : World} {g h l K n N : Nat} {t : St} (o : Ob w g h l K n N t) (x : Int) : Calls Tryd.prog 37 #[.pointer (some ⟨g, 0, none⟩), .int .i64 x] w fun e w' => e = .returned (.int .i64 (refQ n K t x)) ∧ Below w.heap.size w w' := by
  obtain ⟨⟨b1, b2, b3⟩, _, c2, c3, _⟩ := o.cells
  have h1 := o.K64
  have h2 := o.n40
  by_cases hx : x < 0 ∨ (n : Int) ≤ x
  · have e : refQ n K t x = 2 := if_pos hx
    rw [e]
    clear o e
    by_cases h0 : x < 0
    · have hd : decide (x < 0) = true := by simpa using h0
      go_enter Tryd.func37, Tryd.ntmps37
      go_wp2
      go_ret
      exact ⟨rfl, Below.refl _ _⟩
    · have hd : decide (x < 0) = false := by simpa using h0
      have hn : (n : Int) ≤ x := by omega
      have hd2 : decide ((n : Int) ≤ x) = true := by simpa using hn
      go_enter Tryd.func37, Tryd.ntmps37
      go_wp2
      go_ret
      exact ⟨rfl, Below.refl _ _⟩
  · obtain ⟨j, rfl⟩ := Int.eq_ofNat_of_zero_le (show 0 ≤ x by omega)
    have hj : j < n := by omega
    obtain ⟨_, _, c5, _⟩ := o.link (i := j) (by have := o.eN; omega)
    have hN : j < N := by have := o.eN; omega
    have hN2 : N ≤ 105 := by have := o.eN; omega
    have KF := hid2 (fun W (q : Ob W g h l K n N t) => free_ob q)
    have e : refQ n K t (j : Int) = if t.P (j : Int) = K then 9 else 0 := if_neg hx
    rw [e]
    have HO := hid2 o
    generalize t.P (j : Int) = p at *
    clear o e hx
    by_cases hp : p = K
    · rw [if_pos hp]
      subst hp
      go_enter Tryd.func37, Tryd.ntmps37
      go_wp2_with fail
      go_quiet ((go_at_call 27; exact Calls.quiet_of_same (KF.out _ (HO.out.below (drew_below _ _ _)))))
      go_wp2
      go_ret
      exact ⟨rfl, drew_below _ _ _⟩
    · rw [if_neg hp]
      go_enter Tryd.func37, Tryd.ntmps37
      go_wp2_with fail
      go_quiet ((go_at_call 27; exact Calls.quiet_of_same (KF.out _ (HO.out.below (drew_below _ _ _)))))
      go_wp2
      go_ret
      exact ⟨rfl, drew_below _ _ _⟩
end Go.Proofs.YtibplphpbbajhaaDoor
