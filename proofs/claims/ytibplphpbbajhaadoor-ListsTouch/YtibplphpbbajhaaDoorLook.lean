/-
  Last and List of the program, over its state.
-/
import Derived.Test.YtibplphpbbajhaaDoorPrim
namespace Go.Proofs.YtibplphpbbajhaaDoor
open Go.RowKit

def lasQ (n K : Nat) (t : St) (k : Int) : Int := if lenQ K t k = 0 then -1 else t.A ((n : Int) + k)
def lisQ (n K : Nat) (t : St) (x : Int) : Int := if refQ n K t x = 0 then t.P x else -1
theorem last_ob {w : World} {g h l K n N : Nat} {t : St} (o : Ob w g h l K n N t) (k : Int) : Calls Tryd.prog 21 #[.pointer (some ⟨g, 0, none⟩), .int .i64 k] w fun e w' => e = .returned (.int .i64 (lasQ n K t k)) ∧ Below w.heap.size w w' := by
  have KL := len_ob o k
  unfold lasQ
  by_cases hz : lenQ K t k = 0
  · rw [if_pos hz]
    rw [hz] at KL
    have HK := hid2 KL
    clear KL hz o
    go_enter Tryd.func21, Tryd.ntmps21
    go_wp2_with fail
    refine (show Calls _ _ _ _ _ from HK.out).mono ?_
    rintro e w1 ⟨rfl, hw⟩
    cases hw
    go_wp2
    go_ret
    exact ⟨rfl, Below.refl _ _⟩
  · rw [if_neg hz]
    have hk : 0 ≤ k ∧ k < K := by
      by_cases hk : 0 ≤ k ∧ k < K
      · exact hk
      · exact absurd (if_neg hk) hz
    obtain ⟨j, rfl⟩ := Int.eq_ofNat_of_zero_le hk.1
    have hj : j < K := by omega
    have hN : n + j < N := by have := o.eN; omega
    have hN2 : N ≤ 105 := by have := o.eN; have := o.K64; have := o.n40; omega
    obtain ⟨c5, _, _, _⟩ := o.link hN
    obtain ⟨⟨b1, b2, b3⟩, _, _, c3, _⟩ := o.cells
    have KE := hid2 (fun W (q : Ob W g h l K n N t) => end_ob q (k := j) (by omega))
    obtain ⟨q, hq⟩ : ∃ q, q = n + j := ⟨_, rfl⟩
    rw [← hq] at KE c5 hN
    have hA : t.A ((n : Int) + (j : Int)) = t.A (q : Int) := by rw [hq]; congr 1
    rw [hA]
    generalize lenQ K t j = m at *
    generalize t.A (q : Int) = a at *
    have HK := hid2 KL
    have HO := hid2 o
    clear KL o hk hq hA
    go_enter Tryd.func21, Tryd.ntmps21
    go_wp2_with fail
    refine (show Calls _ _ _ _ _ from HK.out).mono ?_
    rintro e w1 ⟨rfl, hw⟩
    cases hw
    go_wp2_with fail
    go_quiet ((go_at_call 24; exact Calls.quiet_of_same (KE.out _ (HO.out.below (drew_below _ _ _)))))
    go_wp2
    go_ret
    exact ⟨rfl, drew_below _ _ _⟩
theorem list_ob {w : World} {g h l K n N : Nat} {t : St} (o : Ob w g h l K n N t) (x : Int) : Calls Tryd.prog 17 #[.pointer (some ⟨g, 0, none⟩), .int .i64 x] w fun e w' => e = .returned (.int .i64 (lisQ n K t x)) ∧ Below w.heap.size w w' := by
  have KR := refuses_ob o x
  unfold lisQ
  by_cases hz : refQ n K t x = 0
  · rw [if_pos hz]
    have hx : 0 ≤ x ∧ x < n := by
      unfold refQ at hz
      split at hz
      · cases hz
      · omega
    rw [hz] at KR
    obtain ⟨j, rfl⟩ := Int.eq_ofNat_of_zero_le hx.1
    have hN : j < N := by have := o.eN; omega
    have hN2 : N ≤ 105 := by have := o.eN; have := o.K64; have := o.n40; omega
    have HK := hid2 KR
    have HO := hid2 o
    obtain ⟨p, hp⟩ : ∃ p, p = t.P (j : Int) := ⟨_, rfl⟩
    rw [← hp]
    have HP := hid2 hp
    clear KR hz hx o hp
    go_enter Tryd.func17, Tryd.ntmps17
    go_wp2_with fail
    refine (show Calls _ _ _ _ _ from HK.out).mono ?_
    rintro e w1 ⟨rfl, hb⟩
    have HO1 := hid2 (HO.out.below hb)
    have HB := hid2 hb
    obtain ⟨_, _, c5, _⟩ := HO1.out.link hN
    obtain ⟨⟨b1, b2, b3⟩, _, _, c3, _⟩ := HO1.out.cells
    rw [← HP.out] at c5
    clear hb HO
    go_wp2
    go_ret
    exact ⟨rfl, HB.out⟩
  · rw [if_neg hz]
    generalize refQ n K t x = c at *
    have HK := hid2 KR
    clear KR o
    go_enter Tryd.func17, Tryd.ntmps17
    go_wp2_with fail
    refine (show Calls _ _ _ _ _ from HK.out).mono ?_
    rintro e w1 ⟨rfl, hb⟩
    go_wp2
    go_ret
    exact ⟨rfl, hb⟩
end Go.Proofs.YtibplphpbbajhaaDoor
