/-
  take, put and use of the program, over its state.
-/
import Derived.Test.YtkgecpplgjfhiaaGreatDoorQGOb
import Derived.Deep.Cut
namespace Go.Proofs.YtkgecpplgjfhiaaGreatDoor.Lis
open Go.RowKit

theorem end_ob {w : World} {g h l K n N : Nat} {t : St} (o : Ob w g h l K n N t) {k : Nat} (hk : k < K + 1) : Calls Tryz.prog 64 #[.pointer (some ⟨g, 0, none⟩), .int .i64 (k : Int)] w fun e w' => e = .returned (.int .i64 ((n + k : Nat) : Int)) ∧ w' = w := by
  obtain ⟨⟨b1, _, _⟩, _, c2, _⟩ := o.cells
  have h1 := o.K64
  have h2 := o.n40
  clear o
  go_enter Tryz.func64, Tryz.ntmps64
  go_wp2
  go_ret
  exact ⟨by simp, rfl⟩
theorem free_ob {w : World} {g h l K n N : Nat} {t : St} (o : Ob w g h l K n N t) : Calls Tryz.prog 67 #[.pointer (some ⟨g, 0, none⟩)] w fun e w' => e = .returned (.int .i64 (K : Int)) ∧ w' = w := by
  obtain ⟨⟨b1, _, _⟩, c2, _⟩ := o.cells
  clear o
  go_enter Tryz.func67, Tryz.ntmps67
  go_wp2
  go_ret
  exact ⟨rfl, rfl⟩
theorem has_ob {w : World} {g h l K n N : Nat} {t : St} (o : Ob w g h l K n N t) (k : Int) : Calls Tryz.prog 94 #[.pointer (some ⟨g, 0, none⟩), .int .i64 k] w fun e w' => e = .returned (.bool (decide (0 ≤ k ∧ k < K))) ∧ w' = w := by
  obtain ⟨⟨b1, _, _⟩, c2, _⟩ := o.cells
  clear o
  by_cases h0 : 0 ≤ k
  · have hd : decide (0 ≤ k) = true := by simpa using h0
    have e : decide (0 ≤ k ∧ k < (K : Int)) = decide (k < (K : Int)) := by simp [h0]
    rw [e]
    go_enter Tryz.func94, Tryz.ntmps94
    go_wp2
    go_ret
    exact ⟨by simp, rfl⟩
  · have hd : decide (0 ≤ k) = false := by simpa using h0
    have e : decide (0 ≤ k ∧ k < (K : Int)) = false := by simp [h0]
    rw [e]
    go_enter Tryz.func94, Tryz.ntmps94
    go_wp2
    go_ret
    exact ⟨by simp, rfl⟩
theorem tie_ob {w : World} {g h l K n N : Nat} {t : St} (o : Ob w g h l K n N t) {a b : Nat} (ha : a < N) (hb : b < N) : Calls Tryz.prog 65 #[.pointer (some ⟨g, 0, none⟩), .int .i64 (a : Int), .int .i64 (b : Int)] w fun e w' => e = .returned (.tuple #[]) ∧ Ob w' g h l K n N (tieP t a b) ∧ Off g h l w w' := by
  obtain ⟨⟨b1, b2, _⟩, _, _, c3, _, _, _, f2, _⟩ := o.cells
  have h1 := o.K64
  have h2 := o.n40
  obtain ⟨_, k1, _, _⟩ := o.link ha
  have o1 := o.setB ha (b : Int)
  have p1 := (Off.refl g h l w).setH (a * 4 + 1) (.int .i64 (b : Int))
  have hN : N ≤ 800 := by have := o.eN; omega
  have HO := hid2 o1
  have HP := hid2 p1
  clear o o1 p1
  go_enter Tryz.func65, Tryz.ntmps65
  go_upto_region 1 with fail
  obtain ⟨w1, hw1⟩ : ∃ w1, w1 = w.setCell ⟨h, a * 4 + 1, none⟩ (.int .i64 (b : Int)) := ⟨_, rfl⟩
  rw [← hw1] at HO HP ⊢
  obtain ⟨⟨b1, b2, _⟩, _, _, c3, _, _, _, f2, _⟩ := HO.out.cells
  obtain ⟨k1, _, _, _⟩ := HO.out.link hb
  have HO2 := hid2 (HO.out.setA hb (a : Int))
  have HP2 := hid2 (HP.out.setH (b * 4) (.int .i64 (a : Int)))
  clear hw1 HO HP
  go_wp2
  go_end0
  exact ⟨rfl, HO2.out, HP2.out⟩

/-- What the lists answer. -/
def lenQ (K : Nat) (t : St) (k : Int) : Int := if 0 ≤ k ∧ k < K then t.len k else 0
def refQ (n K : Nat) (t : St) (x : Int) : Int := if x < 0 ∨ (n : Int) ≤ x then 2 else if t.P x = K then 9 else 0
theorem len_ob {w : World} {g h l K n N : Nat} {t : St} (o : Ob w g h l K n N t) (k : Int) : Calls Tryz.prog 90 #[.pointer (some ⟨g, 0, none⟩), .int .i64 k] w fun e w' => e = .returned (.int .i64 (lenQ K t k)) ∧ w' = w := by
  have KH := has_ob o k
  by_cases hk : 0 ≤ k ∧ k < K
  · have e : lenQ K t k = t.len k := if_pos hk
    rw [e]
    have hd : decide (0 ≤ k ∧ k < (K : Int)) = true := by simpa using hk
    rw [hd] at KH
    obtain ⟨j, rfl⟩ := Int.eq_ofNat_of_zero_le hk.1
    have hj : j < K := by omega
    have c := o.count (k := j) (by omega)
    obtain ⟨⟨b1, _, b3⟩, _, _, _, c4, _⟩ := o.cells
    have h1 := o.K64
    have HK := hid2 KH
    generalize t.len (j : Int) = m at *
    clear KH hk o e hd
    go_enter Tryz.func90, Tryz.ntmps90
    go_wp2_with fail
    refine (show Calls _ _ _ _ _ from HK.out).mono ?_
    rintro e w1 ⟨rfl, hw⟩
    cases hw
    go_wp2
    go_ret
    exact ⟨rfl, rfl⟩
  · have e : lenQ K t k = 0 := if_neg hk
    rw [e]
    have hd : decide (0 ≤ k ∧ k < (K : Int)) = false := by simpa using hk
    rw [hd] at KH
    have HK := hid2 KH
    clear KH hk o e hd
    go_enter Tryz.func90, Tryz.ntmps90
    go_wp2_with fail
    refine (show Calls _ _ _ _ _ from HK.out).mono ?_
    rintro e w1 ⟨rfl, hw⟩
    cases hw
    go_wp2
    go_ret
    exact ⟨rfl, rfl⟩
theorem refuses_ob {w : World} {g h l K n N : Nat} {t : St} (o : Ob w g h l K n N t) (x : Int) : Calls Tryz.prog 86 #[.pointer (some ⟨g, 0, none⟩), .int .i64 x] w fun e w' => e = .returned (.int .i64 (refQ n K t x)) ∧ Below w.heap.size w w' := by
  obtain ⟨⟨b1, b2, b3⟩, _, c2, c3, _⟩ := o.cells
  have h1 := o.K64
  have h2 := o.n40
  by_cases hx : x < 0 ∨ (n : Int) ≤ x
  · have e : refQ n K t x = 2 := if_pos hx
    rw [e]
    clear o e
    by_cases h0 : x < 0
    · have hd : decide (x < 0) = true := by simpa using h0
      go_enter Tryz.func86, Tryz.ntmps86
      go_wp2
      go_ret
      exact ⟨rfl, Below.refl _ _⟩
    · have hd : decide (x < 0) = false := by simpa using h0
      have hn : (n : Int) ≤ x := by omega
      have hd2 : decide ((n : Int) ≤ x) = true := by simpa using hn
      go_enter Tryz.func86, Tryz.ntmps86
      go_wp2
      go_ret
      exact ⟨rfl, Below.refl _ _⟩
  · obtain ⟨j, rfl⟩ := Int.eq_ofNat_of_zero_le (show 0 ≤ x by omega)
    have hj : j < n := by omega
    obtain ⟨_, _, c5, _⟩ := o.link (i := j) (by have := o.eN; omega)
    have hN : j < N := by have := o.eN; omega
    have hN2 : N ≤ 800 := by have := o.eN; omega
    have KF := hid2 (fun W (q : Ob W g h l K n N t) => free_ob q)
    have e : refQ n K t (j : Int) = if t.P (j : Int) = K then 9 else 0 := if_neg hx
    rw [e]
    have HO := hid2 o
    generalize t.P (j : Int) = p at *
    clear o e hx
    by_cases hp : p = K
    · rw [if_pos hp]
      subst hp
      go_enter Tryz.func86, Tryz.ntmps86
      go_wp2_with fail
      go_quiet ((go_at_call 67; exact Calls.quiet_of_same (KF.out _ (HO.out.below (drew_below _ _ _)))))
      go_wp2
      go_ret
      exact ⟨rfl, drew_below _ _ _⟩
    · rw [if_neg hp]
      go_enter Tryz.func86, Tryz.ntmps86
      go_wp2_with fail
      go_quiet ((go_at_call 67; exact Calls.quiet_of_same (KF.out _ (HO.out.below (drew_below _ _ _)))))
      go_wp2
      go_ret
      exact ⟨rfl, drew_below _ _ _⟩
end Go.Proofs.YtkgecpplgjfhiaaGreatDoor.Lis

namespace Go.Proofs.YtkgecpplgjfhiaaGreatDoor.Lis
open Go.RowKit

def lasQ (n K : Nat) (t : St) (k : Int) : Int := if lenQ K t k = 0 then -1 else t.A ((n : Int) + k)
def lisQ (n K : Nat) (t : St) (x : Int) : Int := if refQ n K t x = 0 then t.P x else -1
theorem last_ob {w : World} {g h l K n N : Nat} {t : St} (o : Ob w g h l K n N t) (k : Int) : Calls Tryz.prog 92 #[.pointer (some ⟨g, 0, none⟩), .int .i64 k] w fun e w' => e = .returned (.int .i64 (lasQ n K t k)) ∧ Below w.heap.size w w' := by
  have KL := len_ob o k
  unfold lasQ
  by_cases hz : lenQ K t k = 0
  · rw [if_pos hz]
    rw [hz] at KL
    have HK := hid2 KL
    clear KL hz o
    go_enter Tryz.func92, Tryz.ntmps92
    go_wp2_with fail
    refine (show Calls _ _ _ _ _ from HK.out).mono ?_
    rintro e w1 ⟨rfl, hw⟩
    cases hw
    go_wp2
    go_ret
    exact ⟨rfl, Below.refl _ _⟩
  · rw [if_neg hz]
    have hk : 0 ≤ k ∧ k < K := by
      by_cases hk : 0 ≤ k ∧ k < K
      · exact hk
      · exact absurd (if_neg hk) hz
    obtain ⟨j, rfl⟩ := Int.eq_ofNat_of_zero_le hk.1
    have hj : j < K := by omega
    have hN : n + j < N := by have := o.eN; omega
    have hN2 : N ≤ 800 := by have := o.eN; have := o.K64; have := o.n40; omega
    obtain ⟨c5, _, _, _⟩ := o.link hN
    obtain ⟨⟨b1, b2, b3⟩, _, _, c3, _⟩ := o.cells
    have KE := hid2 (fun W (q : Ob W g h l K n N t) => end_ob q (k := j) (by omega))
    obtain ⟨q, hq⟩ : ∃ q, q = n + j := ⟨_, rfl⟩
    rw [← hq] at KE c5 hN
    have hA : t.A ((n : Int) + (j : Int)) = t.A (q : Int) := by rw [hq]; congr 1
    rw [hA]
    generalize lenQ K t j = m at *
    generalize t.A (q : Int) = a at *
    have HK := hid2 KL
    have HO := hid2 o
    clear KL o hk hq hA
    go_enter Tryz.func92, Tryz.ntmps92
    go_wp2_with fail
    refine (show Calls _ _ _ _ _ from HK.out).mono ?_
    rintro e w1 ⟨rfl, hw⟩
    cases hw
    go_wp2_with fail
    go_quiet ((go_at_call 64; exact Calls.quiet_of_same (KE.out _ (HO.out.below (drew_below _ _ _)))))
    go_wp2
    go_ret
    exact ⟨rfl, drew_below _ _ _⟩
end Go.Proofs.YtkgecpplgjfhiaaGreatDoor.Lis

namespace Go.Proofs.YtkgecpplgjfhiaaGreatDoor.Lis
open Go.RowKit

theorem put_ob {w : World} {g h l K n N : Nat} {t : St} (o : Ob w g h l K n N t) {x k b : Nat} (hx : x < n) (hk : k < K + 1) (hb : t.B ((n : Int) + (k : Int)) = (b : Int)) (hbN : b < N) (hl0 : 0 ≤ t.len k) (hl1 : t.len k ≤ 800) :
    Calls Tryz.prog 66 #[.pointer (some ⟨g, 0, none⟩), .int .i64 (x : Int), .int .i64 (k : Int)] w fun e w' => e = .returned (.tuple #[]) ∧ Ob w' g h l K n N (putP n t x k) ∧ Off g h l w w' := by
  have hxN : x < N := by have := o.eN; omega
  have hN2 : N ≤ 800 := by have := o.eN; have := o.K64; have := o.n40; omega
  have hK64 := o.K64
  obtain ⟨q, hq⟩ : ∃ q, q = n + k := ⟨_, rfl⟩
  have hqN : q < N := by have := o.eN; omega
  have hqI : (n : Int) + (k : Int) = (q : Int) := by omega
  have KE := end_ob o hk
  rw [← hq] at KE
  obtain ⟨_, c5, _, _⟩ := o.link hqN
  rw [← hqI, hb] at c5
  obtain ⟨⟨b1, b2, b3⟩, _, _, c3, _⟩ := o.cells
  have K1 := tie_ob o hxN hbN
  have K2 := fun W (z : Ob W g h l K n N (tieP t x b)) => tie_ob z hqN hxN
  obtain ⟨m, hm⟩ : ∃ m, m = t.len (k : Int) := ⟨_, rfl⟩
  have e1 : putP n t x k = { tieP (tieP t x b) q x with P := up t.P x k, len := up t.len k (m + 1) } := by unfold putP; rw [hb, hqI, hm]
  rw [e1]
  rw [← hm] at hl0 hl1
  have HM := hid2 hm
  have HE := hid2 KE
  have H1 := hid2 K1
  have H2 := hid2 K2
  clear KE K1 K2 o hq hqI e1 hb hm
  go_enter Tryz.func66, Tryz.ntmps66
  go_wp2_with fail
  refine (show Calls _ _ _ _ _ from HE.out).mono ?_
  rintro e w1 ⟨rfl, hw⟩
  cases hw
  go_wp2_with fail
  refine (show Calls _ _ _ _ _ from H1.out).mono ?_
  rintro e w1 ⟨rfl, o1, f1⟩
  have O1 := hid2 o1
  have F1 := hid2 f1
  clear o1 f1 c3 c5 b1 b2 b3
  go_wp2_with fail
  refine (show Calls _ _ _ _ _ from H2.out _ O1.out).mono ?_
  rintro e w2 ⟨rfl, o2, f2⟩
  have F2 := hid2 (F1.out.trans f2)
  have O3 := hid2 (o2.setP hxN (k : Int))
  have F3 := hid2 (F2.out.setH (x * 4 + 2) (.int .i64 (k : Int)))
  obtain ⟨⟨b1, b2, b3⟩, _, _, c3, c4, _, _, fr, fl⟩ := o2.cells
  obtain ⟨_, _, c5, _⟩ := o2.link hxN
  clear o2 f2 F1 O1 H1 H2 HE
  go_upto_region 4 with fail
  obtain ⟨w3, hw3⟩ : ∃ w3, w3 = w2.setCell ⟨h, x * 4 + 2, none⟩ (.int .i64 (k : Int)) := ⟨_, rfl⟩
  rw [← hw3] at O3 F3 ⊢
  clear hw3 b1 b2 b3 c3 c4 c5 fr fl F2
  obtain ⟨⟨b1, b2, b3⟩, _, _, c3, c4, _, _, fr, fl⟩ := O3.out.cells
  have c5 := O3.out.count hk
  have O4 := hid2 (O3.out.setLen hk (m + 1))
  have F4 := hid2 (F3.out.setL k (.int .i64 (m + 1)))
  have hm : ({ tieP (tieP t x b) q x with P := up (tieP (tieP t x b) q x).P x k } : St).len k = t.len k := rfl
  rw [hm, ← HM.out] at c5
  clear O3 F3 hm
  go_wp2
  go_end0
  exact ⟨rfl, O4.out, F4.out⟩

theorem use_ob {w : World} {g h l K n N : Nat} {t : St} (o : Ob w g h l K n N t) {x k b : Nat} (hx : x < n) (hk : k < K + 1) (hb : t.B ((n : Int) + (k : Int)) = (b : Int)) (hbN : b < N) (hl0 : 0 ≤ t.len k) (hl1 : t.len k ≤ 800) (hu0 : 0 ≤ t.uses) (hu1 : t.uses ≤ 1000) :
    Calls Tryz.prog 88 #[.pointer (some ⟨g, 0, none⟩), .int .i64 (x : Int), .int .i64 (k : Int)] w fun e w' => e = .returned (.tuple #[]) ∧ Ob w' g h l K n N (useP n t x k) ∧ Off g h l w w' := by
  have hxN : x < N := by have := o.eN; omega
  have hN2 : N ≤ 800 := by have := o.eN; have := o.K64; have := o.n40; omega
  have K1 := put_ob o hx hk hb hbN hl0 hl1
  obtain ⟨u, hu⟩ : ∃ u, u = t.uses := ⟨_, rfl⟩
  have e1 : useP n t x k = { putP n t x k with uses := u + 1, S := up t.S x (u + 1) } := by unfold useP; rw [hu]
  rw [e1]
  rw [← hu] at hu0 hu1
  have HU := hid2 hu
  have HS : Hid ((putP n t x k).S = t.S) := rfl
  have H1 := hid2 K1
  clear K1 o hu e1 hb hl0 hl1
  go_enter Tryz.func88, Tryz.ntmps88
  go_wp2_with fail
  refine (show Calls _ _ _ _ _ from H1.out).mono ?_
  rintro e w1 ⟨rfl, o1, f1⟩
  have O2 := hid2 (o1.setUses (u + 1))
  have F2 := hid2 (f1.setG 4 (.int .i64 (u + 1)))
  obtain ⟨⟨b1, b2, b3⟩, _, _, _, _, c4, fr, _, _⟩ := o1.cells
  have hm : (putP n t x k).uses = t.uses := rfl
  rw [hm, ← HU.out] at c4
  clear o1 f1 H1 hm
  go_upto_region 2 with fail
  obtain ⟨w3, hw3⟩ : ∃ w3, w3 = w1.setCell ⟨g, 4, none⟩ (.int .i64 (u + 1)) := ⟨_, rfl⟩
  rw [← hw3] at O2 F2 ⊢
  clear hw3 b1 b2 b3 c4 fr
  obtain ⟨⟨b1, b2, b3⟩, _, _, c3, _, c4, _, fr, _⟩ := O2.out.cells
  obtain ⟨_, _, _, c5⟩ := O2.out.link hxN
  have O4 := hid2 (O2.out.setS hxN (u + 1))
  have F4 := hid2 (F2.out.setH (x * 4 + 3) (.int .i64 (u + 1)))
  clear O2 F2
  go_region
  go_wp2
  go_end0
  rw [HS.out] at O4
  exact ⟨rfl, O4.out.below (drew_below _ 1 _), F4.out.drew⟩

theorem take_ob {w : World} {g h l K n N : Nat} {t : St} (o : Ob w g h l K n N t) {x k a b : Nat} (hx : x < n) (hk : k < K + 1) (ha : t.A (x : Int) = (a : Int)) (haN : a < N) (hb : t.B (x : Int) = (b : Int)) (hbN : b < N) (hp : t.P (x : Int) = (k : Int)) (hl0 : 0 ≤ t.len k) (hl1 : t.len k ≤ 800) :
    Calls Tryz.prog 87 #[.pointer (some ⟨g, 0, none⟩), .int .i64 (x : Int)] w fun e w' => e = .returned (.tuple #[]) ∧ Ob w' g h l K n N (takeP t x) ∧ Off g h l w w' := by
  have hxN : x < N := by have := o.eN; omega
  have hN2 : N ≤ 800 := by have := o.eN; have := o.K64; have := o.n40; omega
  have hK64 := o.K64
  obtain ⟨c0, c1, c2, c5⟩ := o.link hxN
  rw [ha] at c0
  rw [hb] at c1
  rw [hp] at c2
  obtain ⟨⟨b1, b2, b3⟩, _, _, c3, _⟩ := o.cells
  obtain ⟨m, hm⟩ : ∃ m, m = t.len (k : Int) := ⟨_, rfl⟩
  have e1 : takeP t x = { tieP t a b with len := up t.len k (m - 1) } := by unfold takeP; rw [ha, hb, hp, hm]
  rw [e1]
  rw [← hm] at hl0 hl1
  generalize hs : t.S (x : Int) = s at *
  obtain ⟨W, hW⟩ : ∃ W, W = w.alloc (.cells #[.int .i64 (a : Int), .int .i64 (b : Int), .int .i64 (k : Int), .int .i64 s] 117) := ⟨_, rfl⟩
  have HM := hid2 hm
  have HO := hid2 o
  clear o e1 ha hb hp hm
  have KT := hid2 (fun W (z : Ob W g h l K n N t) => tie_ob z haN hbN)
  have hA : Below w.heap.size w W := by rw [hW]; go_grown
  have hZ := heap_alloc_new w (.cells #[.int .i64 (a : Int), .int .i64 (b : Int), .int .i64 (k : Int), .int .i64 s] 117)
  rw [← hW] at hZ
  obtain ⟨G, hG⟩ : ∃ G, G = w.heap.size := ⟨_, rfl⟩
  rw [← hG] at hZ
  have HA := hid2 hA
  have HZ := hid2 hZ
  have HW := hid2 hW
  have HG := hid2 hG
  have HB : Hid (g < G ∧ h < G ∧ l < G) := by rw [hG]; exact ⟨b1, b2, b3⟩
  clear hA hZ hW hG
  go_enter Tryz.func87, Tryz.ntmps87
  go_wp2_with fail
  rw [← HW.out, ← HG.out]
  clear HW c0 c1 c2 c3 b1 b2 b3
  refine (show Calls _ _ _ _ _ from KT.out _ (HO.out.below HA.out)).mono ?_
  rintro e w1 ⟨rfl, o1, f1⟩
  have hz : w1.heap[G]? = some (.cells #[.int .i64 (a : Int), .int .i64 (b : Int), .int .i64 (k : Int), .int .i64 s] 117 (0, 0)) := by
    rw [f1.block G (lt_of_block HZ.out) (by have := HB.out.1; omega) (by have := HB.out.2.1; omega) (by have := HB.out.2.2; omega)]
    exact HZ.out
  have g2 : w1.cell? ⟨G, 2, none⟩ = some (.int .i64 (k : Int)) := by simp [World.cell?, hz]
  have gl := lt_of_block hz
  have O1 := hid2 o1
  have F1 := hid2 ((Off.of (g := g) (h := h) (l := l) HA.out).trans f1)
  obtain ⟨⟨b1, b2, b3⟩, _, _, _, c4, _, _, _, fr⟩ := o1.cells
  have c6 := o1.count hk
  have hm : (tieP t a b).len = t.len := rfl
  rw [hm, ← HM.out] at c6
  have O2 := hid2 (O1.out.setLen hk (m - 1))
  have F2 := hid2 (F1.out.setL k (.int .i64 (m - 1)))
  clear o1 f1 hz hm O1 F1 KT HA HZ
  go_upto_region 2 with fail
  go_region
  go_wp2
  go_end0
  exact ⟨rfl, O2.out.below (drew_below _ 1 _), F2.out.drew⟩
end Go.Proofs.YtkgecpplgjfhiaaGreatDoor.Lis
