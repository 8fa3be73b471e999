/-
  The walk of the law SlabBounds.
-/
import Derived.Test.YtjlpkjgdpbjpcaaDoorActs
namespace Go.Proofs.YtjlpkjgdpbjpcaaDoor
open Go.RowKit

set_option maxHeartbeats 4000000 in
set_option maxRecDepth 10000 in
theorem bounds_any {w : World} {v : Value} {os : List Act8} (hs : ActsAt w v os) (hE : ErrT w) (lim : Int) : Calls Tryd.prog 5 #[.int .i64 lim, v] w fun e w' => e = .returned (.bool true) ∧ Below w.heap.size w w' := by
  obtain ⟨p, cap, rfl, hc1, hc2, hel⟩ := hs
  unfold maxLen at hc2
  have HEL := hid2 hel
  have HE := hid2 hE
  have KW := hid2 (works_any hE)
  clear hel hE
  by_cases hg : 60 < os.length ∨ lim < 1 ∨ 1099511627776 < lim
  · have hg2 : 60 < (os.length : Int) ∨ lim < 1 ∨ 1099511627776 < lim := by omega
    clear hg
    go_enter Tryd.func5, Tryd.ntmps5
    go_wp2_with (go_at_call 11; refine (show Calls _ _ _ _ _ from KW.out).mono ?_; rintro e w1 ⟨rfl, hb⟩)
    all_goals first | (go_ret; exact ⟨rfl, hb⟩) | (exfalso; omega)
  · have h60 : os.length ≤ 60 := by omega
    have hl1 : 1 ≤ lim := by omega
    have hl2 : lim ≤ 1099511627776 := by omega
    have hg0 : ¬ 60 < (os.length : Int) := by omega
    have hg1 : ¬ lim < 1 := by omega
    have hg2 : ¬ 1099511627776 < lim := by omega
    obtain ⟨g, hgw⟩ : ∃ g, g = w.heap.size := ⟨_, rfl⟩
    have KN := new_good w lim hl1 hl2
    rw [← hgw] at KN
    have HN := hid2 KN
    have HW : Hid (g = w.heap.size) := hgw
    clear hg KN hgw
    go_enter Tryd.func5, Tryd.ntmps5
    go_wp2_with fail
    refine (show Calls _ _ _ _ _ from HN.out).mono ?_
    rintro e w1 ⟨rfl, g1, b1⟩
    have G1 := hid2 g1
    have B1 : Hid (Below w.heap.size w w1) := by show Below _ _ _; rw [← HW.out]; exact b1
    clear g1 b1 HN
    go_wp2_with fail
    go_loopg [7] os.length (fun gk i wr => ∃ (k : Nat) (l : List Int), k ≤ os.length ∧ gk = os.length - k ∧ i = .int .i64 (k : Int) ∧ Bg wr g lim l ∧ BudOk lim l ∧ Below w.heap.size w wr)
    case atStart => exact ⟨0, [], Nat.zero_le _, rfl, rfl, G1.out, BudOk.new hl1 hl2, B1.out⟩
    case round =>
      clear G1 B1 w1
      obtain ⟨k, l, hk, hgk, rfl, h1, h2, h3⟩ := hrel
      have HG := hid2 hgk
      have H1 := hid2 h1
      have H2 := hid2 h2
      have H3 := hid2 h3
      clear hgk h1 h2 h3
      by_cases hlt : k < os.length
      · obtain ⟨o, ho⟩ : ∃ o, os[k]? = some o := ⟨os[k], List.getElem?_eq_getElem hlt⟩
        obtain ⟨b, off, rfl, q0, q1, q2, _, _, _, _⟩ := HEL.out k o ho
        have c1 := (H3.out.cell (p := ⟨b, off + k * 3, none⟩) q0).trans q1
        have c2 := (H3.out.cell (p := ⟨b, off + k * 3 + 1, none⟩) q0).trans q2
        have c3 : b < wr.heap.size := Nat.lt_of_lt_of_le q0 H3.out.size
        obtain ⟨kd, cl, nn⟩ := o
        simp only at c1 c2
        clear q0 q1 q2 ho
        by_cases hkd : kd = 0
        · subst hkd
          go_wp2_with fail
          refine (show Calls _ _ _ _ _ from take_bg H1.out H2.out cl).mono ?_
          rintro e w3 ⟨v3, rfl, f3, g3, r3⟩
          have B3 : Hid (Below w.heap.size w w3) := H3.out.grown r3 H3.out.size (fun j hj => by cases hj; exact Nat.le_of_eq HW.out.symm)
          have O3 := H2.out.take cl
          generalize (takeP lim l cl).1 = l3 at *
          have G3 := hid2 g3
          have hcls := hid2 O3.2.2.1
          have hul := O3.2.2.2
          have hun := used_nonneg l3
          have HO3 := hid2 O3
          have KU := hid2 (used_bg g3)
          have PA := hid2 (psum_all O3.2.2.1)
          have PN : Hid (∀ c, 0 ≤ psum l3 c) := psum_nonneg l3
          have PL : Hid (∀ c, c ≤ 9 → psum l3 c ≤ used l3) := fun c hc => psum_le hcls.out hc
          have KC : Hid (∀ c : Int, Calls Tryd.prog 26 #[.pointer (some ⟨g, 0, none⟩), .int .i64 c] w3 fun e w' => e = .returned (.int .i64 (cnt l3 c : Int)) ∧ w' = w3) := fun c => count_bg g3 hcls.out c
          generalize used l3 = u at *
          clear f3 g3 r3 O3 c1 c2 c3 H1 H2 H3
          go_wp2_with fail
          go_loopg [8, 9] 9 (fun gc s c wi => ∃ j : Nat, j ≤ 9 ∧ gc = 9 - j ∧ c = .int .i64 (j : Int) ∧ s = .int .i64 (psum l3 j) ∧ wi = w3)
          case atStart => exact ⟨0, by omega, rfl, rfl, rfl, rfl⟩
          case round =>
            obtain ⟨j, hj, hgj, rfl, rfl, rfl⟩ := hrel
            have HGJ := hid2 hgj
            clear hgj
            by_cases hj9 : j < 9
            · have KC1 := hid2 (KC.out (j : Int))
              have KS1 := hid2 (fun W => size_any W (j : Int))
              have s1 := PN.out j
              have s2 := PL.out j (by omega)
              have s3 := PL.out (j + 1) (by omega)
              have s4 := prod_nonneg l3 (j : Int)
              have HS := hid2 (psum_succ l3 j)
              rw [HS.out] at s3
              generalize psum l3 j = t at *
              generalize sz (j : Int) = s at *
              generalize cnt l3 (j : Int) = m at *
              obtain ⟨q, hq⟩ : ∃ q, (m : Int) * s = q := ⟨_, rfl⟩
              have e1 : IntKind.i64.wrap ((m : Int) * s) = q := by rw [hq, IntKind.wrap_i64]; omega
              have e2 : IntKind.i64.wrap (t + q) = t + q := by rw [IntKind.wrap_i64]; omega
              have HQ := hid2 hq
              rw [hq] at s3 s4
              clear hq
              go_wp2_with fail
              refine (show Calls _ _ _ _ _ from KC1.out).mono ?_
              rintro e wx ⟨rfl, hw⟩
              cases hw
              go_wp2_with fail
              refine (show Calls _ _ _ _ _ from KC1.out).mono ?_
              rintro e wx ⟨rfl, hw⟩
              cases hw
              go_wp2_with fail
              refine (show Calls _ _ _ _ _ from KS1.out _).mono ?_
              rintro e wx ⟨rfl, hw⟩
              cases hw
              go_wp2
              go_roundg (9 - (j + 1))
              case measure => rw [HGJ.out]; omega
              case rel => exact ⟨j + 1, by omega, rfl, by go_num, by rw [HS.out, HQ.out], rfl⟩
            · obtain rfl : j = 9 := by omega
              rw [PA.out]
              have hu2 : ¬ u < 0 := by omega
              have hu3 : ¬ lim < u := by omega
              go_wp2_with fail
              refine (show Calls _ _ _ _ _ from KU.out).mono ?_
              rintro e wx ⟨rfl, hw⟩
              cases hw
              go_wp2
              go_roundg (os.length - (k + 1))
              case measure => rw [HG.out]; omega
              case rel => exact ⟨k + 1, l3, by omega, rfl, by go_num, G3.out, HO3.out, B3.out⟩
        · go_wp2_with fail
          refine (show Calls _ _ _ _ _ from give_bg H1.out H2.out cl).mono ?_
          rintro e w3 ⟨v3, rfl, f3, g3, r3⟩
          have B3 : Hid (Below w.heap.size w w3) := H3.out.grown r3 H3.out.size (fun j hj => by cases hj; exact Nat.le_of_eq HW.out.symm)
          have O3 := H2.out.give cl
          generalize (giveP l cl).1 = l3 at *
          have G3 := hid2 g3
          have hcls := hid2 O3.2.2.1
          have hul := O3.2.2.2
          have hun := used_nonneg l3
          have HO3 := hid2 O3
          have KU := hid2 (used_bg g3)
          have PA := hid2 (psum_all O3.2.2.1)
          have PN : Hid (∀ c, 0 ≤ psum l3 c) := psum_nonneg l3
          have PL : Hid (∀ c, c ≤ 9 → psum l3 c ≤ used l3) := fun c hc => psum_le hcls.out hc
          have KC : Hid (∀ c : Int, Calls Tryd.prog 26 #[.pointer (some ⟨g, 0, none⟩), .int .i64 c] w3 fun e w' => e = .returned (.int .i64 (cnt l3 c : Int)) ∧ w' = w3) := fun c => count_bg g3 hcls.out c
          generalize used l3 = u at *
          clear f3 g3 r3 O3 c1 c2 c3 H1 H2 H3
          go_wp2_with fail
          go_loopg [8, 9] 9 (fun gc s c wi => ∃ j : Nat, j ≤ 9 ∧ gc = 9 - j ∧ c = .int .i64 (j : Int) ∧ s = .int .i64 (psum l3 j) ∧ wi = w3)
          case atStart => exact ⟨0, by omega, rfl, rfl, rfl, rfl⟩
          case round =>
            obtain ⟨j, hj, hgj, rfl, rfl, rfl⟩ := hrel
            have HGJ := hid2 hgj
            clear hgj
            by_cases hj9 : j < 9
            · have KC1 := hid2 (KC.out (j : Int))
              have KS1 := hid2 (fun W => size_any W (j : Int))
              have s1 := PN.out j
              have s2 := PL.out j (by omega)
              have s3 := PL.out (j + 1) (by omega)
              have s4 := prod_nonneg l3 (j : Int)
              have HS := hid2 (psum_succ l3 j)
              rw [HS.out] at s3
              generalize psum l3 j = t at *
              generalize sz (j : Int) = s at *
              generalize cnt l3 (j : Int) = m at *
              obtain ⟨q, hq⟩ : ∃ q, (m : Int) * s = q := ⟨_, rfl⟩
              have e1 : IntKind.i64.wrap ((m : Int) * s) = q := by rw [hq, IntKind.wrap_i64]; omega
              have e2 : IntKind.i64.wrap (t + q) = t + q := by rw [IntKind.wrap_i64]; omega
              have HQ := hid2 hq
              rw [hq] at s3 s4
              clear hq
              go_wp2_with fail
              refine (show Calls _ _ _ _ _ from KC1.out).mono ?_
              rintro e wx ⟨rfl, hw⟩
              cases hw
              go_wp2_with fail
              refine (show Calls _ _ _ _ _ from KC1.out).mono ?_
              rintro e wx ⟨rfl, hw⟩
              cases hw
              go_wp2_with fail
              refine (show Calls _ _ _ _ _ from KS1.out _).mono ?_
              rintro e wx ⟨rfl, hw⟩
              cases hw
              go_wp2
              go_roundg (9 - (j + 1))
              case measure => rw [HGJ.out]; omega
              case rel => exact ⟨j + 1, by omega, rfl, by go_num, by rw [HS.out, HQ.out], rfl⟩
            · obtain rfl : j = 9 := by omega
              rw [PA.out]
              have hu2 : ¬ u < 0 := by omega
              have hu3 : ¬ lim < u := by omega
              go_wp2_with fail
              refine (show Calls _ _ _ _ _ from KU.out).mono ?_
              rintro e wx ⟨rfl, hw⟩
              cases hw
              go_wp2
              go_roundg (os.length - (k + 1))
              case measure => rw [HG.out]; omega
              case rel => exact ⟨k + 1, l3, by omega, rfl, by go_num, G3.out, HO3.out, B3.out⟩
      · go_wp2_with fail
        refine (works_any (HE.out.below H3.out)).mono ?_
        rintro e w3 ⟨rfl, b3⟩
        go_wp2
        go_ret
        exact ⟨rfl, H3.out.trans (b3.mono H3.out.size)⟩
end Go.Proofs.YtjlpkjgdpbjpcaaDoor
