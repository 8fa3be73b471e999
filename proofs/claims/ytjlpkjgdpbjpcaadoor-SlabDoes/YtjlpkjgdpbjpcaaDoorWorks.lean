/-
  The fixed example; the walks of SlabClasses and SlabClose.
-/
import Derived.Test.YtjlpkjgdpbjpcaaDoorMany
namespace Go.Proofs.YtjlpkjgdpbjpcaaDoor
open Go.RowKit

theorem BudOk.new {lim : Int} (h1 : 1 ≤ lim) (h2 : lim ≤ 1099511627776) : BudOk lim [] := ⟨h1, h2, (fun _ h => nomatch h), (by rw [used_nil]; omega)⟩
/-- An error stays where a budget is written. -/
theorem Fault1.other {w w' : World} {g : Nat} {lim : Int} {l : List Int} {v : Value} {code : Int} (h : Fault1 w v code) (hg : Bg w g lim l) (hr : w.grownBy w' (some g)) : Fault1 w' v code := by
  rcases h with h | ⟨h1, op, a, p, h2, h3⟩
  · exact .inl h
  · rcases h2.inv with ⟨_, h⟩ | ⟨b, op', a', c', u, rest, e1, e2, e3, e4⟩
    · cases h
    · simp only [List.cons.injEq, Prod.mk.injEq] at e2
      obtain ⟨⟨rfl, rfl, rfl⟩, rfl⟩ := e2
      rcases e4.inv with ⟨rfl, _⟩ | ⟨_, _, _, _, _, _, _, h, _⟩
      · subst e1
        have hne : b ≠ g := by
          rintro rfl
          unfold Bg at hg
          rw [e3] at hg
          simp at hg
        refine .inr ⟨h1, op, a, p, Lk.cons b op a code .nilIface [] ?_ (Lk.nil _), h3⟩
        rw [hr.block b (lt_of_block e3) (by simpa using hne)]
        exact e3
      · cases h

set_option maxHeartbeats 2000000 in
set_option maxRecDepth 10000 in
/-- The fixed example. -/
theorem works_any {w : World} (hE : ErrT w) : Calls Tryd.prog 11 #[] w fun e w' => e = .returned (.bool true) ∧ Below w.heap.size w w' := by
  have HE := hid2 hE
  obtain ⟨g, hg⟩ : ∃ g, g = w.heap.size := ⟨_, rfl⟩
  have KN := new_good w 100 (by omega) (by omega)
  rw [← hg] at KN
  have KN2 := hid2 KN
  have HW : Hid (g = w.heap.size) := hg
  have o0 : BudOk 100 [] := BudOk.new (by omega) (by omega)
  have KT1 := fun W (k : Bg W g 100 []) => take_bg k o0 1
  have e1 : takeP 100 [] 1 = ([1], 0) := by decide
  rw [e1] at KT1
  have o1 : BudOk 100 [1] := by have := o0.take 1; rw [e1] at this; exact this
  have KT2 := fun W (k : Bg W g 100 [1]) => take_bg k o1 1
  have e2 : takeP 100 [1] 1 = ([1], 4) := by decide
  rw [e2] at KT2
  have KU := fun W (k : Bg W g 100 [1]) => used_bg k
  have KL := fun W (k : Bg W g 100 [1]) => left_bg k o1
  rw [show used [1] = 64 by decide] at KU KL
  rw [show (100 : Int) - 64 = 36 by decide] at KL
  have KF1 := fun W (k : Bg W g 100 [1]) => fits_bg k 64
  have KF2 := fun W (k : Bg W g 100 [1]) => fits_bg k 65
  rw [show fitsP 100 64 = true by decide] at KF1
  rw [show fitsP 100 65 = false by decide] at KF2
  have KC := fun W (k : Bg W g 100 [1]) => count_bg k o1.2.2.1 1
  rw [show ((cnt [1] 1 : Nat) : Int) = 1 by decide] at KC
  have C1 := fun W => class_any W 33
  have C2 := fun W => class_any W 8193
  have C3 := fun W => size_any W 8
  rw [show cls 33 = 1 by decide] at C1
  rw [show cls 8193 = -1 by decide] at C2
  rw [show sz 8 = 8192 by decide] at C3
  have HT1 := hid2 KT1
  have HT2 := hid2 KT2
  have HU := hid2 KU
  have HL := hid2 KL
  have HF1 := hid2 KF1
  have HF2 := hid2 KF2
  have HC := hid2 KC
  have HC1 := hid2 C1
  have HC2 := hid2 C2
  have HC3 := hid2 C3
  clear hE hg KN KT1 KT2 e1 e2 o0 o1 KU KL KF1 KF2 KC C1 C2 C3
  go_enter Tryd.func11, Tryd.ntmps11
  go_wp2_with fail
  refine (show Calls _ _ _ _ _ from KN2.out).mono ?_
  rintro e w1 ⟨rfl, g1, b1⟩
  have G1 := hid2 g1
  have B1 : Hid (Below w.heap.size w w1) := by show Below _ _ _; rw [← HW.out]; exact b1
  clear g1 b1
  go_wp2_with fail
  refine (new_bad _ 0 (by omega)).mono ?_
  rintro e w2 ⟨v, rfl, f2, b2⟩
  have F2 := hid2 f2
  have G2 := hid2 (G1.out.stays b2)
  have B2 := hid2 (B1.out.trans (b2.mono B1.out.size))
  clear f2 b2
  go_wp2_with fail
  refine (show Calls _ _ _ _ _ from HT1.out _ G2.out).mono ?_
  rintro e w3 ⟨v3, rfl, f3, g3, r3⟩
  obtain rfl := f3.fault.none
  have G3 := hid2 g3
  have B3 : Hid (Below w.heap.size w w3) := B2.out.grown r3 B2.out.size (fun k hk => by cases hk; exact Nat.le_of_eq HW.out.symm)
  have F3 := hid2 (F2.out.other G2.out r3)
  clear f3 g3 r3
  go_wp2_with fail
  refine (show Calls _ _ _ _ _ from HT2.out _ G3.out).mono ?_
  rintro e w4 ⟨v4, rfl, f4, g4, r4⟩
  have G4 := hid2 g4
  have B4 : Hid (Below w.heap.size w w4) := B3.out.grown r4 B3.out.size (fun k hk => by cases hk; exact Nat.le_of_eq HW.out.symm)
  have F4 := hid2 (F3.out.other G3.out r4)
  have V4 := hid2 f4
  clear f4 g4 r4
  go_wp2_with fail
  refine (show Calls _ _ _ _ _ from of_code (HE.out.below B4.out) F4.out.fault).mono ?_
  rintro e w5 ⟨rfl, b5⟩
  have G5 := hid2 (G4.out.stays b5)
  have B5 := hid2 (B4.out.trans (b5.mono B4.out.size))
  have V5 := hid2 (V4.out.below b5)
  clear b5
  go_wp2_with fail
  refine (show Calls _ _ _ _ _ from of_code (HE.out.below B5.out) V5.out.fault).mono ?_
  rintro e w6 ⟨rfl, b6⟩
  have G6 := hid2 (G5.out.stays b6)
  have B6 := hid2 (B5.out.trans (b6.mono B5.out.size))
  clear b6
  go_wp2_with fail
  refine (show Calls _ _ _ _ _ from HU.out _ G6.out).mono ?_
  rintro e wx ⟨rfl, hw⟩
  cases hw
  go_wp2_with fail
  refine (show Calls _ _ _ _ _ from HL.out _ G6.out).mono ?_
  rintro e w7 ⟨rfl, b7⟩
  have G7 := hid2 (G6.out.stays b7)
  have B7 := hid2 (B6.out.trans (b7.mono B6.out.size))
  clear b7
  go_wp2_with fail
  refine (show Calls _ _ _ _ _ from HC1.out _).mono ?_
  rintro e wx ⟨rfl, hw⟩
  cases hw
  go_wp2_with fail
  refine (show Calls _ _ _ _ _ from HC3.out _).mono ?_
  rintro e wx ⟨rfl, hw⟩
  cases hw
  go_wp2_with fail
  refine (show Calls _ _ _ _ _ from HC2.out _).mono ?_
  rintro e wx ⟨rfl, hw⟩
  cases hw
  go_wp2_with fail
  refine (show Calls _ _ _ _ _ from HF1.out _ G7.out).mono ?_
  rintro e w8 ⟨rfl, b8⟩
  have G8 := hid2 (G7.out.stays b8)
  have B8 := hid2 (B7.out.trans (b8.mono B7.out.size))
  clear b8
  go_wp2_with fail
  refine (show Calls _ _ _ _ _ from HF2.out _ G8.out).mono ?_
  rintro e w9 ⟨rfl, b9⟩
  have G9 := hid2 (G8.out.stays b9)
  have B9 := hid2 (B8.out.trans (b9.mono B8.out.size))
  clear b9
  go_wp2_with fail
  refine (show Calls _ _ _ _ _ from HC.out _ G9.out).mono ?_
  rintro e wx ⟨rfl, hw⟩
  cases hw
  go_wp2_with fail
  go_ret
  exact ⟨rfl, B9.out⟩
end Go.Proofs.YtjlpkjgdpbjpcaaDoor
