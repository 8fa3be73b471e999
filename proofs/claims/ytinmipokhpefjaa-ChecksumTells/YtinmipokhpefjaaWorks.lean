/-
  The example that each law of this layer asks for.
-/
import Derived.Test.YtinmipokhpefjaaRefFits
import Derived.Lib.SlBytesConst
namespace Go.Proofs.Ytinmipokhpefjaa
open Go.RowKit

/-- The example's bytes. -/
def ex9 : List Nat := [49, 50, 51, 52, 53, 54, 55, 56, 57]

theorem ex_sum : sum32 ex9 = 3421780262 := by kernel_rfl
theorem ex_byt : Byt ex9 := by intro x hx; simp [ex9] at hx; omega
theorem three_byt : Byt [1, 2, 3] := by intro x hx; simp at hx; omega
theorem four_byt (n : Nat) : Byt (four n) := by intro x hx; simp [four] at hx; omega
theorem sealL_byt {l : List Nat} (h : Byt l) : Byt (sealL l) := h.append (four_byt _)
theorem fitsB_seal (l : List Nat) : fitsB (sealL l) = true := by
  have e := sealL_length l
  refine fitsB_of (by omega) ?_
  have : (sealL l).take ((sealL l).length - 4) = l := by
    rw [e, Nat.add_sub_cancel]
    unfold sealL
    exact List.take_left
  rw [this]

theorem sl_nine_new (w : World) : SlAt (w.alloc (.cells #[.int .u8 49, .int .u8 50, .int .u8 51, .int .u8 52, .int .u8 53, .int .u8 54, .int .u8 55, .int .u8 56, .int .u8 57] 5 (9, 10))) w.heap.size (.slice (some ⟨w.heap.size, 0, none⟩) 9 9) (U ex9) := by
  refine .inr ⟨_, 9, rfl, by simp [U, ex9], by unfold maxLen; omega, .inr ⟨0, rfl, by simp, fun k u hk => ?_⟩⟩
  rcases k with _ | _ | _ | _ | _ | _ | _ | _ | _ | k
  all_goals (simp [U, ex9] at hk)
  all_goals (subst hk; simp only [World.cell?]; rw [heap_alloc_new]; rfl)

theorem sl_three_new (w : World) : SlAt (w.alloc (.cells #[.int .u8 1, .int .u8 2, .int .u8 3] 5)) w.heap.size (.slice (some ⟨w.heap.size, 0, none⟩) 3 3) (U [1, 2, 3]) := by
  refine .inr ⟨_, 3, rfl, by simp [U], by unfold maxLen; omega, .inr ⟨0, rfl, by simp, fun k u hk => ?_⟩⟩
  rcases k with _ | _ | _ | k
  all_goals (simp [U] at hk)
  all_goals (subst hk; simp)

set_option maxHeartbeats 4000000 in
set_option maxRecDepth 10000 in
theorem works_any (w : World) : Calls Try.prog 7 #[] w fun e w' => e = .returned (.bool true) ∧ Below w.heap.size w w' := by
  have hq := eq25 2 1 0 0 2 1 0 0
  rw [show ((2 : Int) == 2 && (1 : Int) == 1 && (0 : Int) == 0 && (0 : Int) == 0) = true from rfl] at hq
  have kc := fun (w : World) (C : Array Value) (n c : Nat) => Lib.run_convert_bytes_const (P := Try.prog) w 22 5 C n c Try.underlying22 Try.underlying5
  go_enter Try.func7, Try.ntmps7
  go_wp2_with fail
  refine (seal_any (sl_nine_new w) ex_byt (by decide)).mono ?_
  rintro e w1 ⟨s1, rfl, hown1, hb1⟩
  obtain ⟨b1, hb11, hs1⟩ := own_sl hown1
  have hB1 : Below w.heap.size w w1 := ((Below.refl _ _).alloc (Nat.le_refl _) _).trans (hb1.mono (by simp))
  obtain ⟨p1, c1, e1, _, _⟩ := hs1.form
  rw [show (U (sealL ex9)).length = 13 from rfl] at e1
  subst e1
  clear hown1 hb1 hb11
  go_wp2_with fail
  refine (sum_any (sl_nine_new w1) ex_byt).mono ?_
  rw [ex_sum]
  rintro e w2 ⟨rfl, hw⟩
  have hw := hw.symm
  subst hw
  go_wp2_with fail
  refine (fits_any (l := sealL ex9) (b := b1) (hs1.keeps (by simp) (fun hlt => Below.heap_alloc _ _ _ hlt)) (sealL_byt ex_byt)).mono ?_
  rw [fitsB_seal]
  rintro e w3 ⟨rfl, hb3⟩
  have hB3 : Below w.heap.size w w3 := (hB1.alloc hB1.size _).trans (hb3.mono (by simp; have := hB1.size; omega))
  go_wp2_with fail
  refine (fits_any (sl_three_new w3) three_byt).mono ?_
  rw [show fitsB [1, 2, 3] = false from rfl]
  rintro e w4 ⟨rfl, hb4⟩
  have hB4 : Below w.heap.size w w4 := (hB3.alloc hB3.size _).trans (hb4.mono (by simp; have := hB3.size; omega))
  go_wp2_with fail
  refine (four_any _ 258 2 1 0 0 (by decide) rfl).mono ?_
  rintro e w5 ⟨rfl, hb5⟩
  go_wp2
  go_ret
  exact ⟨rfl, hB4.trans (hb5.mono hB4.size)⟩
end Go.Proofs.Ytinmipokhpefjaa
