/-
  The walks of the laws SlabClasses and SlabClose.
-/
import Derived.Test.YtjlpkjgdpbjpcaaDoorWorks
namespace Go.Proofs.YtjlpkjgdpbjpcaaDoor
open Go.RowKit

set_option maxHeartbeats 1000000 in
theorem classes_any {w : World} (hE : ErrT w) (c n : Int) : Calls Tryd.prog 3 #[.int .i64 c, .int .i64 n] w fun e w' => e = .returned (.bool true) ∧ Below w.heap.size w w' := by
  have K1 := hid2 (fun W => size_any W c)
  have K2 := hid2 (fun W => rsize_any W c)
  have K3 := hid2 (fun W => class_any W n)
  have K4 := hid2 (fun W => rclass_any W n)
  have KW := hid2 (works_any hE)
  generalize sz c = s at *
  generalize cls n = k at *
  clear hE
  go_enter Tryd.func3, Tryd.ntmps3
  go_wp2_with fail
  refine (show Calls _ _ _ _ _ from K1.out _).mono ?_
  rintro e wx ⟨rfl, hw⟩
  cases hw
  go_wp2_with fail
  refine (show Calls _ _ _ _ _ from K2.out _).mono ?_
  rintro e wx ⟨rfl, hw⟩
  cases hw
  go_wp2_with fail
  refine (show Calls _ _ _ _ _ from K3.out _).mono ?_
  rintro e wx ⟨rfl, hw⟩
  cases hw
  go_wp2_with fail
  refine (show Calls _ _ _ _ _ from K4.out _).mono ?_
  rintro e wx ⟨rfl, hw⟩
  cases hw
  go_wp2_with fail
  refine (show Calls _ _ _ _ _ from KW.out).mono ?_
  rintro e w1 ⟨rfl, hb⟩
  go_wp2
  go_ret
  exact ⟨rfl, hb⟩

set_option maxHeartbeats 1000000 in
theorem close_any {w : World} (hE : ErrT w) (n : Int) : Calls Tryd.prog 6 #[.int .i64 n] w fun e w' => e = .returned (.bool true) ∧ Below w.heap.size w w' := by
  have K1 := hid2 (fun W => class_any W n)
  have KW := hid2 (works_any hE)
  clear hE
  by_cases hn : n < 0 ∨ 8192 < n
  · rw [cls_out hn] at K1
    go_enter Tryd.func6, Tryd.ntmps6
    go_wp2_with (first | (go_at_call 9; refine (show Calls _ _ _ _ _ from K1.out _).mono ?_; rintro e wx ⟨rfl, hw⟩; cases hw) | (go_at_call 11; refine (show Calls _ _ _ _ _ from KW.out).mono ?_; rintro e w1 ⟨rfl, hb⟩))
    all_goals first | (go_ret; exact ⟨rfl, hb⟩) | (exfalso; omega)
  · have h1 := cls_in (n := n) (by omega) (by omega)
    have h2 := cls_room (n := n) (by omega) (by omega)
    have h3 := cls_close (n := n) (by omega) (by omega)
    have K2 := hid2 (fun W => size_any W (cls n))
    have K3 := hid2 (fun W => size_any W (cls n - 1))
    generalize sz (cls n) = s at *
    generalize sz (cls n - 1) = s2 at *
    generalize cls n = c at *
    have hn0 : ¬ n < 0 := by omega
    have hn1 : ¬ 8192 < n := by omega
    have hc0 : ¬ c < 0 := by omega
    have hs0 : ¬ s < n := by omega
    clear hn h2
    by_cases hc : c = 0
    · subst hc
      clear h3
      go_enter Tryd.func6, Tryd.ntmps6
      go_wp2_with fail
      refine (show Calls _ _ _ _ _ from K1.out _).mono ?_
      rintro e wx ⟨rfl, hw⟩
      cases hw
      go_wp2_with fail
      refine (show Calls _ _ _ _ _ from K2.out _).mono ?_
      rintro e wx ⟨rfl, hw⟩
      cases hw
      go_wp2_with fail
      refine (show Calls _ _ _ _ _ from KW.out).mono ?_
      rintro e w1 ⟨rfl, hb⟩
      go_wp2
      go_ret
      exact ⟨rfl, hb⟩
    · obtain ⟨h4, h5⟩ := h3.resolve_left hc
      clear h3
      go_enter Tryd.func6, Tryd.ntmps6
      go_wp2_with fail
      refine (show Calls _ _ _ _ _ from K1.out _).mono ?_
      rintro e wx ⟨rfl, hw⟩
      cases hw
      go_wp2_with fail
      refine (show Calls _ _ _ _ _ from K2.out _).mono ?_
      rintro e wx ⟨rfl, hw⟩
      cases hw
      go_wp2_with fail
      refine (show Calls _ _ _ _ _ from K3.out _).mono ?_
      rintro e wx ⟨rfl, hw⟩
      cases hw
      go_wp2_with fail
      refine (show Calls _ _ _ _ _ from K2.out _).mono ?_
      rintro e wx ⟨rfl, hw⟩
      cases hw
      go_wp2_with fail
      refine (show Calls _ _ _ _ _ from KW.out).mono ?_
      rintro e w1 ⟨rfl, hb⟩
      go_wp2
      go_ret
      exact ⟨rfl, hb⟩
end Go.Proofs.YtjlpkjgdpbjpcaaDoor
