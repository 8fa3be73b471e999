/-
  Bytes and Word of the program.
-/
import Derived.Test.YtibjhjojohjokaaDoorPut
namespace Go.Proofs.YtibjhjojohjokaaDoor
open Go.RowKit

set_option maxHeartbeats 1000000 in
set_option maxRecDepth 10000 in
theorem bytes_any {w : World} {b c : Nat} {v u : Value} {bs ts : List Int} (h : SlAt w b v (U bs)) (hc : SlAt w c u (U ts)) (hl : ts.length ≤ 5000) (hb : bs.length ≤ 20000) :
    Calls Tryd.prog 54 #[v, u] w fun e w' => ∃ sv, e = .returned sv ∧ w'.ownsRow w.heap.size 5 1 sv (bs.length + lenN ts.length + ts.length) (U (bs ++ dg ts.length (lenN ts.length) ++ ts)) ∧ Below w.heap.size w w' := by
  obtain ⟨p, cap, hu, hc1, hc2⟩ := hc.form
  rw [U_length] at hu hc1
  unfold maxLen at hc2
  subst hu
  have h9 := lenN_bd ts.length
  go_enter Tryd.func54, Tryd.ntmps54
  go_wp2_with (first
    | (go_at_call 41; refine (len_any ts.length _ (by omega)).mono ?_; rintro e w' ⟨rfl, hw⟩; have hw := hw.symm; subst hw)
    | (go_at_call 46; refine (room_any (lenN ts.length + ts.length) h (by omega)).mono ?_; rintro e w1 ⟨sv, rfl, hown, hb1⟩)
    | (go_at_call 61; refine (putnum_any ts.length (by omega) (by omega) hown hb1.size (by omega)).mono ?_; rintro e w2 ⟨sv2, rfl, hown2, hb2⟩)
    | (at_builtin; refine wpList_append_sl _ rfl _ _ rfl w.heap.size _ _ _ rfl hown2 c _ ts rfl (hc.stays (hb1.trans hb2)) (by omega) (Nat.le_trans hb1.size hb2.size) ?_; intro v3 w3 hown3 hgrow3))
  go_ret
  rw [← U_append, ← U_append] at hown3
  exact ⟨_, rfl, hown3, (hb1.trans hb2).grown hgrow3 (Nat.le_trans hb1.size hb2.size) (fun k hk => (hown2.lt k hk).1)⟩




end Go.Proofs.YtibjhjojohjokaaDoor
