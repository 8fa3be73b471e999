/-
  roomBehind and putNumber of the program.
-/
import Derived.Test.YtibjhjojohjokaaDoorLen
namespace Go.Proofs.YtibjhjojohjokaaDoor
open Go.RowKit

set_option maxHeartbeats 1000000 in
set_option maxRecDepth 10000 in
theorem room_any {w : World} {b : Nat} {v : Value} {bs : List Int} (k : Nat) (h : SlAt w b v (U bs)) (hb : bs.length + k ≤ 30000) :
    Calls Tryd.prog 46 #[v, .int .i64 k] w fun e w' => ∃ sv, e = .returned sv ∧ w'.ownsRow w.heap.size 5 1 sv bs.length (U bs) ∧ Below w.heap.size w w' := by
  obtain ⟨i0, hi, hz0, hz1, hz2⟩ := Tryd.info5
  obtain ⟨p, cap, hv, h1, h2⟩ := h.form
  rw [U_length] at hv h1
  unfold maxLen at h2
  subst hv
  have hsl := h
  go_enter Tryd.func46, Tryd.ntmps46
  go_wp2_with (first
    | (at_make; refine wpList_make_own _ rfl _ _ 22 rfl w.heap.size 5 i0 (.int .u8 0) 1 Tryd.underlying22 hi hz0 hz1 .i64 .i64 _ (bs.length + k) rfl rfl (by omega) (by rw [hz2]; omega) (by unfold maxLen; omega) (Nat.le_refl _) ?_; intro w0 hown0 hgrow0)
    | (at_builtin; refine wpList_append_sl _ rfl _ _ rfl w.heap.size _ 0 [] rfl hown0 b _ bs rfl (hsl.keeps hgrow0.size (fun hlt => hgrow0.block b hlt (by simp))) (by omega) hgrow0.size ?_; intro v1 w1 hown1 hgrow1))
  go_ret
  rw [Nat.zero_add, List.nil_append] at hown1
  exact ⟨_, rfl, hown1, ((Below.refl _ _).grown hgrow0 (Nat.le_refl _) (by simp)).grown hgrow1 hgrow0.size (fun k hk => (hown0.lt k hk).1)⟩
end Go.Proofs.YtibjhjojohjokaaDoor
