/-
  The walk of the law ChecksumParts: whatever the two rows of bytes, the call answers true.
-/
import Derived.Test.YtinmipokhpefjaaWorks
namespace Go.Proofs.Ytinmipokhpefjaa
open Go.RowKit

theorem sum_more (a b : List Nat) : moreN (sum32 a) b = sum32 (a ++ b) := by
  unfold moreN
  rw [← reg_more]
  rfl

theorem own_empty_new (w : World) : (w.alloc (.cells #[] 5)).ownsRow w.heap.size 5 1 (.slice (some ⟨w.heap.size, 0, none⟩) 0 0) 0 [] :=
  World.ownsRow_made w #[] 0 (Nat.le_refl _) (by unfold maxLen; omega) rfl

set_option maxHeartbeats 4000000 in
set_option maxRecDepth 10000 in
theorem lawParts_any {w : World} {b c : Nat} {v u : Value} {l m : List Nat} (h : SlAt w b v (U l)) (hby : Byt l) (hm : SlAt w c u (U m)) (hmy : Byt m) :
    Calls Try.prog 4 #[v, u] w fun e w' => e = .returned (.bool true) ∧ Below w.heap.size w w' := by
  obtain ⟨p, cap, hu, hc1, hc2⟩ := h.form
  obtain ⟨p', cap', hu', hc1', hc2'⟩ := hm.form
  rw [U_length] at hu hc1 hu' hc1'
  unfold maxLen at hc2 hc2'
  subst hu hu'
  by_cases hl : l.length ≤ 1000
  · by_cases hl' : m.length ≤ 1000
    · have hSM := sum_more l m
      have hs1 := sum32_lt l
      go_enter Try.func4, Try.ntmps4
      go_wp2_with (first
        | (at_builtin; refine wpList_append_sl _ rfl _ _ rfl w.heap.size (.slice (some ⟨w.heap.size, 0, none⟩) 0 0) 0 [] rfl (own_empty_new w) b _ l rfl (h.keeps (by simp) (fun hlt => Below.heap_alloc _ _ _ hlt)) (by omega) (by simp) ?_; intro v0 w0 hown0 hgrow0; have hB0 : Below w.heap.size w w0 := ((Below.refl _ _).alloc (Nat.le_refl _) _).grown hgrow0 (by simp) (by simp [Value.ownBlock]))
        | (at_builtin; refine wpList_append_sl _ rfl _ _ rfl w.heap.size _ _ _ rfl hown0 c _ m rfl (hm.stays hB0) (by omega) hB0.size ?_; intro v1 w1 hown1 hgrow1; have hB1 : Below w.heap.size w w1 := hB0.grown hgrow1 hB0.size (fun k hk => (hown0.lt k hk).1)))
      rw [List.nil_append, ← U_append] at hown1
      obtain ⟨b1, _, hs⟩ := own_sl hown1
      have hab := hby.append hmy
      refine (sum_any (h.stays hB1) hby).mono ?_
      rintro e w2 ⟨rfl, hw⟩
      have hw := hw.symm
      subst hw
      go_wp2_with fail
      refine (more_any (sum32 l) hs1 (hm.stays hB1) hmy).mono ?_
      rw [hSM]
      rintro e w2 ⟨rfl, hw⟩
      have hw := hw.symm
      subst hw
      go_wp2_with fail
      refine (sum_any hs hab).mono ?_
      rintro e w2 ⟨rfl, hw⟩
      have hw := hw.symm
      subst hw
      go_wp2_with fail
      refine (more_any 0 (by omega) hs hab).mono ?_
      rw [moreN_zero]
      rintro e w2 ⟨rfl, hw⟩
      have hw := hw.symm
      subst hw
      go_wp2_with fail
      refine (rsum_any hs hab).mono ?_
      rintro e w2 ⟨rfl, hw⟩
      have hw := hw.symm
      subst hw
      go_wp2_with fail
      refine (works_any _).mono ?_
      rintro e w8 ⟨rfl, hb8⟩
      go_wp2
      go_ret
      exact ⟨rfl, hB1.trans (hb8.mono hB1.size)⟩
    · go_enter Try.func4, Try.ntmps4
      go_wp2_with (go_at_call 7; refine (works_any _).mono ?_; rintro e w1 ⟨rfl, hb1⟩)
      go_ret
      exact ⟨rfl, hb1⟩
  · go_enter Try.func4, Try.ntmps4
    go_wp2_with (go_at_call 7; refine (works_any _).mono ?_; rintro e w1 ⟨rfl, hb1⟩)
    go_ret
    exact ⟨rfl, hb1⟩
end Go.Proofs.Ytinmipokhpefjaa
