/-
  Fits of the program.
-/
import Derived.Test.YtkbfihnoohhojaaDoorQLEq4
import Derived.Deep.DeepCutAuto
import Derived.Deep.RegionWith
import Derived.Laws.Cover3
namespace Go.Proofs.YtkbfihnoohhojaaDoor.Lea
open Go.RowKit

theorem U_take (l : List Nat) (k : Nat) : (U l).take k = U (l.take k) := by simp [U, List.map_take]

/-- The first bytes of a slice. -/
theorem SlAt.first {w : World} {b : Nat} {p : Option Addr} {n cap : Nat} {l : List Nat} (h : SlAt w b (.slice p n cap) (U l)) (k : Nat) (hk : k ≤ l.length) : SlAt w b (.slice p k cap) (U (l.take k)) := by
  rcases h with ⟨h, h'⟩ | ⟨a, c, h1, h2, h3, h4⟩
  · have : l = [] := by simpa [U] using h'
    subst this
    simp at h
    have : k = 0 := by simpa using hk
    subst this
    exact .inl ⟨by simp [h.1, h.2.2], by simp [U]⟩
  · simp only [Value.slice.injEq] at h1
    obtain ⟨rfl, rfl, rfl⟩ := h1
    rw [U_length] at h2
    refine .inr ⟨a, cap, by simp [U, hk], by simp [U]; omega, h3, ?_⟩
    rcases h4 with h4 | ⟨off, h5, h6, h7⟩
    · left
      have : l = [] := by simpa [U] using h4
      subst this
      simp [U]
    · refine .inr ⟨off, h5, h6, fun j u hj => h7 j u ?_⟩
      rw [← U_take, List.getElem?_take] at hj
      split at hj
      · exact hj
      · cases hj

/-- Fits' answer. -/
def fitsB (l : List Nat) : Bool := decide (4 ≤ l.length) && decide (l = sealL (l.take (l.length - 4)))

theorem last4 {l : List Nat} (h : 4 ≤ l.length) : ∃ a b c d, l[l.length - 4]? = some a ∧ l[l.length - 4 + 1]? = some b ∧ l[l.length - 4 + 2]? = some c ∧ l[l.length - 4 + 3]? = some d ∧ l = l.take (l.length - 4) ++ [a, b, c, d] := by
  have e := (List.take_append_drop (l.length - 4) l).symm
  have hl : (l.drop (l.length - 4)).length = 4 := by rw [List.length_drop]; omega
  obtain ⟨a, b, c, d, hd⟩ : ∃ a b c d, l.drop (l.length - 4) = [a, b, c, d] := by
    match h4 : l.drop (l.length - 4) with
    | [] => rw [h4] at hl; simp at hl
    | [_] => rw [h4] at hl; simp at hl
    | [_, _] => rw [h4] at hl; simp at hl
    | [_, _, _] => rw [h4] at hl; simp at hl
    | [a, b, c, d] => exact ⟨a, b, c, d, rfl⟩
    | _ :: _ :: _ :: _ :: _ :: _ => rw [h4] at hl; simp at hl
  have g : ∀ i, l[l.length - 4 + i]? = [a, b, c, d][i]? := fun i => by rw [← hd, List.getElem?_drop]
  refine ⟨a, b, c, d, ?_, ?_, ?_, ?_, ?_⟩
  · exact g 0
  · exact g 1
  · exact g 2
  · exact g 3
  · rw [hd] at e; exact e

set_option maxHeartbeats 1000000 in
set_option maxRecDepth 10000 in
theorem fits_any {w : World} {b : Nat} {v : Value} {l : List Nat} (h : SlAt w b v (U l)) (hby : Byt l) :
    Calls Tryd.prog 70 #[v] w fun e w' => e = .returned (.bool (fitsB l)) ∧ Below w.heap.size w w' := by
  by_cases h4 : 4 ≤ l.length
  · obtain ⟨off, cap, hv, hc1, hc2, hbl, hel⟩ := h.elem (by rw [U_length]; omega)
    rw [U_length] at hv hc1
    unfold maxLen at hc2
    subst hv
    obtain ⟨y0, y1, y2, y3, l0, l1, l2, l3, hspl⟩ := last4 h4
    obtain ⟨x0, x1, x2, x3, hf⟩ := four_split (sum32 (l.take (l.length - 4)))
    have q0 := hel _ _ (U_at l0)
    have q1 := hel _ _ (U_at l1)
    have q2 := hel _ _ (U_at l2)
    have q3 := hel _ _ (U_at l3)
    have hp := h.first (l.length - 4) (by omega)
    have hpb := hby.take (l.length - 4)
    have HF : Hid (four (sum32 (l.take (l.length - 4))) = [x0, x1, x2, x3]) := hf
    have HE : Hid (fitsB l = decide ([y0, y1, y2, y3] = [x0, x1, x2, x3])) := by
      show _ = _
      have e : decide (4 ≤ l.length) = true := by simpa using h4
      unfold fitsB
      rw [e, Bool.true_and, Bool.eq_iff_iff, decide_eq_true_iff, decide_eq_true_iff]
      unfold sealL
      rw [hf]
      constructor
      · intro e; exact List.append_cancel_left (hspl.symm.trans e)
      · intro e; rw [← e]; exact hspl
    clear hf hspl hel h l0 l1 l2 l3 hby
    generalize l.take (l.length - 4) = t at *
    obtain ⟨n, hn⟩ : ∃ n, n + 4 = l.length := ⟨l.length - 4, by omega⟩
    have hn' : l.length - 4 = n := by omega
    rw [hn'] at q0 q1 q2 q3 hp
    rw [← Nat.add_assoc] at q1 q2 q3
    rw [← hn] at hc1 ⊢
    clear hn' hn h4
    have hat : ∀ w : World, (Instr.arrayAt 121 (.slice (some ⟨b, off + n, none⟩) 4 (cap - n))).run Tryd.prog w = .ok (.pointer (some ⟨b, off + n, none⟩)) w := fun w => run_arrayAt w 121 _ 4 _ 4 (cap - n) Tryd.underlying121 (Nat.le_refl _)
    have hq := eq25_nat x0 x1 x2 x3 y0 y1 y2 y3
    rw [HE.out]
    generalize decide ([y0, y1, y2, y3] = [x0, x1, x2, x3]) = B at hq ⊢
    have i1 : (n : Int) ≤ (cap : Int) := by omega
    have i2 : (n : Int) ≤ (n : Int) + 4 := by omega
    have i3 : ¬ cap = n := by omega
    have i4 : ¬ cap < n := by omega
    go_enter Tryd.func70, Tryd.ntmps70
    go_upto_region 4 with fail
    refine wp_region_any (by kernel_rfl) ?_
    change wpAny _ _ _ _ _ _ _ (World.drew _)
    refine wpAny_take (i := 0) (v := .slice (some ⟨b, off, none⟩) (n + 4) cap) rfl (by kernel_rfl) (by kernel_rfl) (by kernel_rfl) (fun _ _ _ h => h) (Or.inl ⟨by kernel_rfl, ?_⟩) ?_
    · intro w; go_simp
    change wpAny _ _ _ _ _ _ (Act.put _ (some 10) _) _
    simp only [Act.put, List.setIfInBounds_toArray, List.set_cons_succ, List.set_cons_zero]
    refine wpAny_take (i := 1) (v := .int .i64 n) rfl (by kernel_rfl) (by kernel_rfl) (by kernel_rfl) (fun _ _ _ h => h) (Or.inl ⟨by kernel_rfl, ?_⟩) ?_
    · intro w; go_simp
    change wpAny _ _ _ _ _ _ (Act.put _ (some 11) _) _
    simp only [Act.put, List.setIfInBounds_toArray, List.set_cons_succ, List.set_cons_zero]
    refine wpAny_take (i := 2) (v := .slice (some ⟨b, off, none⟩) n cap) rfl (by kernel_rfl) (by kernel_rfl) (by kernel_rfl) (fun _ _ _ h => h) (Or.inl ⟨by kernel_rfl, ?_⟩) ?_
    · intro w; go_simp
    change wpAny _ _ _ _ _ _ (Act.put _ (some 12) _) _
    simp only [Act.put, List.setIfInBounds_toArray, List.set_cons_succ, List.set_cons_zero]
    refine wpAny_take (i := 5) (v := .slice (some ⟨b, off, none⟩) (n + 4) cap) rfl (by kernel_rfl) (by kernel_rfl) (by kernel_rfl) (fun _ _ _ h => h) (Or.inl ⟨by kernel_rfl, ?_⟩) ?_
    · intro w; go_simp
    change wpAny _ _ _ _ _ _ (Act.put _ (some 15) _) _
    simp only [Act.put, List.setIfInBounds_toArray, List.set_cons_succ, List.set_cons_zero]
    refine wpAny_take (i := 6) (v := .int .i64 n) rfl (by kernel_rfl) (by kernel_rfl) (by kernel_rfl) (fun _ _ _ h => h) (Or.inl ⟨by kernel_rfl, ?_⟩) ?_
    · intro w; go_simp
    change wpAny _ _ _ _ _ _ (Act.put _ (some 16) _) _
    simp only [Act.put, List.setIfInBounds_toArray, List.set_cons_succ, List.set_cons_zero]
    refine wpAny_take (i := 7) (v := .slice (some ⟨b, off + n, none⟩) 4 (cap - n)) rfl (by kernel_rfl) (by kernel_rfl) (by kernel_rfl) (fun _ _ _ h => h) (Or.inl ⟨by kernel_rfl, ?_⟩) ?_
    · intro w; go_simp
    change wpAny _ _ _ _ _ _ (Act.put _ (some 17) _) _
    simp only [Act.put, List.setIfInBounds_toArray, List.set_cons_succ, List.set_cons_zero]
    refine wpAny_take (i := 8) (v := .pointer (some ⟨b, off + n, none⟩)) rfl (by kernel_rfl) (by kernel_rfl) (by kernel_rfl) (fun _ _ _ h => h) (Or.inl ⟨by kernel_rfl, ?_⟩) ?_
    · intro w; go_simp
    change wpAny _ _ _ _ _ _ (Act.put _ (some 18) _) _
    simp only [Act.put, List.setIfInBounds_toArray, List.set_cons_succ, List.set_cons_zero]
    refine wpAny_ready (rs := [3, 9]) (by kernel_rfl) (by simp) ?_
    refine AllReady.cons rfl (fun K hK => ?_) (AllReady.cons rfl (fun K hK => ?_) AllReady.nil)
    · go_simp
      go_wp2_with (go_at_call 58; refine (sum_any (b := b) (l := t) ?_ hpb).mono ?_; exact hp.stays (below_drewN w 1 _); rintro e w' ⟨rfl, hw⟩; have hw := hw.symm; subst hw)
      refine wpAny_ready (rs := [4, 9]) (by kernel_rfl) (by simp) ?_
      refine AllReady.cons rfl (fun K hK => ?_) (AllReady.cons rfl (fun K hK => ?_) AllReady.nil)
      · go_simp
        go_wp2_with (go_at_call 57; refine (four_any _ _ _ _ _ _ (sum32_lt t) HF.out).mono ?_; rintro e w1 ⟨rfl, hb1⟩; have r0 := (hb1.cell (p := ⟨b, off + n, none⟩) hbl).trans q0; have r1 := (hb1.cell (p := ⟨b, off + n + 1, none⟩) hbl).trans q1; have r2 := (hb1.cell (p := ⟨b, off + n + 2, none⟩) hbl).trans q2; have r3 := (hb1.cell (p := ⟨b, off + n + 3, none⟩) hbl).trans q3)
        refine wpAny_ready (rs := [9]) (by kernel_rfl) (by simp) ?_
        refine AllReady.cons rfl (fun K hK => ?_) AllReady.nil
        go_simp
        go_wp2_with (fail)
        refine wpAny_take (i := 10) (v := .bool B) rfl (by kernel_rfl) (by kernel_rfl) (by kernel_rfl) (fun _ _ _ h => h) (Or.inl ⟨by kernel_rfl, ?_⟩) ?_
        · intro w; go_simp
        change wpAny _ _ _ _ _ _ (Act.put _ (some 20) _) _
        simp only [Act.put, List.setIfInBounds_toArray, List.set_cons_succ, List.set_cons_zero]
        refine wpAny_take (i := 11) (v := .bool B) rfl (by kernel_rfl) (by kernel_rfl) (by kernel_rfl) (fun _ _ _ h => h) (Or.inl ⟨by kernel_rfl, ?_⟩) ?_
        · intro w; go_simp
        change wpAny _ _ _ _ _ _ (Act.put _ (some 2) _) _
        simp only [Act.put, List.setIfInBounds_toArray, List.set_cons_succ, List.set_cons_zero]
        refine wpAny_done (by kernel_rfl) ?_ _
        go_wp2
        go_ret
        exact ⟨rfl, (below_drewN w 1 _).trans hb1⟩
      · go_simp
        go_wp2_with (fail)
        refine wpAny_ready (rs := [4]) (by kernel_rfl) (by simp) ?_
        refine AllReady.cons rfl (fun K hK => ?_) AllReady.nil
        go_simp
        go_wp2_with (go_at_call 57; refine (four_any _ _ _ _ _ _ (sum32_lt t) HF.out).mono ?_; rintro e w1 ⟨rfl, hb1⟩; have r0 := (hb1.cell (p := ⟨b, off + n, none⟩) hbl).trans q0; have r1 := (hb1.cell (p := ⟨b, off + n + 1, none⟩) hbl).trans q1; have r2 := (hb1.cell (p := ⟨b, off + n + 2, none⟩) hbl).trans q2; have r3 := (hb1.cell (p := ⟨b, off + n + 3, none⟩) hbl).trans q3)
        refine wpAny_take (i := 10) (v := .bool B) rfl (by kernel_rfl) (by kernel_rfl) (by kernel_rfl) (fun _ _ _ h => h) (Or.inl ⟨by kernel_rfl, ?_⟩) ?_
        · intro w; go_simp
        change wpAny _ _ _ _ _ _ (Act.put _ (some 20) _) _
        simp only [Act.put, List.setIfInBounds_toArray, List.set_cons_succ, List.set_cons_zero]
        refine wpAny_take (i := 11) (v := .bool B) rfl (by kernel_rfl) (by kernel_rfl) (by kernel_rfl) (fun _ _ _ h => h) (Or.inl ⟨by kernel_rfl, ?_⟩) ?_
        · intro w; go_simp
        change wpAny _ _ _ _ _ _ (Act.put _ (some 2) _) _
        simp only [Act.put, List.setIfInBounds_toArray, List.set_cons_succ, List.set_cons_zero]
        refine wpAny_done (by kernel_rfl) ?_ _
        go_wp2
        go_ret
        exact ⟨rfl, (below_drewN w 1 _).trans hb1⟩
    · go_simp
      go_wp2_with (fail)
      refine wpAny_ready (rs := [3]) (by kernel_rfl) (by simp) ?_
      refine AllReady.cons rfl (fun K hK => ?_) AllReady.nil
      go_simp
      go_wp2_with (go_at_call 58; refine (sum_any (b := b) (l := t) ?_ hpb).mono ?_; exact hp.stays (below_drewN w 1 _); rintro e w' ⟨rfl, hw⟩; have hw := hw.symm; subst hw)
      refine wpAny_ready (rs := [4]) (by kernel_rfl) (by simp) ?_
      refine AllReady.cons rfl (fun K hK => ?_) AllReady.nil
      go_simp
      go_wp2_with (go_at_call 57; refine (four_any _ _ _ _ _ _ (sum32_lt t) HF.out).mono ?_; rintro e w1 ⟨rfl, hb1⟩; have r0 := (hb1.cell (p := ⟨b, off + n, none⟩) hbl).trans q0; have r1 := (hb1.cell (p := ⟨b, off + n + 1, none⟩) hbl).trans q1; have r2 := (hb1.cell (p := ⟨b, off + n + 2, none⟩) hbl).trans q2; have r3 := (hb1.cell (p := ⟨b, off + n + 3, none⟩) hbl).trans q3)
      refine wpAny_take (i := 10) (v := .bool B) rfl (by kernel_rfl) (by kernel_rfl) (by kernel_rfl) (fun _ _ _ h => h) (Or.inl ⟨by kernel_rfl, ?_⟩) ?_
      · intro w; go_simp
      change wpAny _ _ _ _ _ _ (Act.put _ (some 20) _) _
      simp only [Act.put, List.setIfInBounds_toArray, List.set_cons_succ, List.set_cons_zero]
      refine wpAny_take (i := 11) (v := .bool B) rfl (by kernel_rfl) (by kernel_rfl) (by kernel_rfl) (fun _ _ _ h => h) (Or.inl ⟨by kernel_rfl, ?_⟩) ?_
      · intro w; go_simp
      change wpAny _ _ _ _ _ _ (Act.put _ (some 2) _) _
      simp only [Act.put, List.setIfInBounds_toArray, List.set_cons_succ, List.set_cons_zero]
      refine wpAny_done (by kernel_rfl) ?_ _
      go_wp2
      go_ret
      exact ⟨rfl, (below_drewN w 1 _).trans hb1⟩
  · have e : fitsB l = false := by
      unfold fitsB
      rw [Bool.and_eq_false_iff]
      left; simpa using h4
    rw [e]
    clear e
    obtain ⟨p, cap, hu, hc1, hc2⟩ := h.form
    rw [U_length] at hu hc1
    unfold maxLen at hc2
    subst hu
    go_enter Tryd.func70, Tryd.ntmps70
    go_wp2
    go_ret
    exact ⟨rfl, Below.refl _ _⟩
end Go.Proofs.YtkbfihnoohhojaaDoor.Lea
