/-
  Whether leaves are the same; bytes in new memory.
-/
import Derived.Test.YtcdcdlofgeoonaaDoorEqs
import Derived.Laws.StructEq
namespace Go.Proofs.YtcdcdlofgeoonaaDoor
open Go.RowKit

theorem fields59 : Tryd.prog.underlying 59 = some (.struct (Tryd.prog.fieldsOf 59)) := by kernel_rfl
theorem held59 : Tryd.prog.stoodInHeld 59 = false := by kernel_rfl
theorem guard59 : Tryd.prog.eqGuardType Tryd.prog.depth 59 = false := by kernel_rfl
theorem list59 : (Tryd.prog.fieldsOf 59).toList.map (fun f => (f.type, f.offset, decide (f.name = "_"))) = [(3, 0, false), (3, 1, false)] := by kernel_rfl
theorem two_of {fs : List Field} (h : fs.map (fun f => (f.type, f.offset, decide (f.name = "_"))) = [(3, 0, false), (3, 1, false)]) : ∃ f0 f1, fs = [f0, f1] ∧ f0.type = 3 ∧ f0.offset = 0 ∧ f0.name ≠ "_" ∧ f1.type = 3 ∧ f1.offset = 1 ∧ f1.name ≠ "_" := by
  rcases fs with _ | ⟨f0, _ | ⟨f1, _ | ⟨f2, r⟩⟩⟩
  · simp at h
  · simp at h
  · simp at h
    exact ⟨f0, f1, rfl, h.1.1, h.1.2.1, h.1.2.2, h.2.1, h.2.2.1, h.2.2.2⟩
  · simp at h
theorem eq59 (s k s' k' : Int) (w : World) : (Op.equalIn 10000 59 (.agg #[.int .i64 s, .int .i64 k]) (.agg #[.int .i64 s', .int .i64 k'])).run Tryd.prog w = .ok (s == s' && k == k') w := by
  obtain ⟨f0, f1, hf, t0, o0, n0, t1, o1, n1⟩ := two_of list59
  have a3 := Tryd.isAgg3
  have z3 := Tryd.sizeOf3
  have u3 := Tryd.underlying3
  rw [show (10000 : Nat) = 9999 + 1 from rfl, run_equalIn_struct w 9999 59 _ _ fields59 held59, hf]
  simp only [Op.eqFields, t0, t1, o0, o1, n0, n1, ne_eq, not_false_eq_true, if_true]
  go_simp
  by_cases h1 : s = s'
  · by_cases h2 : k = k' <;> simp [h1, h2]
  · simp [h1]

theorem three24 {w : World} {g : Nat} {x0 x1 x2 : Value} (h : w.heap[g]? = some (.cells #[x0, x1, x2] 24 (0, 0))) :
    (w.cell? ⟨g, 0, none⟩ = some x0 ∧ w.cell? ⟨g, 1, none⟩ = some x1 ∧ w.cell? ⟨g, 2, none⟩ = some x2) ∧ ∀ o, w.frozen? ⟨g, o, none⟩ = false := by
  refine ⟨⟨?_, ?_, ?_⟩, ?_⟩ <;> simp [World.cell?, World.frozen?, h]

set_option maxHeartbeats 2000000 in
set_option maxRecDepth 10000 in
theorem lsame_any {w : World} {b c : Nat} {p p' : Option Addr} {n cap n' cap' : Nat} {l l' : List Nat} (s k s' k' : Int) (h : SlAt w b (.slice p n cap) (U l)) (g : SlAt w c (.slice p' n' cap') (U l')) (hl : Byt l) (hl' : Byt l') :
    Calls Tryd.prog 15 #[.agg #[.int .i64 s, .int .i64 k, .slice p n cap], .agg #[.int .i64 s', .int .i64 k', .slice p' n' cap']] w fun e w' => e = .returned (.bool (s == s' && k == k' && decide (l = l'))) ∧ Below w.heap.size w w' := by
  have hq := eq59 s k s' k'
  have hg := guard59
  have HSL : Hid (∀ w', Below w.heap.size w w' → SlAt w' b (.slice p n cap) (U l)) := fun w' hb => h.stays hb
  have HSM : Hid (∀ w', Below w.heap.size w w' → SlAt w' c (.slice p' n' cap') (U l')) := fun w' hb => g.stays hb
  have HX0 : Hid (((w.alloc (.cells #[.int .i64 s, .int .i64 k, .slice p n cap] 24)).alloc (.cells #[.int .i64 s', .int .i64 k', .slice p' n' cap'] 24)).drew.heap[w.heap.size]? = some (.cells #[.int .i64 s, .int .i64 k, .slice p n cap] 24 (0, 0))) := by show (((w.alloc (.cells #[.int .i64 s, .int .i64 k, .slice p n cap] 24)).alloc (.cells #[.int .i64 s', .int .i64 k', .slice p' n' cap'] 24))).heap[w.heap.size]? = _; rw [Below.heap_alloc _ _ _ (by simp)]; exact heap_alloc_new w _
  have HX1 : Hid (((w.alloc (.cells #[.int .i64 s, .int .i64 k, .slice p n cap] 24)).alloc (.cells #[.int .i64 s', .int .i64 k', .slice p' n' cap'] 24)).drew.heap[w.heap.size + 1]? = some (.cells #[.int .i64 s', .int .i64 k', .slice p' n' cap'] 24 (0, 0))) := by have := heap_alloc_new (w.alloc (.cells #[.int .i64 s, .int .i64 k, .slice p n cap] 24)) (.cells #[.int .i64 s', .int .i64 k', .slice p' n' cap'] 24); rw [size_alloc] at this; exact this
  have HB0 : Hid (Below w.heap.size w ((w.alloc (.cells #[.int .i64 s, .int .i64 k, .slice p n cap] 24)).alloc (.cells #[.int .i64 s', .int .i64 k', .slice p' n' cap'] 24)).drew) := by show Below _ _ _; go_grown
  clear h g
  by_cases he : (s == s' && k == k') = true
  · rw [he] at hq ⊢
    rw [Bool.true_and]
    generalize hD : decide (l = l') = D at *
    have e15 : ∀ w : World, SlAt w b (.slice p n cap) (U l) → SlAt w c (.slice p' n' cap') (U l') → Calls Tryd.prog 28 #[.slice p n cap, .slice p' n' cap'] w fun e w' => e = .returned (.bool D) ∧ w' = w := fun w h g => by rw [← hD]; exact equal_any h g hl hl'
    have E15 := hid2 e15
    clear e15 hD he hl hl'
    go_enter Tryd.func15, Tryd.ntmps15
    go_wp2_with fail
    refine wp_region_held_drew (S := fun w' => w'.heap[w.heap.size]? = some (.cells #[.int .i64 s, .int .i64 k, .slice p n cap] 24 (0, 0)) ∧ w'.heap[w.heap.size + 1]? = some (.cells #[.int .i64 s', .int .i64 k', .slice p' n' cap'] 24 (0, 0))) (by kernel_rfl) (⟨HX0.out, HX1.out⟩) (fun hS => ?_)
    change wpAnyH _ _ _ _ _ _ _ _ (World.drew _)
    refine wpAnyH_take (i := 0) (v := .agg #[.int .i64 s, .int .i64 k, .slice p n cap]) rfl (by kernel_rfl) (by kernel_rfl) (by kernel_rfl) (fun _ _ _ h => h) (Or.inl ⟨by kernel_rfl, ?_⟩) hS ?_
    · intro W hw
      obtain ⟨⟨q0, q1, q2⟩, _⟩ := three24 hw.1
      go_simp
    change wpAnyH _ _ _ _ _ _ _ (Act.put _ (some 5) _) _
    simp only [Act.put, List.setIfInBounds_toArray, List.set_cons_succ, List.set_cons_zero]
    refine wpAnyH_take (i := 2) (v := .agg #[.int .i64 s', .int .i64 k', .slice p' n' cap']) rfl (by kernel_rfl) (by kernel_rfl) (by kernel_rfl) (fun _ _ _ h => h) (Or.inl ⟨by kernel_rfl, ?_⟩) hS ?_
    · intro W hw
      obtain ⟨⟨q0, q1, q2⟩, _⟩ := three24 hw.2
      go_simp
    change wpAnyH _ _ _ _ _ _ _ (Act.put _ (some 7) _) _
    simp only [Act.put, List.setIfInBounds_toArray, List.set_cons_succ, List.set_cons_zero]
    refine wpAnyH_ready (rs := [1]) (by kernel_rfl) (by simp) ?_
    refine AllReadyH.cons rfl (fun K hK => ?_) AllReadyH.nil
    go_simp
    go_wp2_with (go_at_call 27; refine (headOf_any _ _ _ _ _ _).mono ?_; rintro e w1 ⟨rfl, hb1⟩)
    refine hK.out _ _ (⟨heap_stays hS.1 hb1, heap_stays hS.2 hb1⟩) (fun hS => ?_)
    clear hK K
    skip
    refine wpAnyH_ready (rs := [3]) (by kernel_rfl) (by simp) ?_
    refine AllReadyH.cons rfl (fun K hK => ?_) AllReadyH.nil
    go_simp
    go_wp2_with (go_at_call 27; refine (headOf_any _ _ _ _ _ _).mono ?_; rintro e w2 ⟨rfl, hb2⟩)
    refine hK.out _ _ (⟨heap_stays hS.1 hb2, heap_stays hS.2 hb2⟩) (fun hS => ?_)
    clear hK K
    skip
    refine wpAnyH_take (i := 4) (v := .bool true) rfl (by kernel_rfl) (by kernel_rfl) (by kernel_rfl) (fun _ _ _ h => h) (Or.inl ⟨by kernel_rfl, ?_⟩) hS ?_
    · intro w hw; clear hw; go_simp
    change wpAnyH _ _ _ _ _ _ _ (Act.put _ (some 9) _) _
    simp only [Act.put, List.setIfInBounds_toArray, List.set_cons_succ, List.set_cons_zero]
    refine wpAnyH_take (i := 5) (v := .bool true) rfl (by kernel_rfl) (by kernel_rfl) (by kernel_rfl) (fun _ _ _ h => h) (Or.inl ⟨by kernel_rfl, ?_⟩) hS ?_
    · intro w hw; clear hw; go_simp
    change wpAnyH _ _ _ _ _ _ _ (Act.put _ (some 10) _) _
    simp only [Act.put, List.setIfInBounds_toArray, List.set_cons_succ, List.set_cons_zero]
    refine wpAnyH_take (i := 6) (v := .pointer (some ⟨w.heap.size, 2, none⟩)) rfl (by kernel_rfl) (by kernel_rfl) (by kernel_rfl) (fun _ _ _ h => h) (Or.inl ⟨by kernel_rfl, ?_⟩) hS ?_
    · intro w hw; clear hw; go_simp
    change wpAnyH _ _ _ _ _ _ _ (Act.put _ (some 11) _) _
    simp only [Act.put, List.setIfInBounds_toArray, List.set_cons_succ, List.set_cons_zero]
    refine wpAnyH_take (i := 7) (v := .slice p n cap) rfl (by kernel_rfl) (by kernel_rfl) (by kernel_rfl) (fun _ _ _ h => h) (Or.inl ⟨by kernel_rfl, ?_⟩) hS ?_
    · intro W hw
      obtain ⟨⟨q0, q1, q2⟩, _⟩ := three24 hw.1
      go_simp
    change wpAnyH _ _ _ _ _ _ _ (Act.put _ (some 12) _) _
    simp only [Act.put, List.setIfInBounds_toArray, List.set_cons_succ, List.set_cons_zero]
    refine wpAnyH_take (i := 8) (v := .pointer (some ⟨w.heap.size + 1, 2, none⟩)) rfl (by kernel_rfl) (by kernel_rfl) (by kernel_rfl) (fun _ _ _ h => h) (Or.inl ⟨by kernel_rfl, ?_⟩) hS ?_
    · intro w hw; clear hw; go_simp
    change wpAnyH _ _ _ _ _ _ _ (Act.put _ (some 13) _) _
    simp only [Act.put, List.setIfInBounds_toArray, List.set_cons_succ, List.set_cons_zero]
    refine wpAnyH_take (i := 9) (v := .slice p' n' cap') rfl (by kernel_rfl) (by kernel_rfl) (by kernel_rfl) (fun _ _ _ h => h) (Or.inl ⟨by kernel_rfl, ?_⟩) hS ?_
    · intro W hw
      obtain ⟨⟨q0, q1, q2⟩, _⟩ := three24 hw.2
      go_simp
    change wpAnyH _ _ _ _ _ _ _ (Act.put _ (some 14) _) _
    simp only [Act.put, List.setIfInBounds_toArray, List.set_cons_succ, List.set_cons_zero]
    refine wpAnyH_ready (rs := [10]) (by kernel_rfl) (by simp) ?_
    refine AllReadyH.cons rfl (fun K hK => ?_) AllReadyH.nil
    go_simp
    go_wp2_with (go_at_call 28; refine (E15.out _ (HSL.out _ (HB0.out.trans ((hb1.trans (hb2.mono hb1.size)).mono HB0.out.size))) (HSM.out _ (HB0.out.trans ((hb1.trans (hb2.mono hb1.size)).mono HB0.out.size))) ).mono ?_; rintro e w3 ⟨rfl, hww⟩; cases hww)
    refine hK.out _ _ (hS) (fun hS => ?_)
    clear hK K
    skip
    refine wpAnyH_take (i := 11) (v := .bool D) rfl (by kernel_rfl) (by kernel_rfl) (by kernel_rfl) (fun _ _ _ h => h) (Or.inl ⟨by kernel_rfl, ?_⟩) hS ?_
    · intro w hw; clear hw; go_simp
    change wpAnyH _ _ _ _ _ _ _ (Act.put _ (some 16) _) _
    simp only [Act.put, List.setIfInBounds_toArray, List.set_cons_succ, List.set_cons_zero]
    refine wpAnyH_take (i := 12) (v := .bool D) rfl (by kernel_rfl) (by kernel_rfl) (by kernel_rfl) (fun _ _ _ h => h) (Or.inl ⟨by kernel_rfl, ?_⟩) hS ?_
    · intro w hw; clear hw; go_simp
    change wpAnyH _ _ _ _ _ _ _ (Act.put _ (some 4) _) _
    simp only [Act.put, List.setIfInBounds_toArray, List.set_cons_succ, List.set_cons_zero]
    refine wpAnyH_done (by kernel_rfl) ?_ _
    go_wp2
    go_ret
    exact ⟨rfl, HB0.out.trans ((hb1.trans (hb2.mono hb1.size)).mono HB0.out.size)⟩
  · have he' : (s == s' && k == k') = false := by simpa using he
    rw [he'] at hq ⊢
    rw [Bool.false_and]
    clear he hl hl'
    go_enter Tryd.func15, Tryd.ntmps15
    go_wp2_with fail
    refine wp_region_held_drew (S := fun w' => w'.heap[w.heap.size]? = some (.cells #[.int .i64 s, .int .i64 k, .slice p n cap] 24 (0, 0)) ∧ w'.heap[w.heap.size + 1]? = some (.cells #[.int .i64 s', .int .i64 k', .slice p' n' cap'] 24 (0, 0))) (by kernel_rfl) (⟨HX0.out, HX1.out⟩) (fun hS => ?_)
    change wpAnyH _ _ _ _ _ _ _ _ (World.drew _)
    refine wpAnyH_take (i := 0) (v := .agg #[.int .i64 s, .int .i64 k, .slice p n cap]) rfl (by kernel_rfl) (by kernel_rfl) (by kernel_rfl) (fun _ _ _ h => h) (Or.inl ⟨by kernel_rfl, ?_⟩) hS ?_
    · intro W hw
      obtain ⟨⟨q0, q1, q2⟩, _⟩ := three24 hw.1
      go_simp
    change wpAnyH _ _ _ _ _ _ _ (Act.put _ (some 5) _) _
    simp only [Act.put, List.setIfInBounds_toArray, List.set_cons_succ, List.set_cons_zero]
    refine wpAnyH_take (i := 2) (v := .agg #[.int .i64 s', .int .i64 k', .slice p' n' cap']) rfl (by kernel_rfl) (by kernel_rfl) (by kernel_rfl) (fun _ _ _ h => h) (Or.inl ⟨by kernel_rfl, ?_⟩) hS ?_
    · intro W hw
      obtain ⟨⟨q0, q1, q2⟩, _⟩ := three24 hw.2
      go_simp
    change wpAnyH _ _ _ _ _ _ _ (Act.put _ (some 7) _) _
    simp only [Act.put, List.setIfInBounds_toArray, List.set_cons_succ, List.set_cons_zero]
    refine wpAnyH_ready (rs := [1]) (by kernel_rfl) (by simp) ?_
    refine AllReadyH.cons rfl (fun K hK => ?_) AllReadyH.nil
    go_simp
    go_wp2_with (go_at_call 27; refine (headOf_any _ _ _ _ _ _).mono ?_; rintro e w1 ⟨rfl, hb1⟩)
    refine hK.out _ _ (⟨heap_stays hS.1 hb1, heap_stays hS.2 hb1⟩) (fun hS => ?_)
    clear hK K
    skip
    refine wpAnyH_ready (rs := [3]) (by kernel_rfl) (by simp) ?_
    refine AllReadyH.cons rfl (fun K hK => ?_) AllReadyH.nil
    go_simp
    go_wp2_with (go_at_call 27; refine (headOf_any _ _ _ _ _ _).mono ?_; rintro e w2 ⟨rfl, hb2⟩)
    refine hK.out _ _ (⟨heap_stays hS.1 hb2, heap_stays hS.2 hb2⟩) (fun hS => ?_)
    clear hK K
    skip
    refine wpAnyH_take (i := 4) (v := .bool false) rfl (by kernel_rfl) (by kernel_rfl) (by kernel_rfl) (fun _ _ _ h => h) (Or.inl ⟨by kernel_rfl, ?_⟩) hS ?_
    · intro w hw; clear hw; go_simp
    change wpAnyH _ _ _ _ _ _ _ (Act.put _ (some 9) _) _
    simp only [Act.put, List.setIfInBounds_toArray, List.set_cons_succ, List.set_cons_zero]
    refine wpAnyH_take (i := 5) (v := .bool false) rfl (by kernel_rfl) (by kernel_rfl) (by kernel_rfl) (fun _ _ _ h => h) (Or.inl ⟨by kernel_rfl, ?_⟩) hS ?_
    · intro w hw; clear hw; go_simp
    change wpAnyH _ _ _ _ _ _ _ (Act.put _ (some 10) _) _
    simp only [Act.put, List.setIfInBounds_toArray, List.set_cons_succ, List.set_cons_zero]
    refine wpAnyH_take (i := 6) (v := undef) rfl (by kernel_rfl) (by kernel_rfl) (by kernel_rfl) (fun _ _ _ h => h) (Or.inr ⟨by kernel_rfl, rfl⟩) hS ?_
    change wpAnyH _ _ _ _ _ _ _ (Act.put _ (some 11) _) _
    simp only [Act.put, List.setIfInBounds_toArray, List.set_cons_succ, List.set_cons_zero]
    refine wpAnyH_take (i := 7) (v := undef) rfl (by kernel_rfl) (by kernel_rfl) (by kernel_rfl) (fun _ _ _ h => h) (Or.inr ⟨by kernel_rfl, rfl⟩) hS ?_
    change wpAnyH _ _ _ _ _ _ _ (Act.put _ (some 12) _) _
    simp only [Act.put, List.setIfInBounds_toArray, List.set_cons_succ, List.set_cons_zero]
    refine wpAnyH_take (i := 8) (v := undef) rfl (by kernel_rfl) (by kernel_rfl) (by kernel_rfl) (fun _ _ _ h => h) (Or.inr ⟨by kernel_rfl, rfl⟩) hS ?_
    change wpAnyH _ _ _ _ _ _ _ (Act.put _ (some 13) _) _
    simp only [Act.put, List.setIfInBounds_toArray, List.set_cons_succ, List.set_cons_zero]
    refine wpAnyH_take (i := 9) (v := undef) rfl (by kernel_rfl) (by kernel_rfl) (by kernel_rfl) (fun _ _ _ h => h) (Or.inr ⟨by kernel_rfl, rfl⟩) hS ?_
    change wpAnyH _ _ _ _ _ _ _ (Act.put _ (some 14) _) _
    simp only [Act.put, List.setIfInBounds_toArray, List.set_cons_succ, List.set_cons_zero]
    refine wpAnyH_take (i := 10) (v := undef) rfl (by kernel_rfl) (by kernel_rfl) (by kernel_rfl) (fun _ _ _ h => h) (Or.inr ⟨by kernel_rfl, rfl⟩) hS ?_
    change wpAnyH _ _ _ _ _ _ _ (Act.put _ (some 15) _) _
    simp only [Act.put, List.setIfInBounds_toArray, List.set_cons_succ, List.set_cons_zero]
    refine wpAnyH_take (i := 11) (v := .bool false) rfl (by kernel_rfl) (by kernel_rfl) (by kernel_rfl) (fun _ _ _ h => h) (Or.inl ⟨by kernel_rfl, ?_⟩) hS ?_
    · intro w hw; clear hw; go_simp
    change wpAnyH _ _ _ _ _ _ _ (Act.put _ (some 16) _) _
    simp only [Act.put, List.setIfInBounds_toArray, List.set_cons_succ, List.set_cons_zero]
    refine wpAnyH_take (i := 12) (v := .bool false) rfl (by kernel_rfl) (by kernel_rfl) (by kernel_rfl) (fun _ _ _ h => h) (Or.inl ⟨by kernel_rfl, ?_⟩) hS ?_
    · intro w hw; clear hw; go_simp
    change wpAnyH _ _ _ _ _ _ _ (Act.put _ (some 4) _) _
    simp only [Act.put, List.setIfInBounds_toArray, List.set_cons_succ, List.set_cons_zero]
    refine wpAnyH_done (by kernel_rfl) ?_ _
    go_wp2
    go_ret
    exact ⟨rfl, HB0.out.trans ((hb1.trans (hb2.mono hb1.size)).mono HB0.out.size)⟩

set_option maxHeartbeats 2000000 in
set_option maxRecDepth 10000 in
theorem rsame_any {w : World} {b c : Nat} {p p' : Option Addr} {n cap n' cap' : Nat} {l l' : List Nat} (s k s' k' : Int) (h : SlAt w b (.slice p n cap) (U l)) (g : SlAt w c (.slice p' n' cap') (U l')) :
    Calls Tryd.prog 16 #[.agg #[.int .i64 s, .int .i64 k, .slice p n cap], .agg #[.int .i64 s', .int .i64 k', .slice p' n' cap']] w fun e w' => e = .returned (.bool (s == s' && k == k' && decide (l = l'))) ∧ Below w.heap.size w w' := by
  have hb0 : Below w.heap.size w ((w.alloc (.cells #[.int .i64 s, .int .i64 k, .slice p n cap] 24)).alloc (.cells #[.int .i64 s', .int .i64 k', .slice p' n' cap'] 24)) := by go_grown
  have HC : Hid (Calls Tryd.prog 11 #[.slice p n cap, .slice p' n' cap'] ((w.alloc (.cells #[.int .i64 s, .int .i64 k, .slice p n cap] 24)).alloc (.cells #[.int .i64 s', .int .i64 k', .slice p' n' cap'] 24)) fun e w' => e = .returned (.bool (decide (l = l'))) ∧ ∃ m, w' = ((w.alloc (.cells #[.int .i64 s, .int .i64 k, .slice p n cap] 24)).alloc (.cells #[.int .i64 s', .int .i64 k', .slice p' n' cap'] 24)).drewN m) := same_any (h.stays hb0) (g.stays hb0)
  have HB0 := hid2 hb0
  clear h g hb0
  generalize decide (l = l') = D at *
  by_cases h1 : s = s'
  · subst h1
    by_cases h2 : k = k'
    · subst h2
      go_enter Tryd.func16, Tryd.ntmps16
      go_wp2_with (go_at_call 11; refine (show Calls _ _ _ _ _ from HC).mono ?_; rintro e w2 ⟨rfl, m, rfl⟩)
      go_ret
      exact ⟨by simp, HB0.out.trans (below_drewN _ _ _)⟩
    · have e2 : (k == k') = false := by simpa using h2
      go_enter Tryd.func16, Tryd.ntmps16
      go_wp2
      go_ret
      exact ⟨by simp [e2], HB0.out⟩
  · have e1 : (s == s') = false := by simpa using h1
    go_enter Tryd.func16, Tryd.ntmps16
    go_wp2
    go_ret
    exact ⟨by simp [e1], HB0.out⟩

theorem eqlIn_nil (d : Nat) (a : Option Addr) (l c : Nat) (w : World) : (Op.equalIn (d + 1) 22 (.slice a l c) (.slice none 0 0)).run Tryd.prog w = .ok a.isNone w := by
  cases a <;> simp [Op.equalIn, run_underlying Tryd.underlying22]
theorem equal_nil (a : Option Addr) (l c : Nat) (w : World) : (Op.equal 22 (.slice a l c) (.slice none 0 0)).run Tryd.prog w = .ok a.isNone w := eqlIn_nil 9999 a l c w
theorem eql_nil (a : Option Addr) (l c : Nat) (w : World) : (binOp .eql 22 (.slice a l c) (.slice none 0 0)).run Tryd.prog w = .ok (.bool a.isNone) w := by
  simp [binOp, equal_nil]

set_option maxHeartbeats 1000000 in
set_option maxRecDepth 10000 in
theorem clone_any {w : World} {b : Nat} {v : Value} {l : List Nat} (h : SlAt w b v (U l)) (hl : l.length ≤ 3000) : Calls Tryd.prog 30 #[v] w fun e w' => ∃ b' p cap, e = .returned (.slice p l.length cap) ∧ w.heap.size ≤ b' ∧ SlAt w' b' (.slice p l.length cap) (U l) ∧ Below w.heap.size w w' := by
  have hnil := eql_nil
  have hsl := h
  obtain ⟨p, cap, hv, h1, h2⟩ := h.form
  rw [U_length] at hv h1
  unfold maxLen at h2
  subst hv
  cases p with
  | none =>
    have hl0 : l = [] ∧ cap = 0 := by
      rcases h with ⟨e, e2⟩ | ⟨a, c, e, _⟩
      · simp at e
        exact ⟨by simpa [U] using e2, e.2⟩
      · cases e
    obtain ⟨rfl, rfl⟩ := hl0
    go_enter Tryd.func30, Tryd.ntmps30
    go_wp2
    go_ret
    exact ⟨w.heap.size, none, 0, rfl, Nat.le_refl _, SlAt.nil _ _, Below.refl _ _⟩
  | some a =>
    have hown0 : (w.alloc (.cells #[] 5)).ownsRow w.heap.size 5 1 (.slice (some ⟨w.heap.size, 0, none⟩) 0 0) 0 [] := World.ownsRow_made w #[] 0 (Nat.le_refl _) (Nat.zero_le _) rfl
    have hs0 : SlAt (w.alloc (.cells #[] 5)) b (.slice (some a) l.length cap) (U l) := hsl.stays (by go_grown)
    have HO := hid2 hown0
    have HS := hid2 hs0
    clear h hsl hown0 hs0
    go_enter Tryd.func30, Tryd.ntmps30
    go_wp2_with (at_builtin; refine wpList_append_sl _ rfl _ _ rfl w.heap.size _ 0 [] rfl HO.out b _ l rfl HS.out (by omega) (by simp) ?_; intro v1 w1 hown1 hgrow1)
    go_ret
    rw [Nat.zero_add, List.nil_append] at hown1
    obtain ⟨b1, hb1, hs1⟩ := own_sl hown1
    obtain ⟨p1, c1, e1, _, _⟩ := hs1.form
    rw [U_length] at e1
    subst e1
    exact ⟨b1, p1, c1, rfl, hb1, hs1, ((Below.refl _ _).alloc (Nat.le_refl _) _).grown hgrow1 (by simp) (fun k hk => by cases hk; exact Nat.le_refl _)⟩
end Go.Proofs.YtcdcdlofgeoonaaDoor
