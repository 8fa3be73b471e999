/-
  What a device does, act by act: the walk of the first sentence.
-/
import Derived.Test.YtfogocappakbdaaDoorWorks
namespace Go.Proofs.YtfogocappakbdaaDoor
open Go.RowKit

theorem sim_new (p : Int) : Sim (newP p) ⟨p, [], [], -1, false, 0⟩ :=
  ⟨rfl, ⟨List.Pairwise.nil, by simp, fun k => rfl⟩, rfl, by simp, rfl, rfl, fun _ => .inl rfl⟩
theorem CellsAt.nil' (w : World) : CellsAt w (.slice none 0 0) [] := ⟨⟨none, 0, rfl, Nat.le_refl _, by unfold maxLen; omega, rfl, .inl rfl⟩, by simp⟩
theorem LooseAt.nil' (w : World) : LooseAt w (.slice none 0 0) [] := ⟨⟨none, 0, rfl, Nat.le_refl _, by unfold maxLen; omega, rfl, .inl rfl⟩, by simp⟩
theorem rf_new (w : World) (p : Int) : RfAt w (.agg #[.int .i64 p, .slice none 0 0, .slice none 0 0, .int .i64 (-1), .bool false, .int .i64 0]) ⟨p, [], [], -1, false, 0⟩ 0 := by
  refine ⟨none, 0, none, 0, [], [], rfl, ?_, fun _ => rfl, rfl, ?_, fun _ => rfl, rfl, by simp, by simp, by simp, by simp, by simp⟩
  · exact CellsAt.nil' w
  · exact LooseAt.nil' w

set_option maxHeartbeats 4000000 in
set_option maxRecDepth 10000 in
theorem does_out {w : World} {v : Value} {os : List Act4} {pages : Int} (hA : ActsAt w w.heap.size v os) (hE : ErrT w) (h0 : 0 < w.heap.size) (hout : lightB os = false ∨ (30 < pages ∧ pages ≤ 4096)) :
    Calls Tryd.prog 3 #[.int .i64 pages, v] w fun e w' => e = .returned (.bool true) ∧ Below w.heap.size w w' := by
  have HA := hid2 hA
  have HE := hid2 hE
  clear hA hE
  have HK : Hid (Calls Tryd.prog 7 #[v] w fun e w' => e = .returned (.bool (lightB os)) ∧ w' = w) := light_any HA.out
  rcases hout with h1 | ⟨h1, h2⟩
  · rw [h1] at HK
    go_enter Tryd.func3, Tryd.ntmps3
    go_wp2_with (first | (go_at_call 7; refine (show Calls _ _ _ _ _ from HK).mono ?_; rintro e wa ⟨rfl, hww⟩; cases hww) | (go_at_call 8; refine (works_any _ HE.out h0).mono ?_; rintro e wa ⟨rfl, hww⟩))
    go_ret
    exact ⟨rfl, hww⟩
  · generalize lightB os = lb at HK
    cases lb
    · go_enter Tryd.func3, Tryd.ntmps3
      go_wp2_with (first | (go_at_call 7; refine (show Calls _ _ _ _ _ from HK).mono ?_; rintro e wa ⟨rfl, hww⟩; cases hww) | (go_at_call 8; refine (works_any _ HE.out h0).mono ?_; rintro e wa ⟨rfl, hww⟩))
      go_ret
      exact ⟨rfl, hww⟩
    · go_enter Tryd.func3, Tryd.ntmps3
      go_wp2_with (first | (go_at_call 7; refine (show Calls _ _ _ _ _ from HK).mono ?_; rintro e wa ⟨rfl, hww⟩; cases hww) | (go_at_call 8; refine (works_any _ HE.out h0).mono ?_; rintro e wa ⟨rfl, hww⟩))
      go_ret
      exact ⟨rfl, hww⟩

set_option maxHeartbeats 4000000 in
set_option maxRecDepth 10000 in
theorem does_bad {w : World} {v : Value} {os : List Act4} {pages : Int} (hA : ActsAt w w.heap.size v os) (hE : ErrT w) (h0 : 0 < w.heap.size) (hl : lightB os = true) (hp : pages < 1 ∨ 4096 < pages) :
    Calls Tryd.prog 3 #[.int .i64 pages, v] w fun e w' => e = .returned (.bool true) ∧ Below w.heap.size w w' := by
  have HK : Hid (Calls Tryd.prog 7 #[v] w fun e w' => e = .returned (.bool (lightB os)) ∧ w' = w) := light_any hA
  rw [hl] at HK
  obtain ⟨p, cap, rfl, _⟩ := hA
  have HE := hid2 hE
  clear hE hl
  have h30 : (decide (30 < pages) && decide (pages ≤ 4096)) = false := by
    rcases hp with h | h
    · have : decide (30 < pages) = false := by simp; omega
      simp [this]
    · have : decide (pages ≤ 4096) = false := by simp; omega
      simp [this]
  have HP := hid2 hp
  have HN : Hid (Calls Tryd.prog 9 #[.int .i64 pages] w _) := new_bad pages w hp
  clear hp
  have H30 := hid2 h30
  clear h30
  by_cases h31 : 30 < pages
  · have h32 : ¬ pages ≤ 4096 := by have := H30.out; simp at this; omega
    go_enter Tryd.func3, Tryd.ntmps3
    go_wp2_with (first | (go_at_call 7; refine (show Calls _ _ _ _ _ from HK).mono ?_; rintro e wa ⟨rfl, hww⟩; cases hww) | (go_at_call 9; refine (show Calls _ _ _ _ _ from HN).mono ?_; rintro e w1 ⟨v1, rfl, hv1, hb1⟩; have HE1 := hid2 (HE.out.below hb1); have HB1 := hid2 hb1; have HV1 := hid2 hv1; clear hb1 hv1) | (go_at_call 10; refine (rnew_bad pages _ HP.out).mono ?_; rintro e w2 ⟨rfl, hb2⟩; have HE2 := hid2 (HE1.out.below hb2); have HV2 := hid2 (HV1.out.below hb2); have HB2 := hid2 (HB1.out.trans (hb2.mono HB1.out.size)); clear hb2) | (go_at_call 11; refine (of_code (HE2.out.below (by go_grown)) (HV2.out.below (by go_grown))).mono ?_; rintro e w3 ⟨rfl, hb3⟩))
    have HB3 := hid2 (HB2.out.trans ((Below.trans (by go_grown) (hb3.mono (by simp))).mono HB2.out.size))
    have HE3 := hid2 (HE.out.below HB3.out)
    clear hb3
    go_loop [9] (fun i => i = .int .i64 0) (fun _ => 0)
    case atStart => rfl
    case round =>
      subst hrel
      go_wp2_with (go_at_call 8; refine (works_any _ HE3.out (by have := HB3.out.size; omega)).mono ?_; rintro e w4 ⟨rfl, hb4⟩)
      all_goals (go_ret; exact ⟨rfl, HB3.out.trans (hb4.mono HB3.out.size)⟩)
  · go_enter Tryd.func3, Tryd.ntmps3
    go_wp2_with (first | (go_at_call 7; refine (show Calls _ _ _ _ _ from HK).mono ?_; rintro e wa ⟨rfl, hww⟩; cases hww) | (go_at_call 9; refine (show Calls _ _ _ _ _ from HN).mono ?_; rintro e w1 ⟨v1, rfl, hv1, hb1⟩; have HE1 := hid2 (HE.out.below hb1); have HB1 := hid2 hb1; have HV1 := hid2 hv1; clear hb1 hv1) | (go_at_call 10; refine (rnew_bad pages _ HP.out).mono ?_; rintro e w2 ⟨rfl, hb2⟩; have HE2 := hid2 (HE1.out.below hb2); have HV2 := hid2 (HV1.out.below hb2); have HB2 := hid2 (HB1.out.trans (hb2.mono HB1.out.size)); clear hb2) | (go_at_call 11; refine (of_code (HE2.out.below (by go_grown)) (HV2.out.below (by go_grown))).mono ?_; rintro e w3 ⟨rfl, hb3⟩))
    have HB3 := hid2 (HB2.out.trans ((Below.trans (by go_grown) (hb3.mono (by simp))).mono HB2.out.size))
    have HE3 := hid2 (HE.out.below HB3.out)
    clear hb3
    go_loop [9] (fun i => i = .int .i64 0) (fun _ => 0)
    case atStart => rfl
    case round =>
      subst hrel
      go_wp2_with (go_at_call 8; refine (works_any _ HE3.out (by have := HB3.out.size; omega)).mono ?_; rintro e w4 ⟨rfl, hb4⟩)
      all_goals (go_ret; exact ⟨rfl, HB3.out.trans (hb4.mono HB3.out.size)⟩)


theorem acts_el : True := trivial
theorem parts6 {w : World} {x0 x1 x2 x3 x4 x5 : Value} {r : Rf} {N : Nat} (h : RfAt w (.agg #[x0, x1, x2, x3, x4, x5]) r N) : x0.oneCell' = true ∧ x1.oneCell' = true ∧ x2.oneCell' = true ∧ x3.oneCell' = true ∧ x4.oneCell' = true ∧ x5.oneCell' = true := by
  obtain ⟨y0, y1, y2, y3, y4, y5, h1, h2⟩ := h.parts
  cases h1
  exact h2

set_option maxHeartbeats 4000000 in
set_option maxRecDepth 10000 in
theorem does_good {w : World} {v : Value} {os : List Act4} {pages : Int} (hA : ActsAt w w.heap.size v os) (hE : ErrT w) (h0 : 0 < w.heap.size) (hl : lightB os = true) (hp : 1 ≤ pages) (hp30 : pages ≤ 30) :
    Calls Tryd.prog 3 #[.int .i64 pages, v] w fun e w' => e = .returned (.bool true) ∧ Below w.heap.size w w' := by
  have HK : Hid (Calls Tryd.prog 7 #[v] w fun e w' => e = .returned (.bool (lightB os)) ∧ w' = w) := light_any hA
  have h40 := light_len hl
  rw [hl] at HK
  have HA := hid2 hA
  obtain ⟨p, cap, rfl, hcap, hmax, _⟩ := hA
  unfold maxLen at hmax
  have HE := hid2 hE
  clear hE hl
  have h31 : ¬ 30 < pages := by omega
  go_enter Tryd.func3, Tryd.ntmps3
  go_wp2_with (first | (go_at_call 7; refine (show Calls _ _ _ _ _ from HK).mono ?_; rintro e wa ⟨rfl, hww⟩; cases hww) | (go_at_call 9; refine (new_good pages _ (B := w.heap.size) (Nat.le_refl _) hp (by omega)).mono ?_; rintro e w1 ⟨g, rfl, hF1, hb1⟩; have HE1 := hid2 (HE.out.below hb1); have HB1 := hid2 hb1; have HF1 := hid2 hF1; clear hb1 hF1) | (go_at_call 10; refine (rnew_good pages _ hp (by omega)).mono ?_; rintro e w2 ⟨rfl, hb2⟩; have HE2 := hid2 (HE1.out.below hb2); have HF2 := hid2 (HF1.out.below hb2); have HB2 := hid2 (HB1.out.trans (hb2.mono HB1.out.size)); clear hb2) | (go_at_call 11; refine (of_code (HE2.out.below (by go_grown)) (.inl ⟨rfl, rfl⟩)).mono ?_; rintro e w3 ⟨rfl, hb3⟩))
  have hb23 : Below w2.heap.size w2 w3 := Below.trans (by go_grown) (hb3.mono (by simp))
  have HB3 := hid2 (HB2.out.trans (hb23.mono HB2.out.size))
  have HF3 := hid2 (HF2.out.below hb23)
  have H73 : Hid (w3.heap[w2.heap.size]? = some (.cells #[.int .i64 pages, .slice none 0 0, .slice none 0 0, .int .i64 (-1), .bool false, .int .i64 0] 33 (0, 0))) := heap_stays (heap_alloc_last _ _) hb3
  have hs2 := HB2.out.size
  clear hb3 hb23
  generalize hb7 : w2.heap.size = b7 at *
  clear hb7
  go_loopw [9] (fun i wr => ∃ (k : Nat) (d : Dev) (r : Rf) (x0 x1 x2 x3 x4 x5 : Value), i = .int .i64 (k : Int) ∧ k ≤ os.length ∧ wr.heap[b7]? = some (.cells #[x0, x1, x2, x3, x4, x5] 33 (0, 0)) ∧ Fl wr w.heap.size g k d ∧ RfAt wr (.agg #[x0, x1, x2, x3, x4, x5]) r k ∧ Sim d r ∧ Fr w.heap.size w wr) (fun i _ => os.length - (intOf i).toNat)
  case atStart => exact ⟨0, _, _, _, _, _, _, _, _, rfl, Nat.zero_le _, H73.out, HF3.out, rf_new _ _, sim_new _, Below.fr HB3.out⟩
  case round =>
    obtain ⟨k, d, r, x0, x1, x2, x3, x4, x5, rfl, hk, h7, hF, hR, hS, hfr⟩ := hrel
    by_cases hlt : k < os.length
    · have hki : (k : Int) < (os.length : Int) := by omega
      obtain ⟨o, ho⟩ : ∃ o, os[k]? = some o := ⟨_, List.getElem?_eq_getElem hlt⟩
      obtain ⟨p9, c9, e9, _, _, hel⟩ := HA.out.fr hfr
      cases e9
      obtain ⟨hok, bb, off, rfl, hbB, hbs, c0, c1, c2, c3, c4, c5⟩ := hel k o ho
      clear hel ho
      obtain ⟨kind, at_, a, b, n, keep, kv⟩ := o
      have hok' := hok
      obtain ⟨⟨kp, kc, hkv, _⟩, _⟩ := hok
      dsimp only at hkv c0 c1 c2 c3 c4 c5
      subst hkv
      have HDO : Hid (∀ w', Below wr.heap.size wr w' → Calls Tryd.prog 12 #[.pointer (some ⟨g, 0, none⟩), .agg #[x0, x1, x2, x3, x4, x5], .agg #[.int .i64 kind, .int .i64 at_, .int .u8 (a : Int), .int .u8 (b : Int), .int .i64 n, .slice kp keep.length kc]] w' fun e w'' => ∃ y0 y1 y2 y3 y4 y5, e = .returned (.tuple #[.agg #[y0, y1, y2, y3, y4, y5], .bool true]) ∧ DoneAt w' w'' w.heap.size g (k + 1) (doP d ⟨kind, at_, a, b, n, keep, .slice kp keep.length kc⟩) (.agg #[y0, y1, y2, y3, y4, y5])) := fun w' hf' => by
        exact do_any (hF.below hf') (hR.below hf') hS (HE.out.fr (hfr.trans (Below.fr hf')) h0) h0 (by omega) _ (hok'.fr (Below.fr hf'))
      have HS7 : Hid (wr.heap[b7]? = some (.cells #[x0, x1, x2, x3, x4, x5] 33 (0, 0))) := h7
      have HSXF : Hid (∀ w', Fr w.heap.size wr w' → w'.cell? ⟨bb, off + k * 6, none⟩ = some (.int .i64 kind) ∧ w'.cell? ⟨bb, off + k * 6 + 1, none⟩ = some (.int .i64 at_) ∧ w'.cell? ⟨bb, off + k * 6 + 2, none⟩ = some (.int .u8 (a : Int)) ∧ w'.cell? ⟨bb, off + k * 6 + 3, none⟩ = some (.int .u8 (b : Int)) ∧ w'.cell? ⟨bb, off + k * 6 + 4, none⟩ = some (.int .i64 n) ∧ w'.cell? ⟨bb, off + k * 6 + 5, none⟩ = some (.slice kp keep.length kc)) := fun w' hf' => ⟨(hf'.cell hbB hbs _).trans c0, (hf'.cell hbB hbs _).trans c1, (hf'.cell hbB hbs _).trans c2, (hf'.cell hbB hbs _).trans c3, (hf'.cell hbB hbs _).trans c4, (hf'.cell hbB hbs _).trans c5⟩
      have hfrd : Fr w.heap.size wr wr.drew := Below.fr (Below.refl _ _).drew
      have HFRW := hid2 hfr
      clear c0 c1 c2 c3 c4 c5 h7 hF hR hS hfr
      go_wp2_with fail
      refine wp_region_held_drew (S := fun w' => w'.heap[b7]? = some (.cells #[x0, x1, x2, x3, x4, x5] 33 (0, 0)) ∧ w'.cell? ⟨bb, off + k * 6, none⟩ = some (.int .i64 kind) ∧ w'.cell? ⟨bb, off + k * 6 + 1, none⟩ = some (.int .i64 at_) ∧ w'.cell? ⟨bb, off + k * 6 + 2, none⟩ = some (.int .u8 (a : Int)) ∧ w'.cell? ⟨bb, off + k * 6 + 3, none⟩ = some (.int .u8 (b : Int)) ∧ w'.cell? ⟨bb, off + k * 6 + 4, none⟩ = some (.int .i64 n) ∧ w'.cell? ⟨bb, off + k * 6 + 5, none⟩ = some (.slice kp keep.length kc)) (by kernel_rfl) (⟨HS7.out, HSXF.out _ hfrd⟩) (fun hS => ?_)
      change wpAnyH _ _ _ _ _ _ _ _ (World.drew _)
      refine wpAnyH_take (i := 0) (v := .pointer (some ⟨g, 0, none⟩)) rfl (by kernel_rfl) (by kernel_rfl) (by kernel_rfl) (fun _ _ _ h => h) (Or.inl ⟨by kernel_rfl, ?_⟩) hS ?_
      · intro w hw; clear hw; go_simp
      change wpAnyH _ _ _ _ _ _ _ (Act.put _ (some 56) _) _
      simp only [Act.put, List.setIfInBounds_toArray, List.set_cons_succ, List.set_cons_zero]
      refine wpAnyH_take (i := 1) (v := .agg #[x0, x1, x2, x3, x4, x5]) rfl (by kernel_rfl) (by kernel_rfl) (by kernel_rfl) (fun _ _ _ h => h) (Or.inl ⟨by kernel_rfl, ?_⟩) hS ?_
      · intro W hw
        obtain ⟨⟨q0, q1, q2, q3, q4, q5⟩, _⟩ := six' hw.1
        clear hw
        go_simp
      change wpAnyH _ _ _ _ _ _ _ (Act.put _ (some 57) _) _
      simp only [Act.put, List.setIfInBounds_toArray, List.set_cons_succ, List.set_cons_zero]
      refine wpAnyH_take (i := 2) (v := .slice (some ⟨bb, off, none⟩) os.length cap) rfl (by kernel_rfl) (by kernel_rfl) (by kernel_rfl) (fun _ _ _ h => h) (Or.inl ⟨by kernel_rfl, ?_⟩) hS ?_
      · intro w hw; clear hw; go_simp
      change wpAnyH _ _ _ _ _ _ _ (Act.put _ (some 58) _) _
      simp only [Act.put, List.setIfInBounds_toArray, List.set_cons_succ, List.set_cons_zero]
      refine wpAnyH_take (i := 3) (v := .int .i64 (k : Int)) rfl (by kernel_rfl) (by kernel_rfl) (by kernel_rfl) (fun _ _ _ h => h) (Or.inl ⟨by kernel_rfl, ?_⟩) hS ?_
      · intro w hw; clear hw; go_simp
      change wpAnyH _ _ _ _ _ _ _ (Act.put _ (some 59) _) _
      simp only [Act.put, List.setIfInBounds_toArray, List.set_cons_succ, List.set_cons_zero]
      refine wpAnyH_take (i := 4) (v := .pointer (some ⟨bb, off + k * 6, none⟩)) rfl (by kernel_rfl) (by kernel_rfl) (by kernel_rfl) (fun _ _ _ h => h) (Or.inl ⟨by kernel_rfl, ?_⟩) hS ?_
      · intro w hw; clear hw; go_simp
      change wpAnyH _ _ _ _ _ _ _ (Act.put _ (some 60) _) _
      simp only [Act.put, List.setIfInBounds_toArray, List.set_cons_succ, List.set_cons_zero]
      refine wpAnyH_take (i := 5) (v := .agg #[.int .i64 kind, .int .i64 at_, .int .u8 (a : Int), .int .u8 (b : Int), .int .i64 n, .slice kp keep.length kc]) rfl (by kernel_rfl) (by kernel_rfl) (by kernel_rfl) (fun _ _ _ h => h) (Or.inl ⟨by kernel_rfl, ?_⟩) hS ?_
      · intro W hw
        obtain ⟨_, q0, q1, q2, q3, q4, q5⟩ := hw
        go_simp
      change wpAnyH _ _ _ _ _ _ _ (Act.put _ (some 61) _) _
      simp only [Act.put, List.setIfInBounds_toArray, List.set_cons_succ, List.set_cons_zero]
      refine wpAnyH_ready (rs := [6, 10]) (by kernel_rfl) (by simp) ?_
      refine AllReadyH.cons rfl (fun K hK => ?_) (AllReadyH.cons rfl (fun K hK => ?_) AllReadyH.nil)
      · go_simp
        go_wp2_with (go_at_call 12; refine (HDO.out _ (by go_grown)).mono ?_; rintro e w4 ⟨z0, z1, z2, z3, z4, z5, rfl, r', hF4, hR4, hS4, hfr4⟩)
        have hfrA : Fr w.heap.size wr w4 := hfrd.trans hfr4
        refine hK.out _ _ (⟨heap_fr hfrA HS7.out, HSXF.out _ hfrA⟩) (fun hS => ?_)
        clear hK K
        skip
        refine wpAnyH_take (i := 7) (v := .tuple #[.agg #[z0, z1, z2, z3, z4, z5], .bool true]) rfl (by kernel_rfl) (by kernel_rfl) (by kernel_rfl) (fun _ _ _ h => h) (Or.inl ⟨by kernel_rfl, ?_⟩) hS ?_
        · intro w hw; clear hw; go_simp
        change wpAnyH _ _ _ _ _ _ _ (Act.put _ (some 55) _) _
        simp only [Act.put, List.setIfInBounds_toArray, List.set_cons_succ, List.set_cons_zero]
        refine wpAnyH_take (i := 8) (v := .agg #[z0, z1, z2, z3, z4, z5]) rfl (by kernel_rfl) (by kernel_rfl) (by kernel_rfl) (fun _ _ _ h => h) (Or.inl ⟨by kernel_rfl, ?_⟩) hS ?_
        · intro w hw; clear hw; go_simp
        change wpAnyH _ _ _ _ _ _ _ (Act.put _ (some 63) _) _
        simp only [Act.put, List.setIfInBounds_toArray, List.set_cons_succ, List.set_cons_zero]
        refine wpAnyH_take (i := 9) (v := .bool true) rfl (by kernel_rfl) (by kernel_rfl) (by kernel_rfl) (fun _ _ _ h => h) (Or.inl ⟨by kernel_rfl, ?_⟩) hS ?_
        · intro w hw; clear hw; go_simp
        change wpAnyH _ _ _ _ _ _ _ (Act.put _ (some 64) _) _
        simp only [Act.put, List.setIfInBounds_toArray, List.set_cons_succ, List.set_cons_zero]
        refine wpAnyH_ready (rs := [10]) (by kernel_rfl) (by simp) ?_
        refine AllReadyH.cons rfl (fun K hK => ?_) AllReadyH.nil
        go_simp
        go_wp2_with fail
        refine hK.out _ _ (⟨heap_fr (hfrA.trans (Below.fr (B := w.heap.size) (by go_grown))) HS7.out, HSXF.out _ (hfrA.trans (Below.fr (B := w.heap.size) (by go_grown)))⟩) (fun hS => ?_)
        clear hK K
        skip
        have hz10 : (w4.alloc (.cells #[.int .i64 0, .slice none 0 0, .slice none 0 0, .int .i64 0, .bool false, .int .i64 0] 33)).heap[w4.heap.size]? = some (.cells #[.int .i64 0, .slice none 0 0, .slice none 0 0, .int .i64 0, .bool false, .int .i64 0] 33 (0, 0)) := heap_alloc_last _ _
        have hfra : Fr w.heap.size wr (w4.alloc (.cells #[.int .i64 0, .slice none 0 0, .slice none 0 0, .int .i64 0, .bool false, .int .i64 0] 33)) := hfrA.trans (Below.fr (B := w.heap.size) (by go_grown))
        have hFa := hF4.below (w' := w4.alloc (.cells #[.int .i64 0, .slice none 0 0, .slice none 0 0, .int .i64 0, .bool false, .int .i64 0] 33)) (by go_grown)
        have hRa := hR4.below (w' := w4.alloc (.cells #[.int .i64 0, .slice none 0 0, .slice none 0 0, .int .i64 0, .bool false, .int .i64 0] 33)) (by go_grown)
        refine wpAnyH_ready (rs := [11]) (by kernel_rfl) (by simp) ?_
        refine AllReadyH.cons rfl (fun K hK => ?_) AllReadyH.nil
        refine step_st33 rfl (.tmp 10) (.tmp 63) rfl w4.heap.size rfl _ _ _ _ _ _ _ hz10 rfl rfl (parts6 hRa) ?_
        intro w5 hw5 hg5
        have hfr5 : Fr w.heap.size wr w5 := hfra.local hg5 hfrA.size
        refine hK.out _ _ (⟨heap_fr hfr5 HS7.out, HSXF.out _ hfr5⟩) (fun hS => ?_)
        clear hK K
        change wpAnyH _ _ _ _ _ _ _ (Act.put _ (none) _) _
        simp only [Act.put]
        refine wpAnyH_take (i := 12) (v := .bool true) rfl (by kernel_rfl) (by kernel_rfl) (by kernel_rfl) (fun _ _ _ h => h) (Or.inl ⟨by kernel_rfl, ?_⟩) hS ?_
        · intro w hw; clear hw; go_simp
        change wpAnyH _ _ _ _ _ _ _ (Act.put _ (some 11) _) _
        simp only [Act.put, List.setIfInBounds_toArray, List.set_cons_succ, List.set_cons_zero]
        refine wpAnyH_done (by kernel_rfl) ?_ _
        have HF5 := hid2 (hFa.box hz10 hg5)
        have HR5 := hid2 (hRa.box hz10 hg5)
        have HSM := hid2 hS4
        have HW5 := hid2 hw5
        have H75 := hid2 (heap_fr hfr5 HS7.out)
        have HFR5 := hid2 hfr5
        have HL7 : b7 < w5.heap.size := (Array.getElem?_eq_some_iff.1 H75.out).1
        obtain ⟨⟨p0, p1, p2, p3, p4, p5⟩, _⟩ := six' hw5
        clear hF4 hR4 hS4 hfr4 hFa hRa hz10 hw5 hg5 hfr5
        go_wp2_with (refine st33 rfl (.tmp 7) (.tmp 65) rfl b7 rfl _ _ _ _ _ _ _ H75.out rfl rfl (parts6 HR5.out) ?_; intro w6 hw6 hg6; obtain ⟨⟨q0, q1, q2, q3, q4, q5⟩, _⟩ := six' hw6; have HF6 := hid2 (HF5.out.box H75.out hg6); have HR6 := hid2 (HR5.out.box H75.out hg6); have HFR6 := hid2 ((HFRW.out.trans HFR5.out).local hg6 hs2); have HW6 := hid2 hw6; clear hw6 hg6)
        refine (same_any HF6.out HR6.out HSM.out (by omega)).mono ?_
        rintro e w7 ⟨rfl, hb7⟩
        have HB7 := hid2 hb7
        clear hb7
        go_wp2_with fail
        go_round
        case rel => exact ⟨k + 1, _, _, z0, z1, z2, z3, z4, z5, by go_num, by omega, heap_stays HW6.out HB7.out, HF6.out.below HB7.out, HR6.out.below HB7.out, HSM.out, HFR6.out.trans (Below.fr HB7.out)⟩
        case measure => simp [intOf]; omega
      · go_simp
        go_wp2_with fail
        refine hK.out _ _ (⟨heap_fr (Below.fr (B := w.heap.size) (by go_grown)) HS7.out, HSXF.out _ (Below.fr (B := w.heap.size) (by go_grown))⟩) (fun hS => ?_)
        clear hK K
        skip
        refine wpAnyH_ready (rs := [6]) (by kernel_rfl) (by simp) ?_
        refine AllReadyH.cons rfl (fun K hK => ?_) AllReadyH.nil
        go_simp
        go_wp2_with (go_at_call 12; refine (HDO.out _ (by go_grown)).mono ?_; rintro e w4 ⟨z0, z1, z2, z3, z4, z5, rfl, r', hF4, hR4, hS4, hfr4⟩)
        have hfra : Fr w.heap.size wr w4 := (Below.fr (B := w.heap.size) (by go_grown)).trans hfr4
        have hz10 : w4.heap[wr.heap.size]? = some (.cells #[.int .i64 0, .slice none 0 0, .slice none 0 0, .int .i64 0, .bool false, .int .i64 0] 33 (0, 0)) := heap_fr hfr4 (heap_alloc_last _ _)
        have hFa := hF4
        have hRa := hR4
        refine hK.out _ _ (⟨heap_fr hfra HS7.out, HSXF.out _ hfra⟩) (fun hS => ?_)
        clear hK K
        skip
        refine wpAnyH_take (i := 7) (v := .tuple #[.agg #[z0, z1, z2, z3, z4, z5], .bool true]) rfl (by kernel_rfl) (by kernel_rfl) (by kernel_rfl) (fun _ _ _ h => h) (Or.inl ⟨by kernel_rfl, ?_⟩) hS ?_
        · intro w hw; clear hw; go_simp
        change wpAnyH _ _ _ _ _ _ _ (Act.put _ (some 55) _) _
        simp only [Act.put, List.setIfInBounds_toArray, List.set_cons_succ, List.set_cons_zero]
        refine wpAnyH_take (i := 8) (v := .agg #[z0, z1, z2, z3, z4, z5]) rfl (by kernel_rfl) (by kernel_rfl) (by kernel_rfl) (fun _ _ _ h => h) (Or.inl ⟨by kernel_rfl, ?_⟩) hS ?_
        · intro w hw; clear hw; go_simp
        change wpAnyH _ _ _ _ _ _ _ (Act.put _ (some 63) _) _
        simp only [Act.put, List.setIfInBounds_toArray, List.set_cons_succ, List.set_cons_zero]
        refine wpAnyH_take (i := 9) (v := .bool true) rfl (by kernel_rfl) (by kernel_rfl) (by kernel_rfl) (fun _ _ _ h => h) (Or.inl ⟨by kernel_rfl, ?_⟩) hS ?_
        · intro w hw; clear hw; go_simp
        change wpAnyH _ _ _ _ _ _ _ (Act.put _ (some 64) _) _
        simp only [Act.put, List.setIfInBounds_toArray, List.set_cons_succ, List.set_cons_zero]
        refine wpAnyH_ready (rs := [11]) (by kernel_rfl) (by simp) ?_
        refine AllReadyH.cons rfl (fun K hK => ?_) AllReadyH.nil
        refine step_st33 rfl (.tmp 10) (.tmp 63) rfl wr.heap.size rfl _ _ _ _ _ _ _ hz10 rfl rfl (parts6 hRa) ?_
        intro w5 hw5 hg5
        have hfr5 : Fr w.heap.size wr w5 := hfra.local hg5 (Nat.le_refl _)
        refine hK.out _ _ (⟨heap_fr hfr5 HS7.out, HSXF.out _ hfr5⟩) (fun hS => ?_)
        clear hK K
        change wpAnyH _ _ _ _ _ _ _ (Act.put _ (none) _) _
        simp only [Act.put]
        refine wpAnyH_take (i := 12) (v := .bool true) rfl (by kernel_rfl) (by kernel_rfl) (by kernel_rfl) (fun _ _ _ h => h) (Or.inl ⟨by kernel_rfl, ?_⟩) hS ?_
        · intro w hw; clear hw; go_simp
        change wpAnyH _ _ _ _ _ _ _ (Act.put _ (some 11) _) _
        simp only [Act.put, List.setIfInBounds_toArray, List.set_cons_succ, List.set_cons_zero]
        refine wpAnyH_done (by kernel_rfl) ?_ _
        have HF5 := hid2 (hFa.box hz10 hg5)
        have HR5 := hid2 (hRa.box hz10 hg5)
        have HSM := hid2 hS4
        have HW5 := hid2 hw5
        have H75 := hid2 (heap_fr hfr5 HS7.out)
        have HFR5 := hid2 hfr5
        have HL7 : b7 < w5.heap.size := (Array.getElem?_eq_some_iff.1 H75.out).1
        obtain ⟨⟨p0, p1, p2, p3, p4, p5⟩, _⟩ := six' hw5
        clear hF4 hR4 hS4 hfr4 hFa hRa hz10 hw5 hg5 hfr5
        go_wp2_with (refine st33 rfl (.tmp 7) (.tmp 65) rfl b7 rfl _ _ _ _ _ _ _ H75.out rfl rfl (parts6 HR5.out) ?_; intro w6 hw6 hg6; obtain ⟨⟨q0, q1, q2, q3, q4, q5⟩, _⟩ := six' hw6; have HF6 := hid2 (HF5.out.box H75.out hg6); have HR6 := hid2 (HR5.out.box H75.out hg6); have HFR6 := hid2 ((HFRW.out.trans HFR5.out).local hg6 hs2); have HW6 := hid2 hw6; clear hw6 hg6)
        refine (same_any HF6.out HR6.out HSM.out (by omega)).mono ?_
        rintro e w7 ⟨rfl, hb7⟩
        have HB7 := hid2 hb7
        clear hb7
        go_wp2_with fail
        go_round
        case rel => exact ⟨k + 1, _, _, z0, z1, z2, z3, z4, z5, by go_num, by omega, heap_stays HW6.out HB7.out, HF6.out.below HB7.out, HR6.out.below HB7.out, HSM.out, HFR6.out.trans (Below.fr HB7.out)⟩
        case measure => simp [intOf]; omega
    · have hki : ¬ ((k : Int) < (os.length : Int)) := by omega
      have HFR := hid2 hfr
      have hsz := hfr.size
      clear h7 hF hR hS hfr
      go_wp2_with (go_at_call 8; refine (works_any _ (HE.out.fr HFR.out h0) (by omega)).mono ?_; rintro e w4 ⟨rfl, hb4⟩)
      go_ret
      exact ⟨rfl, (HFR.out.trans (Below.fr hb4)).below (Nat.le_refl _)⟩

/-- The sentence's function answers true, whatever comes in. -/
theorem does_any {w : World} {v : Value} {os : List Act4} {pages : Int} (hA : ActsAt w w.heap.size v os) (hE : ErrT w) (h0 : 0 < w.heap.size) :
    Calls Tryd.prog 3 #[.int .i64 pages, v] w fun e w' => e = .returned (.bool true) ∧ Below w.heap.size w w' := by
  cases hl : lightB os with
  | false => exact does_out hA hE h0 (.inl hl)
  | true =>
    by_cases h1 : pages < 1 ∨ 4096 < pages
    · exact does_bad hA hE h0 hl h1
    · by_cases h2 : 30 < pages
      · exact does_out hA hE h0 (.inr ⟨h2, by omega⟩)
      · exact does_good hA hE h0 hl (by omega) (by omega)
end Go.Proofs.YtfogocappakbdaaDoor
