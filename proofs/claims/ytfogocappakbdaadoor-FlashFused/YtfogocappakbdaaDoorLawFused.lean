/-
  While the power is off nothing is answered but that, and nothing changes: the walk of that sentence.
-/
import Derived.Test.YtfogocappakbdaaDoorLawDoes
import Derived.Test.YtfogocappakbdaaDoorFirm
namespace Go.Proofs.YtfogocappakbdaaDoor
open Go.RowKit

theorem six42 {w : World} {b : Nat} {x0 x1 x2 x3 x4 x5 : Value} (h : w.heap[b]? = some (.cells #[x0, x1, x2, x3, x4, x5] 42 (0, 0))) :
    (w.cell? ⟨b, 0, none⟩ = some x0 ∧ w.cell? ⟨b, 1, none⟩ = some x1 ∧ w.cell? ⟨b, 2, none⟩ = some x2 ∧ w.cell? ⟨b, 3, none⟩ = some x3 ∧ w.cell? ⟨b, 4, none⟩ = some x4 ∧ w.cell? ⟨b, 5, none⟩ = some x5) ∧ b < w.heap.size := by
  refine ⟨?_, (Array.getElem?_eq_some_iff.1 h).1⟩
  simp [World.cell?, h]

set_option maxHeartbeats 4000000 in
set_option maxRecDepth 10000 in
theorem fused_out {w : World} {v0 v1 : Value} {os os2 : List Act4} (hA : ActsAt w w.heap.size v0 os) (hA2 : ActsAt w w.heap.size v1 os2) (hE : ErrT w) (h0 : 0 < w.heap.size) (hout : lightB os = false ∨ lightB os2 = false) :
    Calls Tryd.prog 6 #[v0, v1] w fun e w' => e = .returned (.bool true) ∧ Below w.heap.size w w' := by
  have HE := hid2 hE
  have HK0 : Hid (Calls Tryd.prog 7 #[v0] w fun e w' => e = .returned (.bool (lightB os)) ∧ w' = w) := light_any hA
  have HK1 : Hid (Calls Tryd.prog 7 #[v1] w fun e w' => e = .returned (.bool (lightB os2)) ∧ w' = w) := light_any hA2
  clear hA hA2 hE
  generalize lightB os = l0 at *
  generalize lightB os2 = l1 at *
  cases l0
  · go_enter Tryd.func6, Tryd.ntmps6
    go_wp2_with fail
    refine (show Calls _ _ _ _ _ from HK0).mono ?_
    rintro e wa ⟨rfl, hww⟩
    cases hww
    go_wp2_with fail
    refine (works_any _ HE.out h0).mono ?_
    rintro e wa ⟨rfl, hww⟩
    go_wp2_with fail
    go_ret
    exact ⟨rfl, hww⟩
  · obtain rfl : l1 = false := by simpa using hout
    go_enter Tryd.func6, Tryd.ntmps6
    go_wp2_with fail
    refine (show Calls _ _ _ _ _ from HK0).mono ?_
    rintro e wa ⟨rfl, hww⟩
    cases hww
    go_wp2_with fail
    refine (show Calls _ _ _ _ _ from HK1).mono ?_
    rintro e wa ⟨rfl, hww⟩
    cases hww
    go_wp2_with fail
    refine (works_any _ HE.out h0).mono ?_
    rintro e wa ⟨rfl, hww⟩
    go_wp2_with fail
    go_ret
    exact ⟨rfl, hww⟩

set_option maxHeartbeats 8000000 in
set_option maxRecDepth 10000 in
theorem fused_good {w : World} {v0 v1 : Value} {os os2 : List Act4} (hA : ActsAt w w.heap.size v0 os) (hA2 : ActsAt w w.heap.size v1 os2) (hE : ErrT w) (h0 : 0 < w.heap.size) (hl : lightB os = true) (hl2 : lightB os2 = true) :
    Calls Tryd.prog 6 #[v0, v1] w fun e w' => e = .returned (.bool true) ∧ Below w.heap.size w w' := by
  have HK0 : Hid (Calls Tryd.prog 7 #[v0] w fun e w' => e = .returned (.bool (lightB os)) ∧ w' = w) := light_any hA
  have HK1 : Hid (Calls Tryd.prog 7 #[v1] w fun e w' => e = .returned (.bool (lightB os2)) ∧ w' = w) := light_any hA2
  have h40 := light_len hl
  have h41 := light_len hl2
  rw [hl] at HK0
  rw [hl2] at HK1
  have HA := hid2 hA
  have HA2 := hid2 hA2
  obtain ⟨p, cap, rfl, hcap, hmax, _⟩ := hA
  obtain ⟨p2, cap2, rfl, hcap2, hmax2, _⟩ := hA2
  unfold maxLen at hmax hmax2
  have HE := hid2 hE
  clear hE hl hl2
  go_enter Tryd.func6, Tryd.ntmps6
  go_wp2_with fail
  refine (show Calls _ _ _ _ _ from HK0).mono ?_
  rintro e wa ⟨rfl, hww⟩
  cases hww
  go_wp2_with fail
  refine (show Calls _ _ _ _ _ from HK1).mono ?_
  rintro e wa ⟨rfl, hww⟩
  cases hww
  go_wp2_with (first | (go_at_call 9; refine (new_good 9 _ (B := w.heap.size) (Nat.le_refl _) (by omega) (by omega)).mono ?_; rintro e w1 ⟨g, rfl, hF1, hb1⟩; have HB1 := hid2 hb1; have HF1 := hid2 hF1; clear hb1 hF1) | (go_at_call 10; refine (rnew_good 9 _ (by omega) (by omega)).mono ?_; rintro e w2 ⟨rfl, hb2⟩; have HF2 := hid2 (HF1.out.below hb2); have HB2 := hid2 (HB1.out.trans (hb2.mono HB1.out.size)); clear hb2))
  have HF3 : Hid (Fl (w2.alloc (.cells #[.int .i64 9, .slice none 0 0, .slice none 0 0, .int .i64 (-1), .bool false, .int .i64 0] 33)) w.heap.size g 0 (newP 9)) := HF2.out.below (by go_grown)
  have HB3 : Hid (Below w.heap.size w (w2.alloc (.cells #[.int .i64 9, .slice none 0 0, .slice none 0 0, .int .i64 (-1), .bool false, .int .i64 0] 33))) := HB2.out.trans ((Below.refl _ _).alloc (Nat.le_refl _) _ |>.mono HB2.out.size)
  have H73 : Hid ((w2.alloc (.cells #[.int .i64 9, .slice none 0 0, .slice none 0 0, .int .i64 (-1), .bool false, .int .i64 0] 33)).heap[w2.heap.size]? = some (.cells #[.int .i64 9, .slice none 0 0, .slice none 0 0, .int .i64 (-1), .bool false, .int .i64 0] 33 (0, 0))) := heap_alloc_last _ _
  have hs2 := HB2.out.size
  generalize hb7 : w2.heap.size = b7 at *
  generalize hw3 : w2.alloc (.cells #[.int .i64 9, .slice none 0 0, .slice none 0 0, .int .i64 (-1), .bool false, .int .i64 0] 33) = w3 at *
  clear hb7 hw3
  go_loopw [9] (fun i wr => ∃ (k : Nat) (d : Dev) (r : Rf) (x0 x1 x2 x3 x4 x5 : Value), i = .int .i64 (k : Int) ∧ k ≤ os.length ∧ wr.heap[b7]? = some (.cells #[x0, x1, x2, x3, x4, x5] 33 (0, 0)) ∧ Fl wr w.heap.size g k d ∧ RfAt wr (.agg #[x0, x1, x2, x3, x4, x5]) r k ∧ Sim d r ∧ d.pages = 9 ∧ Fr w.heap.size w wr) (fun i _ => os.length - (intOf i).toNat)
  case atStart => exact ⟨0, _, _, _, _, _, _, _, _, rfl, Nat.zero_le _, H73.out, HF3.out, rf_new _ _, sim_new _, rfl, Below.fr HB3.out⟩
  case round =>
    obtain ⟨k, d, r, x0, x1, x2, x3, x4, x5, rfl, hk, h7, hF, hR, hS, hpg, hfr⟩ := hrel
    by_cases hlt : k < os.length
    · have hki : (k : Int) < (os.length : Int) := by omega
      obtain ⟨o, ho⟩ : ∃ o, os[k]? = some o := ⟨_, List.getElem?_eq_getElem hlt⟩
      obtain ⟨p9, c9, e9, _, _, hel⟩ := HA.out
      cases e9
      obtain ⟨hok, bb, off, rfl, hbB, hbs, c0, c1, c2, c3, c4, c5⟩ := hel k o ho
      clear hel ho
      obtain ⟨kind, at_, a, b, n, keep, kv⟩ := o
      have hok' := hok
      obtain ⟨⟨kp, kc, hkv, _⟩, _⟩ := hok
      dsimp only at hkv c0 c1 c2 c3 c4 c5
      subst hkv
      have HDO : Hid (∀ w', Below wr.heap.size wr w' → Calls Tryd.prog 12 #[.pointer (some ⟨g, 0, none⟩), .agg #[x0, x1, x2, x3, x4, x5], .agg #[.int .i64 kind, .int .i64 at_, .int .u8 (a : Int), .int .u8 (b : Int), .int .i64 n, .slice kp keep.length kc]] w' fun e w'' => ∃ y0 y1 y2 y3 y4 y5, e = .returned (.tuple #[.agg #[y0, y1, y2, y3, y4, y5], .bool true]) ∧ DoneAt w' w'' w.heap.size g (k + 1) (doP d ⟨kind, at_, a, b, n, keep, .slice kp keep.length kc⟩) (.agg #[y0, y1, y2, y3, y4, y5])) := fun w' hf' => by
        exact do_any (hF.below hf') (hR.below hf') hS (HE.out.fr (hfr.trans (Below.fr hf')) h0) h0 (by omega) _ (hok'.fr (hfr.trans (Below.fr hf')))
      have HS7 : Hid (wr.heap[b7]? = some (.cells #[x0, x1, x2, x3, x4, x5] 33 (0, 0))) := h7
      have HSXF : Hid (∀ w', Fr w.heap.size w w' → w'.cell? ⟨bb, off + k * 6, none⟩ = some (.int .i64 kind) ∧ w'.cell? ⟨bb, off + k * 6 + 1, none⟩ = some (.int .i64 at_) ∧ w'.cell? ⟨bb, off + k * 6 + 2, none⟩ = some (.int .u8 (a : Int)) ∧ w'.cell? ⟨bb, off + k * 6 + 3, none⟩ = some (.int .u8 (b : Int)) ∧ w'.cell? ⟨bb, off + k * 6 + 4, none⟩ = some (.int .i64 n) ∧ w'.cell? ⟨bb, off + k * 6 + 5, none⟩ = some (.slice kp keep.length kc)) := fun w' hf' => ⟨(hf'.cell hbB hbs _).trans c0, (hf'.cell hbB hbs _).trans c1, (hf'.cell hbB hbs _).trans c2, (hf'.cell hbB hbs _).trans c3, (hf'.cell hbB hbs _).trans c4, (hf'.cell hbB hbs _).trans c5⟩
      have hfrd : Fr w.heap.size wr wr.drew := Below.fr (Below.refl _ _).drew
      have HFRW := hid2 hfr
      have HPG : Hid (∀ o, (doP d o).pages = 9) := fun o => (do_pages d o).trans hpg
      obtain ⟨⟨g0, g1, g2, g3, g4, g5⟩, _⟩ := six' h7
      clear c0 c1 c2 c3 c4 c5 h7 hF hR hS hfr hpg
      go_wp2_with fail
      refine wp_region_held_drew (S := fun w' => w'.cell? ⟨bb, off + k * 6, none⟩ = some (.int .i64 kind) ∧ w'.cell? ⟨bb, off + k * 6 + 1, none⟩ = some (.int .i64 at_) ∧ w'.cell? ⟨bb, off + k * 6 + 2, none⟩ = some (.int .u8 (a : Int)) ∧ w'.cell? ⟨bb, off + k * 6 + 3, none⟩ = some (.int .u8 (b : Int)) ∧ w'.cell? ⟨bb, off + k * 6 + 4, none⟩ = some (.int .i64 n) ∧ w'.cell? ⟨bb, off + k * 6 + 5, none⟩ = some (.slice kp keep.length kc)) (by kernel_rfl) (HSXF.out _ (HFRW.out.trans hfrd)) (fun hS => ?_)
      change wpAnyH _ _ _ _ _ _ _ _ (World.drew _)
      refine wpAnyH_take (i := 0) (v := .pointer (some ⟨g, 0, none⟩)) rfl (by kernel_rfl) (by kernel_rfl) (by kernel_rfl) (fun _ _ _ h => h) (Or.inl ⟨by kernel_rfl, ?_⟩) hS ?_
      · intro w hw; clear hw; go_simp
      change wpAnyH _ _ _ _ _ _ _ (Act.put _ (some 45) _) _
      simp only [Act.put, List.setIfInBounds_toArray, List.set_cons_succ, List.set_cons_zero]
      refine wpAnyH_take (i := 2) (v := .slice (some ⟨bb, off, none⟩) os.length cap) rfl (by kernel_rfl) (by kernel_rfl) (by kernel_rfl) (fun _ _ _ h => h) (Or.inl ⟨by kernel_rfl, ?_⟩) hS ?_
      · intro w hw; clear hw; go_simp
      change wpAnyH _ _ _ _ _ _ _ (Act.put _ (some 47) _) _
      simp only [Act.put, List.setIfInBounds_toArray, List.set_cons_succ, List.set_cons_zero]
      refine wpAnyH_take (i := 3) (v := .int .i64 (k : Int)) rfl (by kernel_rfl) (by kernel_rfl) (by kernel_rfl) (fun _ _ _ h => h) (Or.inl ⟨by kernel_rfl, ?_⟩) hS ?_
      · intro w hw; clear hw; go_simp
      change wpAnyH _ _ _ _ _ _ _ (Act.put _ (some 48) _) _
      simp only [Act.put, List.setIfInBounds_toArray, List.set_cons_succ, List.set_cons_zero]
      refine wpAnyH_take (i := 4) (v := .pointer (some ⟨bb, off + k * 6, none⟩)) rfl (by kernel_rfl) (by kernel_rfl) (by kernel_rfl) (fun _ _ _ h => h) (Or.inl ⟨by kernel_rfl, ?_⟩) hS ?_
      · intro w hw; clear hw; go_simp
      change wpAnyH _ _ _ _ _ _ _ (Act.put _ (some 49) _) _
      simp only [Act.put, List.setIfInBounds_toArray, List.set_cons_succ, List.set_cons_zero]
      refine wpAnyH_take (i := 5) (v := .agg #[.int .i64 kind, .int .i64 at_, .int .u8 (a : Int), .int .u8 (b : Int), .int .i64 n, .slice kp keep.length kc]) rfl (by kernel_rfl) (by kernel_rfl) (by kernel_rfl) (fun _ _ _ h => h) (Or.inl ⟨by kernel_rfl, ?_⟩) hS ?_
      · intro W hw
        obtain ⟨q0, q1, q2, q3, q4, q5⟩ := hw
        go_simp
      change wpAnyH _ _ _ _ _ _ _ (Act.put _ (some 50) _) _
      simp only [Act.put, List.setIfInBounds_toArray, List.set_cons_succ, List.set_cons_zero]
      refine wpAnyH_ready (rs := [1]) (by kernel_rfl) (by simp) ?_
      refine AllReadyH.cons rfl (fun K hK => ?_) AllReadyH.nil
      go_simp
      go_wp2_with fail
      refine hK.out _ _ (HSXF.out _ (HFRW.out.trans hfrd)) (fun hS => ?_)
      clear hK K
      skip
      refine wpAnyH_ready (rs := [6]) (by kernel_rfl) (by simp) ?_
      refine AllReadyH.cons rfl (fun K hK => ?_) AllReadyH.nil
      go_simp
      go_wp2_with (go_at_call 12; refine (HDO.out _ (by go_grown)).mono ?_; rintro e w4 ⟨z0, z1, z2, z3, z4, z5, rfl, r', hF4, hR4, hS4, hfr4⟩)
      have hfrA : Fr w.heap.size w w4 := (HFRW.out.trans hfrd).trans hfr4
      have hz7 : w4.heap[b7]? = some (.cells #[x0, x1, x2, x3, x4, x5] 33 (0, 0)) := heap_fr (hfrd.trans hfr4) HS7.out
      refine hK.out _ _ (HSXF.out _ hfrA) (fun hS => ?_)
      clear hK K
      skip
      refine wpAnyH_take (i := 7) (v := .tuple #[.agg #[z0, z1, z2, z3, z4, z5], .bool true]) rfl (by kernel_rfl) (by kernel_rfl) (by kernel_rfl) (fun _ _ _ h => h) (Or.inl ⟨by kernel_rfl, ?_⟩) hS ?_
      · intro w hw; clear hw; go_simp
      change wpAnyH _ _ _ _ _ _ _ (Act.put _ (some 44) _) _
      simp only [Act.put, List.setIfInBounds_toArray, List.set_cons_succ, List.set_cons_zero]
      refine wpAnyH_take (i := 8) (v := .agg #[z0, z1, z2, z3, z4, z5]) rfl (by kernel_rfl) (by kernel_rfl) (by kernel_rfl) (fun _ _ _ h => h) (Or.inl ⟨by kernel_rfl, ?_⟩) hS ?_
      · intro w hw; clear hw; go_simp
      change wpAnyH _ _ _ _ _ _ _ (Act.put _ (some 52) _) _
      simp only [Act.put, List.setIfInBounds_toArray, List.set_cons_succ, List.set_cons_zero]
      refine wpAnyH_take (i := 9) (v := .bool true) rfl (by kernel_rfl) (by kernel_rfl) (by kernel_rfl) (fun _ _ _ h => h) (Or.inl ⟨by kernel_rfl, ?_⟩) hS ?_
      · intro w hw; clear hw; go_simp
      change wpAnyH _ _ _ _ _ _ _ (Act.put _ (some 53) _) _
      simp only [Act.put, List.setIfInBounds_toArray, List.set_cons_succ, List.set_cons_zero]
      refine wpAnyH_ready (rs := [10]) (by kernel_rfl) (by simp) ?_
      refine AllReadyH.cons rfl (fun K hK => ?_) AllReadyH.nil
      refine step_st33 rfl (.tmp 7) (.tmp 52) rfl b7 rfl _ _ _ _ _ _ _ hz7 rfl rfl (parts6 hR4) ?_
      intro w5 hw5 hg5
      have hfr5 : Fr w.heap.size w w5 := hfrA.local hg5 hs2
      refine hK.out _ _ (HSXF.out _ hfr5) (fun hS => ?_)
      clear hK K
      change wpAnyH _ _ _ _ _ _ _ (Act.put _ (none) _) _
      simp only [Act.put]
      refine wpAnyH_done (by kernel_rfl) ?_ _
      have HF5 := hid2 (hF4.box hz7 hg5)
      have HR5 := hid2 (hR4.box hz7 hg5)
      have HSM := hid2 hS4
      have HW5 := hid2 hw5
      have HFR5 := hid2 hfr5
      clear hF4 hR4 hS4 hfr4 hfrA hz7 hw5 hg5 hfr5
      go_wp2_with fail
      go_round
      case rel => exact ⟨k + 1, _, _, z0, z1, z2, z3, z4, z5, by go_num, by omega, HW5.out, HF5.out, HR5.out, HSM.out, HPG.out _, HFR5.out⟩
      case measure => simp [intOf]; omega
    · have hki : ¬ ((k : Int) < (os.length : Int)) := by omega
      have HFR := hid2 hfr
      have hsz := hfr.size
      have HF := hid2 (hF.more (N' := 40) (by omega))
      have HP := hid2 hpg
      have H7 := hid2 h7
      have HR := hid2 (hR.more (N' := 40) (by omega))
      have HSM := hid2 hS
      clear h7 hF hR hS hfr hpg
      go_wp2_with fail
      refine (fuse_fl HF.out 0 (by omega) (by omega)).mono ?_
      rintro e w4a ⟨rfl, hF4, hfr4⟩
      have HF4a := hid2 hF4
      have HFR4a := hid2 (HFR.out.trans hfr4)
      clear hF4 hfr4
      have KD0 := down_fl HF4a.out
      have KD : Calls Tryd.prog 22 #[.pointer (some ⟨g, 0, none⟩)] w4a fun e w' => e = .returned (.bool d.down) ∧ w' = w4a := KD0
      clear KD0
      cases hdd : d.down
      · rw [hdd] at KD
        have HKD : Hid (Calls Tryd.prog 22 #[.pointer (some ⟨g, 0, none⟩)] w4a fun e w' => e = .returned (.bool false) ∧ w' = w4a) := KD
        obtain ⟨tb1, tb2⟩ := trim_burns hdd (by rw [HP.out]; omega)
        have TB1 := hid2 tb1
        have TB2 := hid2 tb2
        clear KD tb1 tb2
        go_wp2_with fail
        refine (show Calls _ _ _ _ _ from HKD).mono ?_
        rintro e wa ⟨rfl, hww⟩
        cases hww
        go_wp2_with fail
        refine (trim_any HF4a.out (by omega) 0).mono ?_
        rintro e w4b ⟨yv, rfl, hy, hF4, hfr4⟩
        rw [TB1.out] at hy
        have hD := TB2.out
        generalize (trimP (fuseP d 0) 0).1 = dd at *
        have HD := hid2 hD
        have HFR4b := hid2 (HFR4a.out.trans hfr4)
        have HF4b := hid2 hF4
        clear hF4 hfr4 hD
        go_wp2_with fail
        refine (of_code (HE.out.fr HFR4b.out h0) hy).mono ?_
        rintro e w4 ⟨rfl, hb4⟩
        have HFR4 := hid2 (HFR4b.out.trans (Below.fr hb4))
        have HF4 := hid2 (HF4b.out.below hb4)
        have KD2 := down_fl HF4.out
        rw [HD.out] at KD2
        have HKD2 : Hid (Calls Tryd.prog 22 #[.pointer (some ⟨g, 0, none⟩)] w4 fun e w' => e = .returned (.bool true) ∧ w' = w4) := KD2
        clear hy hb4 KD2
        go_wp2_with fail
        refine (show Calls _ _ _ _ _ from HKD2).mono ?_
        rintro e wa ⟨rfl, hww⟩
        cases hww
        go_wp2_with fail
        refine (cells_any HF4.out (by omega)).mono ?_
        rintro e w4c ⟨cv, cl, rfl, hcv, hcl, hb4c⟩
        have HC := hid2 hcv
        have HCL := hid2 hcl
        have HFRc := hid2 (HFR4.out.trans (Below.fr hb4c))
        have HFc := hid2 (HF4.out.below hb4c)
        obtain ⟨cp, cc, hcf, _⟩ := hcv.1.form
        subst hcf
        clear hcv hcl hb4c
        go_wp2_with fail
        go_loopw [11] (fun i wr => ∃ j : Nat, i = .int .i64 (j : Int) ∧ j ≤ os2.length ∧ Fl wr w.heap.size g (41 + 3 * j) dd ∧ CellsAt wr (.slice cp cl.length cc) cl ∧ Fr w.heap.size w wr) (fun i _ => os2.length - (intOf i).toNat)
        case atStart => exact ⟨0, rfl, Nat.zero_le _, HFc.out, HC.out, HFRc.out⟩
        case round =>

          obtain ⟨j, rfl, hj, hF5, hC5, hfr5⟩ := hrel
          have HC5 := hid2 hC5
          by_cases hjl : j < os2.length
          · have hji : (j : Int) < (os2.length : Int) := by omega
            obtain ⟨o, ho⟩ : ∃ o, os2[j]? = some o := ⟨_, List.getElem?_eq_getElem hjl⟩
            obtain ⟨p9, c9, e9, _, _, hel⟩ := HA2.out
            cases e9
            obtain ⟨hok, bb, off, rfl, hbB, hbs, c0, c1, c2, c3, c4, c5⟩ := hel j o ho
            clear hel ho
            obtain ⟨kind, at_, a, b, n, keep, kv⟩ := o
            obtain ⟨⟨kp, kc, hkv, _⟩, ha, hb, _⟩ := hok
            dsimp only at hkv c0 c1 c2 c3 c4 c5 ha hb
            subst hkv
            have hab : a < 256 ∧ b < 256 := ⟨ha, hb⟩
            replace c0 := (hfr5.cell hbB hbs _).trans c0
            replace c1 := (hfr5.cell hbB hbs _).trans c1
            replace c2 := (hfr5.cell hbB hbs _).trans c2
            replace c3 := (hfr5.cell hbB hbs _).trans c3
            replace c4 := (hfr5.cell hbB hbs _).trans c4
            replace c5 := (hfr5.cell hbB hbs _).trans c5
            have HFR5 := hid2 hfr5
            have HF5 := hid2 hF5
            clear hfr5 hF5 hC5 ha hb
            go_wp2_with fail
            have hb51 : Below wr.heap.size wr (wr.alloc (.cells #[.int .i64 kind, .int .i64 at_, .int .u8 (a : Int), .int .u8 (b : Int), .int .i64 n, .slice kp keep.length kc] 42)) := by go_grown
            refine (read_any (HF5.out.below hb51) (by omega) at_).mono ?_
            rintro e w6 ⟨v6, u6, rfl, hx6, hv6, hb6⟩
            rw [read_down HD.out] at hx6
            have HQ5 : Hid (Fr w.heap.size wr w6.drew) := (Below.fr hb51).trans ((Below.fr hb6).trans (Below.fr (Below.refl _ _).drew))
            have HQ6d : Hid (Fr w.heap.size w6.drew w6.drew) := Fr.refl _ _
            have HFR6d : Hid (Fr w.heap.size w w6.drew) := HFR5.out.trans HQ5.out
            have HF6d : Hid (Fl w6.drew w.heap.size g (41 + 3 * j) dd) := ((HF5.out.below hb51).below hb6).below (Below.refl _ _).drew
            have HX6d : Hid (Fault w6.drew u6 11) := hx6.below (Below.refl _ _).drew
            have HBX : Hid (w6.drew.heap[wr.heap.size]? = some (.cells #[.int .i64 kind, .int .i64 at_, .int .u8 (a : Int), .int .u8 (b : Int), .int .i64 n, .slice kp keep.length kc] 42 (0, 0))) := heap_stays (heap_alloc_last wr _) hb6.drew
            clear hx6 hv6 hb6 hb51 c0 c1 c2 c3 c4 c5
            go_wp2_with fail
            refine wp_region_held_drew (S := fun w' => w'.heap[wr.heap.size]? = some (.cells #[.int .i64 kind, .int .i64 at_, .int .u8 (a : Int), .int .u8 (b : Int), .int .i64 n, .slice kp keep.length kc] 42 (0, 0))) (by kernel_rfl) (HBX.out) (fun hS => ?_)
            change wpAnyH _ _ _ _ _ _ _ _ (World.drew _)
            refine wpAnyH_take (i := 0) (v := .pointer (some ⟨g, 0, none⟩)) rfl (by kernel_rfl) (by kernel_rfl) (by kernel_rfl) (fun _ _ _ h => h) (Or.inl ⟨by kernel_rfl, ?_⟩) hS ?_
            · intro w hw; clear hw; go_simp
            change wpAnyH _ _ _ _ _ _ _ (Act.put _ (some 89) _) _
            simp only [Act.put, List.setIfInBounds_toArray, List.set_cons_succ, List.set_cons_zero]
            refine wpAnyH_take (i := 1) (v := .pointer (some ⟨wr.heap.size, 1, none⟩)) rfl (by kernel_rfl) (by kernel_rfl) (by kernel_rfl) (fun _ _ _ h => h) (Or.inl ⟨by kernel_rfl, ?_⟩) hS ?_
            · intro w hw; clear hw; go_simp
            change wpAnyH _ _ _ _ _ _ _ (Act.put _ (some 90) _) _
            simp only [Act.put, List.setIfInBounds_toArray, List.set_cons_succ, List.set_cons_zero]
            refine wpAnyH_take (i := 2) (v := .int .i64 at_) rfl (by kernel_rfl) (by kernel_rfl) (by kernel_rfl) (fun _ _ _ h => h) (Or.inl ⟨by kernel_rfl, ?_⟩) hS ?_
            · intro W hw
              obtain ⟨⟨q0, q1, q2, q3, q4, q5⟩, _⟩ := six42 hw
              clear hw
              go_simp
            change wpAnyH _ _ _ _ _ _ _ (Act.put _ (some 91) _) _
            simp only [Act.put, List.setIfInBounds_toArray, List.set_cons_succ, List.set_cons_zero]
            refine wpAnyH_take (i := 3) (v := .pointer (some ⟨wr.heap.size, 2, none⟩)) rfl (by kernel_rfl) (by kernel_rfl) (by kernel_rfl) (fun _ _ _ h => h) (Or.inl ⟨by kernel_rfl, ?_⟩) hS ?_
            · intro w hw; clear hw; go_simp
            change wpAnyH _ _ _ _ _ _ _ (Act.put _ (some 92) _) _
            simp only [Act.put, List.setIfInBounds_toArray, List.set_cons_succ, List.set_cons_zero]
            refine wpAnyH_take (i := 4) (v := .int .u8 (a : Int)) rfl (by kernel_rfl) (by kernel_rfl) (by kernel_rfl) (fun _ _ _ h => h) (Or.inl ⟨by kernel_rfl, ?_⟩) hS ?_
            · intro W hw
              obtain ⟨⟨q0, q1, q2, q3, q4, q5⟩, _⟩ := six42 hw
              clear hw
              go_simp
            change wpAnyH _ _ _ _ _ _ _ (Act.put _ (some 93) _) _
            simp only [Act.put, List.setIfInBounds_toArray, List.set_cons_succ, List.set_cons_zero]
            refine wpAnyH_take (i := 5) (v := .pointer (some ⟨wr.heap.size, 3, none⟩)) rfl (by kernel_rfl) (by kernel_rfl) (by kernel_rfl) (fun _ _ _ h => h) (Or.inl ⟨by kernel_rfl, ?_⟩) hS ?_
            · intro w hw; clear hw; go_simp
            change wpAnyH _ _ _ _ _ _ _ (Act.put _ (some 94) _) _
            simp only [Act.put, List.setIfInBounds_toArray, List.set_cons_succ, List.set_cons_zero]
            refine wpAnyH_take (i := 6) (v := .int .u8 (b : Int)) rfl (by kernel_rfl) (by kernel_rfl) (by kernel_rfl) (fun _ _ _ h => h) (Or.inl ⟨by kernel_rfl, ?_⟩) hS ?_
            · intro W hw
              obtain ⟨⟨q0, q1, q2, q3, q4, q5⟩, _⟩ := six42 hw
              clear hw
              go_simp
            change wpAnyH _ _ _ _ _ _ _ (Act.put _ (some 95) _) _
            simp only [Act.put, List.setIfInBounds_toArray, List.set_cons_succ, List.set_cons_zero]
            refine wpAnyH_ready (rs := [7]) (by kernel_rfl) (by simp) ?_
            refine AllReadyH.cons rfl (fun K hK => ?_) AllReadyH.nil
            go_simp
            go_wp2_with (go_at_call 19; refine (bytes_at _ a b _ rfl).mono ?_; rintro e w7 ⟨rfl, hh7, hb7⟩)
            have HBV := hid2 (row5 hh7 (bytN_length a b 256) (n := 256) (by omega))
            have HFR7 := hid2 (HFR6d.out.trans (Below.fr hb7))
            have HF7 := hid2 (HF6d.out.below hb7)
            have HX7 := hid2 (HX6d.out.below hb7)
            have HQ7 := hid2 (HQ6d.out.trans (Below.fr (B := w.heap.size) hb7))
            clear hh7 hb7
            refine hK.out _ _ (heap_fr (B := w.heap.size) HQ7.out HBX.out) (fun hS => ?_)
            clear hK K
            skip
            refine wpAnyH_ready (rs := [8]) (by kernel_rfl) (by simp) ?_
            refine AllReadyH.cons rfl (fun K hK => ?_) AllReadyH.nil
            go_simp
            go_wp2_with (go_at_call 18; refine (write_any HF7.out (by omega) at_ HBV.out (fun x hx => bytN_byt hab.1 hab.2 256 x (List.mem_of_mem_take hx))).mono ?_; rintro e w8 ⟨y8, rfl, hy8, hF8, hfr8⟩)
            rw [write_down HD.out] at hy8 hF8
            have HY8 := hid2 hy8
            clear hy8
            have HFR8 := hid2 (HFR7.out.trans hfr8)
            have HF8 := hid2 hF8
            have HX8 := hid2 (HX7.out.fr hfr8)
            have HQ8 := hid2 (HQ7.out.trans hfr8)
            clear hfr8 hF8
            refine hK.out _ _ (heap_fr (B := w.heap.size) HQ8.out HBX.out) (fun hS => ?_)
            clear hK K
            skip
            refine wpAnyH_ready (rs := [9]) (by kernel_rfl) (by simp) ?_
            refine AllReadyH.cons rfl (fun K hK => ?_) AllReadyH.nil
            go_simp
            go_wp2_with (go_at_call 11; refine (of_code (HE.out.fr HFR8.out h0) HY8.out).mono ?_; rintro e w9 ⟨rfl, hb9⟩)
            have HFR9 := hid2 (HFR8.out.trans (Below.fr hb9))
            have HF9 := hid2 (HF8.out.below hb9)
            have HX9 := hid2 (HX8.out.below hb9)
            have HQ9 := hid2 (HQ8.out.trans (Below.fr (B := w.heap.size) hb9))
            clear hb9
            refine hK.out _ _ (heap_fr (B := w.heap.size) HQ9.out HBX.out) (fun hS => ?_)
            clear hK K
            skip
            refine wpAnyH_take (i := 10) (v := .bool false) rfl (by kernel_rfl) (by kernel_rfl) (by kernel_rfl) (fun _ _ _ h => h) (Or.inl ⟨by kernel_rfl, ?_⟩) hS ?_
            · intro w hw; clear hw; go_simp
            change wpAnyH _ _ _ _ _ _ _ (Act.put _ (some 99) _) _
            simp only [Act.put, List.setIfInBounds_toArray, List.set_cons_succ, List.set_cons_zero]
            refine wpAnyH_take (i := 11) (v := .bool false) rfl (by kernel_rfl) (by kernel_rfl) (by kernel_rfl) (fun _ _ _ h => h) (Or.inl ⟨by kernel_rfl, ?_⟩) hS ?_
            · intro w hw; clear hw; go_simp
            change wpAnyH _ _ _ _ _ _ _ (Act.put _ (some 100) _) _
            simp only [Act.put, List.setIfInBounds_toArray, List.set_cons_succ, List.set_cons_zero]
            refine wpAnyH_take (i := 12) (v := .pointer (some ⟨g, 0, none⟩)) rfl (by kernel_rfl) (by kernel_rfl) (by kernel_rfl) (fun _ _ _ h => h) (Or.inl ⟨by kernel_rfl, ?_⟩) hS ?_
            · intro w hw; clear hw; go_simp
            change wpAnyH _ _ _ _ _ _ _ (Act.put _ (some 101) _) _
            simp only [Act.put, List.setIfInBounds_toArray, List.set_cons_succ, List.set_cons_zero]
            refine wpAnyH_take (i := 13) (v := .pointer (some ⟨wr.heap.size, 1, none⟩)) rfl (by kernel_rfl) (by kernel_rfl) (by kernel_rfl) (fun _ _ _ h => h) (Or.inl ⟨by kernel_rfl, ?_⟩) hS ?_
            · intro w hw; clear hw; go_simp
            change wpAnyH _ _ _ _ _ _ _ (Act.put _ (some 102) _) _
            simp only [Act.put, List.setIfInBounds_toArray, List.set_cons_succ, List.set_cons_zero]
            refine wpAnyH_take (i := 14) (v := .int .i64 at_) rfl (by kernel_rfl) (by kernel_rfl) (by kernel_rfl) (fun _ _ _ h => h) (Or.inl ⟨by kernel_rfl, ?_⟩) hS ?_
            · intro W hw
              obtain ⟨⟨q0, q1, q2, q3, q4, q5⟩, _⟩ := six42 hw
              clear hw
              go_simp
            change wpAnyH _ _ _ _ _ _ _ (Act.put _ (some 103) _) _
            simp only [Act.put, List.setIfInBounds_toArray, List.set_cons_succ, List.set_cons_zero]
            refine wpAnyH_ready (rs := [15]) (by kernel_rfl) (by simp) ?_
            refine AllReadyH.cons rfl (fun K hK => ?_) AllReadyH.nil
            go_simp
            go_wp2_with (go_at_call 20; refine (trim_any HF9.out (by omega) at_).mono ?_; rintro e w10 ⟨y10, rfl, hy10, hF10, hfr10⟩)
            rw [trim_down HD.out] at hy10 hF10
            have HY10 := hid2 hy10
            clear hy10
            have HFR10 := hid2 (HFR9.out.trans hfr10)
            have HF10 := hid2 hF10
            have HX10 := hid2 (HX9.out.fr hfr10)
            have HQ10 := hid2 (HQ9.out.trans hfr10)
            clear hfr10 hF10
            refine hK.out _ _ (heap_fr (B := w.heap.size) HQ10.out HBX.out) (fun hS => ?_)
            clear hK K
            skip
            refine wpAnyH_ready (rs := [16]) (by kernel_rfl) (by simp) ?_
            refine AllReadyH.cons rfl (fun K hK => ?_) AllReadyH.nil
            go_simp
            go_wp2_with (go_at_call 11; refine (of_code (HE.out.fr HFR10.out h0) HY10.out).mono ?_; rintro e w11 ⟨rfl, hb11⟩)
            have HFR11 := hid2 (HFR10.out.trans (Below.fr hb11))
            have HF11 := hid2 (HF10.out.below hb11)
            have HX11 := hid2 (HX10.out.below hb11)
            have HQ11 := hid2 (HQ10.out.trans (Below.fr (B := w.heap.size) hb11))
            clear hb11
            refine hK.out _ _ (heap_fr (B := w.heap.size) HQ11.out HBX.out) (fun hS => ?_)
            clear hK K
            skip
            refine wpAnyH_take (i := 17) (v := .bool false) rfl (by kernel_rfl) (by kernel_rfl) (by kernel_rfl) (fun _ _ _ h => h) (Or.inl ⟨by kernel_rfl, ?_⟩) hS ?_
            · intro w hw; clear hw; go_simp
            change wpAnyH _ _ _ _ _ _ _ (Act.put _ (some 106) _) _
            simp only [Act.put, List.setIfInBounds_toArray, List.set_cons_succ, List.set_cons_zero]
            refine wpAnyH_take (i := 18) (v := .bool false) rfl (by kernel_rfl) (by kernel_rfl) (by kernel_rfl) (fun _ _ _ h => h) (Or.inl ⟨by kernel_rfl, ?_⟩) hS ?_
            · intro w hw; clear hw; go_simp
            change wpAnyH _ _ _ _ _ _ _ (Act.put _ (some 107) _) _
            simp only [Act.put, List.setIfInBounds_toArray, List.set_cons_succ, List.set_cons_zero]
            refine wpAnyH_take (i := 19) (v := .bool false) rfl (by kernel_rfl) (by kernel_rfl) (by kernel_rfl) (fun _ _ _ h => h) (Or.inl ⟨by kernel_rfl, ?_⟩) hS ?_
            · intro w hw; clear hw; go_simp
            change wpAnyH _ _ _ _ _ _ _ (Act.put _ (some 108) _) _
            simp only [Act.put, List.setIfInBounds_toArray, List.set_cons_succ, List.set_cons_zero]
            refine wpAnyH_take (i := 20) (v := .pointer (some ⟨g, 0, none⟩)) rfl (by kernel_rfl) (by kernel_rfl) (by kernel_rfl) (fun _ _ _ h => h) (Or.inl ⟨by kernel_rfl, ?_⟩) hS ?_
            · intro w hw; clear hw; go_simp
            change wpAnyH _ _ _ _ _ _ _ (Act.put _ (some 109) _) _
            simp only [Act.put, List.setIfInBounds_toArray, List.set_cons_succ, List.set_cons_zero]
            refine wpAnyH_ready (rs := [21]) (by kernel_rfl) (by simp) ?_
            refine AllReadyH.cons rfl (fun K hK => ?_) AllReadyH.nil
            go_simp
            go_wp2_with (go_at_call 14; refine (flush_any HF11.out (by omega)).mono ?_; rintro e w12 ⟨y12, rfl, hy12, hF12, hfr12⟩)
            rw [flush_down HD.out] at hy12 hF12
            have HY12 := hid2 hy12
            clear hy12
            have HFR12 := hid2 (HFR11.out.trans hfr12)
            have HF12 := hid2 hF12
            have HX12 := hid2 (HX11.out.fr hfr12)
            have HQ12 := hid2 (HQ11.out.trans hfr12)
            clear hfr12 hF12
            refine hK.out _ _ (heap_fr (B := w.heap.size) HQ12.out HBX.out) (fun hS => ?_)
            clear hK K
            skip
            refine wpAnyH_ready (rs := [22]) (by kernel_rfl) (by simp) ?_
            refine AllReadyH.cons rfl (fun K hK => ?_) AllReadyH.nil
            go_simp
            go_wp2_with (go_at_call 11; refine (of_code (HE.out.fr HFR12.out h0) HY12.out).mono ?_; rintro e w13 ⟨rfl, hb13⟩)
            have HFR13 := hid2 (HFR12.out.trans (Below.fr hb13))
            have HF13 := hid2 (HF12.out.below hb13)
            have HX13 := hid2 (HX12.out.below hb13)
            have HQ13 := hid2 (HQ12.out.trans (Below.fr (B := w.heap.size) hb13))
            clear hb13
            refine hK.out _ _ (heap_fr (B := w.heap.size) HQ13.out HBX.out) (fun hS => ?_)
            clear hK K
            skip
            refine wpAnyH_take (i := 23) (v := .bool false) rfl (by kernel_rfl) (by kernel_rfl) (by kernel_rfl) (fun _ _ _ h => h) (Or.inl ⟨by kernel_rfl, ?_⟩) hS ?_
            · intro w hw; clear hw; go_simp
            change wpAnyH _ _ _ _ _ _ _ (Act.put _ (some 112) _) _
            simp only [Act.put, List.setIfInBounds_toArray, List.set_cons_succ, List.set_cons_zero]
            refine wpAnyH_take (i := 24) (v := .bool false) rfl (by kernel_rfl) (by kernel_rfl) (by kernel_rfl) (fun _ _ _ h => h) (Or.inl ⟨by kernel_rfl, ?_⟩) hS ?_
            · intro w hw; clear hw; go_simp
            change wpAnyH _ _ _ _ _ _ _ (Act.put _ (some 113) _) _
            simp only [Act.put, List.setIfInBounds_toArray, List.set_cons_succ, List.set_cons_zero]
            refine wpAnyH_take (i := 25) (v := .bool false) rfl (by kernel_rfl) (by kernel_rfl) (by kernel_rfl) (fun _ _ _ h => h) (Or.inl ⟨by kernel_rfl, ?_⟩) hS ?_
            · intro w hw; clear hw; go_simp
            change wpAnyH _ _ _ _ _ _ _ (Act.put _ (some 114) _) _
            simp only [Act.put, List.setIfInBounds_toArray, List.set_cons_succ, List.set_cons_zero]
            have HX13b := HX13
            refine wpAnyH_take (i := 26) (v := u6) rfl (by kernel_rfl) (by kernel_rfl) (by kernel_rfl) (fun _ _ _ h => h) (Or.inl ⟨by kernel_rfl, ?_⟩) hS ?_
            · intro w hw; clear hw; go_simp
            change wpAnyH _ _ _ _ _ _ _ (Act.put _ (some 115) _) _
            simp only [Act.put, List.setIfInBounds_toArray, List.set_cons_succ, List.set_cons_zero]
            refine wpAnyH_ready (rs := [27]) (by kernel_rfl) (by simp) ?_
            refine AllReadyH.cons rfl (fun K hK => ?_) AllReadyH.nil
            go_simp
            go_wp2_with (go_at_call 11; refine (of_code (HE.out.fr HFR13.out h0) HX13.out).mono ?_; rintro e w14 ⟨rfl, hb14⟩)
            have HFR14 := hid2 (HFR13.out.trans (Below.fr hb14))
            have HF14 := hid2 (HF13.out.below hb14)
            have HX14 := hid2 (HX13.out.below hb14)
            have HQ14 := hid2 (HQ13.out.trans (Below.fr (B := w.heap.size) hb14))
            clear hb14
            refine hK.out _ _ (heap_fr (B := w.heap.size) HQ14.out HBX.out) (fun hS => ?_)
            clear hK K
            skip
            refine wpAnyH_take (i := 28) (v := .bool false) rfl (by kernel_rfl) (by kernel_rfl) (by kernel_rfl) (fun _ _ _ h => h) (Or.inl ⟨by kernel_rfl, ?_⟩) hS ?_
            · intro w hw; clear hw; go_simp
            change wpAnyH _ _ _ _ _ _ _ (Act.put _ (some 117) _) _
            simp only [Act.put, List.setIfInBounds_toArray, List.set_cons_succ, List.set_cons_zero]
            refine wpAnyH_take (i := 29) (v := .bool false) rfl (by kernel_rfl) (by kernel_rfl) (by kernel_rfl) (fun _ _ _ h => h) (Or.inl ⟨by kernel_rfl, ?_⟩) hS ?_
            · intro w hw; clear hw; go_simp
            change wpAnyH _ _ _ _ _ _ _ (Act.put _ (some 118) _) _
            simp only [Act.put, List.setIfInBounds_toArray, List.set_cons_succ, List.set_cons_zero]
            refine wpAnyH_done (by kernel_rfl) ?_ _
            have hFb := HF14.out
            have HC14 := hid2 ((HC5.out.fr HQ5.out).fr HQ14.out)
            go_wp2_with fail
            go_round
            case rel => exact ⟨j + 1, by go_num, by omega, hFb.more (by omega), HC14.out, HFR14.out⟩
            case measure => simp [intOf]; omega
          · have hji : ¬ ((j : Int) < (os2.length : Int)) := by omega
            have HFR5 := hid2 hfr5
            have HF5 := hid2 hF5
            clear hfr5 hF5 hC5
            go_wp2_with fail
            refine (cells_any HF5.out (by omega)).mono ?_
            rintro e w6 ⟨cv2, cl2, rfl, hcv2, hcl2, hb6⟩
            have hlen := all_len HF5.out.1 cl2 hcl2
            go_wp2_with fail
            refine (same04_any hcv2 (HC5.out.below hb6) (hcl2.trans HCL.out.symm) hlen).mono ?_
            rintro e w7 ⟨rfl, hb7⟩
            have HFR7 := hid2 ((HFR5.out.trans (Below.fr hb6)).trans (Below.fr hb7))
            clear hcv2 hcl2 hb6 hb7 hlen
            go_wp2_with fail
            refine (works_any _ (HE.out.fr HFR7.out h0) (by have := HFR7.out.size; omega)).mono ?_
            rintro e w8 ⟨rfl, hb8⟩
            go_wp2_with fail
            go_ret
            exact ⟨rfl, (HFR7.out.trans (Below.fr hb8)).below (Nat.le_refl _)⟩
      · rw [hdd] at KD
        have HKD : Hid (Calls Tryd.prog 22 #[.pointer (some ⟨g, 0, none⟩)] w4a fun e w' => e = .returned (.bool true) ∧ w' = w4a) := KD
        clear KD
        go_wp2_with fail
        refine (show Calls _ _ _ _ _ from HKD).mono ?_
        rintro e wa ⟨rfl, hww⟩
        cases hww
        go_wp2_with fail
        refine (show Calls _ _ _ _ _ from HKD).mono ?_
        rintro e wa ⟨rfl, hww⟩
        cases hww
        obtain ⟨dd, hdq⟩ : ∃ dd, dd = fuseP d 0 := ⟨_, rfl⟩
        have hD : dd.down = true := by rw [hdq]; exact hdd
        have HD := hid2 hD
        have HFR4 := HFR4a
        have HF4 : Hid (Fl w4a w.heap.size g 41 dd) := by rw [hdq]; exact HF4a.out.more (by omega)
        clear hD hdq
        go_wp2_with fail
        refine (cells_any HF4.out (by omega)).mono ?_
        rintro e w4c ⟨cv, cl, rfl, hcv, hcl, hb4c⟩
        have HC := hid2 hcv
        have HCL := hid2 hcl
        have HFRc := hid2 (HFR4.out.trans (Below.fr hb4c))
        have HFc := hid2 (HF4.out.below hb4c)
        obtain ⟨cp, cc, hcf, _⟩ := hcv.1.form
        subst hcf
        clear hcv hcl hb4c
        go_wp2_with fail
        go_loopw [11] (fun i wr => ∃ j : Nat, i = .int .i64 (j : Int) ∧ j ≤ os2.length ∧ Fl wr w.heap.size g (41 + 3 * j) dd ∧ CellsAt wr (.slice cp cl.length cc) cl ∧ Fr w.heap.size w wr) (fun i _ => os2.length - (intOf i).toNat)
        case atStart => exact ⟨0, rfl, Nat.zero_le _, HFc.out, HC.out, HFRc.out⟩
        case round =>

          obtain ⟨j, rfl, hj, hF5, hC5, hfr5⟩ := hrel
          have HC5 := hid2 hC5
          by_cases hjl : j < os2.length
          · have hji : (j : Int) < (os2.length : Int) := by omega
            obtain ⟨o, ho⟩ : ∃ o, os2[j]? = some o := ⟨_, List.getElem?_eq_getElem hjl⟩
            obtain ⟨p9, c9, e9, _, _, hel⟩ := HA2.out
            cases e9
            obtain ⟨hok, bb, off, rfl, hbB, hbs, c0, c1, c2, c3, c4, c5⟩ := hel j o ho
            clear hel ho
            obtain ⟨kind, at_, a, b, n, keep, kv⟩ := o
            obtain ⟨⟨kp, kc, hkv, _⟩, ha, hb, _⟩ := hok
            dsimp only at hkv c0 c1 c2 c3 c4 c5 ha hb
            subst hkv
            have hab : a < 256 ∧ b < 256 := ⟨ha, hb⟩
            replace c0 := (hfr5.cell hbB hbs _).trans c0
            replace c1 := (hfr5.cell hbB hbs _).trans c1
            replace c2 := (hfr5.cell hbB hbs _).trans c2
            replace c3 := (hfr5.cell hbB hbs _).trans c3
            replace c4 := (hfr5.cell hbB hbs _).trans c4
            replace c5 := (hfr5.cell hbB hbs _).trans c5
            have HFR5 := hid2 hfr5
            have HF5 := hid2 hF5
            clear hfr5 hF5 hC5 ha hb
            go_wp2_with fail
            have hb51 : Below wr.heap.size wr (wr.alloc (.cells #[.int .i64 kind, .int .i64 at_, .int .u8 (a : Int), .int .u8 (b : Int), .int .i64 n, .slice kp keep.length kc] 42)) := by go_grown
            refine (read_any (HF5.out.below hb51) (by omega) at_).mono ?_
            rintro e w6 ⟨v6, u6, rfl, hx6, hv6, hb6⟩
            rw [read_down HD.out] at hx6
            have HQ5 : Hid (Fr w.heap.size wr w6.drew) := (Below.fr hb51).trans ((Below.fr hb6).trans (Below.fr (Below.refl _ _).drew))
            have HQ6d : Hid (Fr w.heap.size w6.drew w6.drew) := Fr.refl _ _
            have HFR6d : Hid (Fr w.heap.size w w6.drew) := HFR5.out.trans HQ5.out
            have HF6d : Hid (Fl w6.drew w.heap.size g (41 + 3 * j) dd) := ((HF5.out.below hb51).below hb6).below (Below.refl _ _).drew
            have HX6d : Hid (Fault w6.drew u6 11) := hx6.below (Below.refl _ _).drew
            have HBX : Hid (w6.drew.heap[wr.heap.size]? = some (.cells #[.int .i64 kind, .int .i64 at_, .int .u8 (a : Int), .int .u8 (b : Int), .int .i64 n, .slice kp keep.length kc] 42 (0, 0))) := heap_stays (heap_alloc_last wr _) hb6.drew
            clear hx6 hv6 hb6 hb51 c0 c1 c2 c3 c4 c5
            go_wp2_with fail
            refine wp_region_held_drew (S := fun w' => w'.heap[wr.heap.size]? = some (.cells #[.int .i64 kind, .int .i64 at_, .int .u8 (a : Int), .int .u8 (b : Int), .int .i64 n, .slice kp keep.length kc] 42 (0, 0))) (by kernel_rfl) (HBX.out) (fun hS => ?_)
            change wpAnyH _ _ _ _ _ _ _ _ (World.drew _)
            refine wpAnyH_take (i := 0) (v := .pointer (some ⟨g, 0, none⟩)) rfl (by kernel_rfl) (by kernel_rfl) (by kernel_rfl) (fun _ _ _ h => h) (Or.inl ⟨by kernel_rfl, ?_⟩) hS ?_
            · intro w hw; clear hw; go_simp
            change wpAnyH _ _ _ _ _ _ _ (Act.put _ (some 89) _) _
            simp only [Act.put, List.setIfInBounds_toArray, List.set_cons_succ, List.set_cons_zero]
            refine wpAnyH_take (i := 1) (v := .pointer (some ⟨wr.heap.size, 1, none⟩)) rfl (by kernel_rfl) (by kernel_rfl) (by kernel_rfl) (fun _ _ _ h => h) (Or.inl ⟨by kernel_rfl, ?_⟩) hS ?_
            · intro w hw; clear hw; go_simp
            change wpAnyH _ _ _ _ _ _ _ (Act.put _ (some 90) _) _
            simp only [Act.put, List.setIfInBounds_toArray, List.set_cons_succ, List.set_cons_zero]
            refine wpAnyH_take (i := 2) (v := .int .i64 at_) rfl (by kernel_rfl) (by kernel_rfl) (by kernel_rfl) (fun _ _ _ h => h) (Or.inl ⟨by kernel_rfl, ?_⟩) hS ?_
            · intro W hw
              obtain ⟨⟨q0, q1, q2, q3, q4, q5⟩, _⟩ := six42 hw
              clear hw
              go_simp
            change wpAnyH _ _ _ _ _ _ _ (Act.put _ (some 91) _) _
            simp only [Act.put, List.setIfInBounds_toArray, List.set_cons_succ, List.set_cons_zero]
            refine wpAnyH_take (i := 3) (v := .pointer (some ⟨wr.heap.size, 2, none⟩)) rfl (by kernel_rfl) (by kernel_rfl) (by kernel_rfl) (fun _ _ _ h => h) (Or.inl ⟨by kernel_rfl, ?_⟩) hS ?_
            · intro w hw; clear hw; go_simp
            change wpAnyH _ _ _ _ _ _ _ (Act.put _ (some 92) _) _
            simp only [Act.put, List.setIfInBounds_toArray, List.set_cons_succ, List.set_cons_zero]
            refine wpAnyH_take (i := 4) (v := .int .u8 (a : Int)) rfl (by kernel_rfl) (by kernel_rfl) (by kernel_rfl) (fun _ _ _ h => h) (Or.inl ⟨by kernel_rfl, ?_⟩) hS ?_
            · intro W hw
              obtain ⟨⟨q0, q1, q2, q3, q4, q5⟩, _⟩ := six42 hw
              clear hw
              go_simp
            change wpAnyH _ _ _ _ _ _ _ (Act.put _ (some 93) _) _
            simp only [Act.put, List.setIfInBounds_toArray, List.set_cons_succ, List.set_cons_zero]
            refine wpAnyH_take (i := 5) (v := .pointer (some ⟨wr.heap.size, 3, none⟩)) rfl (by kernel_rfl) (by kernel_rfl) (by kernel_rfl) (fun _ _ _ h => h) (Or.inl ⟨by kernel_rfl, ?_⟩) hS ?_
            · intro w hw; clear hw; go_simp
            change wpAnyH _ _ _ _ _ _ _ (Act.put _ (some 94) _) _
            simp only [Act.put, List.setIfInBounds_toArray, List.set_cons_succ, List.set_cons_zero]
            refine wpAnyH_take (i := 6) (v := .int .u8 (b : Int)) rfl (by kernel_rfl) (by kernel_rfl) (by kernel_rfl) (fun _ _ _ h => h) (Or.inl ⟨by kernel_rfl, ?_⟩) hS ?_
            · intro W hw
              obtain ⟨⟨q0, q1, q2, q3, q4, q5⟩, _⟩ := six42 hw
              clear hw
              go_simp
            change wpAnyH _ _ _ _ _ _ _ (Act.put _ (some 95) _) _
            simp only [Act.put, List.setIfInBounds_toArray, List.set_cons_succ, List.set_cons_zero]
            refine wpAnyH_ready (rs := [7]) (by kernel_rfl) (by simp) ?_
            refine AllReadyH.cons rfl (fun K hK => ?_) AllReadyH.nil
            go_simp
            go_wp2_with (go_at_call 19; refine (bytes_at _ a b _ rfl).mono ?_; rintro e w7 ⟨rfl, hh7, hb7⟩)
            have HBV := hid2 (row5 hh7 (bytN_length a b 256) (n := 256) (by omega))
            have HFR7 := hid2 (HFR6d.out.trans (Below.fr hb7))
            have HF7 := hid2 (HF6d.out.below hb7)
            have HX7 := hid2 (HX6d.out.below hb7)
            have HQ7 := hid2 (HQ6d.out.trans (Below.fr (B := w.heap.size) hb7))
            clear hh7 hb7
            refine hK.out _ _ (heap_fr (B := w.heap.size) HQ7.out HBX.out) (fun hS => ?_)
            clear hK K
            skip
            refine wpAnyH_ready (rs := [8]) (by kernel_rfl) (by simp) ?_
            refine AllReadyH.cons rfl (fun K hK => ?_) AllReadyH.nil
            go_simp
            go_wp2_with (go_at_call 18; refine (write_any HF7.out (by omega) at_ HBV.out (fun x hx => bytN_byt hab.1 hab.2 256 x (List.mem_of_mem_take hx))).mono ?_; rintro e w8 ⟨y8, rfl, hy8, hF8, hfr8⟩)
            rw [write_down HD.out] at hy8 hF8
            have HY8 := hid2 hy8
            clear hy8
            have HFR8 := hid2 (HFR7.out.trans hfr8)
            have HF8 := hid2 hF8
            have HX8 := hid2 (HX7.out.fr hfr8)
            have HQ8 := hid2 (HQ7.out.trans hfr8)
            clear hfr8 hF8
            refine hK.out _ _ (heap_fr (B := w.heap.size) HQ8.out HBX.out) (fun hS => ?_)
            clear hK K
            skip
            refine wpAnyH_ready (rs := [9]) (by kernel_rfl) (by simp) ?_
            refine AllReadyH.cons rfl (fun K hK => ?_) AllReadyH.nil
            go_simp
            go_wp2_with (go_at_call 11; refine (of_code (HE.out.fr HFR8.out h0) HY8.out).mono ?_; rintro e w9 ⟨rfl, hb9⟩)
            have HFR9 := hid2 (HFR8.out.trans (Below.fr hb9))
            have HF9 := hid2 (HF8.out.below hb9)
            have HX9 := hid2 (HX8.out.below hb9)
            have HQ9 := hid2 (HQ8.out.trans (Below.fr (B := w.heap.size) hb9))
            clear hb9
            refine hK.out _ _ (heap_fr (B := w.heap.size) HQ9.out HBX.out) (fun hS => ?_)
            clear hK K
            skip
            refine wpAnyH_take (i := 10) (v := .bool false) rfl (by kernel_rfl) (by kernel_rfl) (by kernel_rfl) (fun _ _ _ h => h) (Or.inl ⟨by kernel_rfl, ?_⟩) hS ?_
            · intro w hw; clear hw; go_simp
            change wpAnyH _ _ _ _ _ _ _ (Act.put _ (some 99) _) _
            simp only [Act.put, List.setIfInBounds_toArray, List.set_cons_succ, List.set_cons_zero]
            refine wpAnyH_take (i := 11) (v := .bool false) rfl (by kernel_rfl) (by kernel_rfl) (by kernel_rfl) (fun _ _ _ h => h) (Or.inl ⟨by kernel_rfl, ?_⟩) hS ?_
            · intro w hw; clear hw; go_simp
            change wpAnyH _ _ _ _ _ _ _ (Act.put _ (some 100) _) _
            simp only [Act.put, List.setIfInBounds_toArray, List.set_cons_succ, List.set_cons_zero]
            refine wpAnyH_take (i := 12) (v := .pointer (some ⟨g, 0, none⟩)) rfl (by kernel_rfl) (by kernel_rfl) (by kernel_rfl) (fun _ _ _ h => h) (Or.inl ⟨by kernel_rfl, ?_⟩) hS ?_
            · intro w hw; clear hw; go_simp
            change wpAnyH _ _ _ _ _ _ _ (Act.put _ (some 101) _) _
            simp only [Act.put, List.setIfInBounds_toArray, List.set_cons_succ, List.set_cons_zero]
            refine wpAnyH_take (i := 13) (v := .pointer (some ⟨wr.heap.size, 1, none⟩)) rfl (by kernel_rfl) (by kernel_rfl) (by kernel_rfl) (fun _ _ _ h => h) (Or.inl ⟨by kernel_rfl, ?_⟩) hS ?_
            · intro w hw; clear hw; go_simp
            change wpAnyH _ _ _ _ _ _ _ (Act.put _ (some 102) _) _
            simp only [Act.put, List.setIfInBounds_toArray, List.set_cons_succ, List.set_cons_zero]
            refine wpAnyH_take (i := 14) (v := .int .i64 at_) rfl (by kernel_rfl) (by kernel_rfl) (by kernel_rfl) (fun _ _ _ h => h) (Or.inl ⟨by kernel_rfl, ?_⟩) hS ?_
            · intro W hw
              obtain ⟨⟨q0, q1, q2, q3, q4, q5⟩, _⟩ := six42 hw
              clear hw
              go_simp
            change wpAnyH _ _ _ _ _ _ _ (Act.put _ (some 103) _) _
            simp only [Act.put, List.setIfInBounds_toArray, List.set_cons_succ, List.set_cons_zero]
            refine wpAnyH_ready (rs := [15]) (by kernel_rfl) (by simp) ?_
            refine AllReadyH.cons rfl (fun K hK => ?_) AllReadyH.nil
            go_simp
            go_wp2_with (go_at_call 20; refine (trim_any HF9.out (by omega) at_).mono ?_; rintro e w10 ⟨y10, rfl, hy10, hF10, hfr10⟩)
            rw [trim_down HD.out] at hy10 hF10
            have HY10 := hid2 hy10
            clear hy10
            have HFR10 := hid2 (HFR9.out.trans hfr10)
            have HF10 := hid2 hF10
            have HX10 := hid2 (HX9.out.fr hfr10)
            have HQ10 := hid2 (HQ9.out.trans hfr10)
            clear hfr10 hF10
            refine hK.out _ _ (heap_fr (B := w.heap.size) HQ10.out HBX.out) (fun hS => ?_)
            clear hK K
            skip
            refine wpAnyH_ready (rs := [16]) (by kernel_rfl) (by simp) ?_
            refine AllReadyH.cons rfl (fun K hK => ?_) AllReadyH.nil
            go_simp
            go_wp2_with (go_at_call 11; refine (of_code (HE.out.fr HFR10.out h0) HY10.out).mono ?_; rintro e w11 ⟨rfl, hb11⟩)
            have HFR11 := hid2 (HFR10.out.trans (Below.fr hb11))
            have HF11 := hid2 (HF10.out.below hb11)
            have HX11 := hid2 (HX10.out.below hb11)
            have HQ11 := hid2 (HQ10.out.trans (Below.fr (B := w.heap.size) hb11))
            clear hb11
            refine hK.out _ _ (heap_fr (B := w.heap.size) HQ11.out HBX.out) (fun hS => ?_)
            clear hK K
            skip
            refine wpAnyH_take (i := 17) (v := .bool false) rfl (by kernel_rfl) (by kernel_rfl) (by kernel_rfl) (fun _ _ _ h => h) (Or.inl ⟨by kernel_rfl, ?_⟩) hS ?_
            · intro w hw; clear hw; go_simp
            change wpAnyH _ _ _ _ _ _ _ (Act.put _ (some 106) _) _
            simp only [Act.put, List.setIfInBounds_toArray, List.set_cons_succ, List.set_cons_zero]
            refine wpAnyH_take (i := 18) (v := .bool false) rfl (by kernel_rfl) (by kernel_rfl) (by kernel_rfl) (fun _ _ _ h => h) (Or.inl ⟨by kernel_rfl, ?_⟩) hS ?_
            · intro w hw; clear hw; go_simp
            change wpAnyH _ _ _ _ _ _ _ (Act.put _ (some 107) _) _
            simp only [Act.put, List.setIfInBounds_toArray, List.set_cons_succ, List.set_cons_zero]
            refine wpAnyH_take (i := 19) (v := .bool false) rfl (by kernel_rfl) (by kernel_rfl) (by kernel_rfl) (fun _ _ _ h => h) (Or.inl ⟨by kernel_rfl, ?_⟩) hS ?_
            · intro w hw; clear hw; go_simp
            change wpAnyH _ _ _ _ _ _ _ (Act.put _ (some 108) _) _
            simp only [Act.put, List.setIfInBounds_toArray, List.set_cons_succ, List.set_cons_zero]
            refine wpAnyH_take (i := 20) (v := .pointer (some ⟨g, 0, none⟩)) rfl (by kernel_rfl) (by kernel_rfl) (by kernel_rfl) (fun _ _ _ h => h) (Or.inl ⟨by kernel_rfl, ?_⟩) hS ?_
            · intro w hw; clear hw; go_simp
            change wpAnyH _ _ _ _ _ _ _ (Act.put _ (some 109) _) _
            simp only [Act.put, List.setIfInBounds_toArray, List.set_cons_succ, List.set_cons_zero]
            refine wpAnyH_ready (rs := [21]) (by kernel_rfl) (by simp) ?_
            refine AllReadyH.cons rfl (fun K hK => ?_) AllReadyH.nil
            go_simp
            go_wp2_with (go_at_call 14; refine (flush_any HF11.out (by omega)).mono ?_; rintro e w12 ⟨y12, rfl, hy12, hF12, hfr12⟩)
            rw [flush_down HD.out] at hy12 hF12
            have HY12 := hid2 hy12
            clear hy12
            have HFR12 := hid2 (HFR11.out.trans hfr12)
            have HF12 := hid2 hF12
            have HX12 := hid2 (HX11.out.fr hfr12)
            have HQ12 := hid2 (HQ11.out.trans hfr12)
            clear hfr12 hF12
            refine hK.out _ _ (heap_fr (B := w.heap.size) HQ12.out HBX.out) (fun hS => ?_)
            clear hK K
            skip
            refine wpAnyH_ready (rs := [22]) (by kernel_rfl) (by simp) ?_
            refine AllReadyH.cons rfl (fun K hK => ?_) AllReadyH.nil
            go_simp
            go_wp2_with (go_at_call 11; refine (of_code (HE.out.fr HFR12.out h0) HY12.out).mono ?_; rintro e w13 ⟨rfl, hb13⟩)
            have HFR13 := hid2 (HFR12.out.trans (Below.fr hb13))
            have HF13 := hid2 (HF12.out.below hb13)
            have HX13 := hid2 (HX12.out.below hb13)
            have HQ13 := hid2 (HQ12.out.trans (Below.fr (B := w.heap.size) hb13))
            clear hb13
            refine hK.out _ _ (heap_fr (B := w.heap.size) HQ13.out HBX.out) (fun hS => ?_)
            clear hK K
            skip
            refine wpAnyH_take (i := 23) (v := .bool false) rfl (by kernel_rfl) (by kernel_rfl) (by kernel_rfl) (fun _ _ _ h => h) (Or.inl ⟨by kernel_rfl, ?_⟩) hS ?_
            · intro w hw; clear hw; go_simp
            change wpAnyH _ _ _ _ _ _ _ (Act.put _ (some 112) _) _
            simp only [Act.put, List.setIfInBounds_toArray, List.set_cons_succ, List.set_cons_zero]
            refine wpAnyH_take (i := 24) (v := .bool false) rfl (by kernel_rfl) (by kernel_rfl) (by kernel_rfl) (fun _ _ _ h => h) (Or.inl ⟨by kernel_rfl, ?_⟩) hS ?_
            · intro w hw; clear hw; go_simp
            change wpAnyH _ _ _ _ _ _ _ (Act.put _ (some 113) _) _
            simp only [Act.put, List.setIfInBounds_toArray, List.set_cons_succ, List.set_cons_zero]
            refine wpAnyH_take (i := 25) (v := .bool false) rfl (by kernel_rfl) (by kernel_rfl) (by kernel_rfl) (fun _ _ _ h => h) (Or.inl ⟨by kernel_rfl, ?_⟩) hS ?_
            · intro w hw; clear hw; go_simp
            change wpAnyH _ _ _ _ _ _ _ (Act.put _ (some 114) _) _
            simp only [Act.put, List.setIfInBounds_toArray, List.set_cons_succ, List.set_cons_zero]
            have HX13b := HX13
            refine wpAnyH_take (i := 26) (v := u6) rfl (by kernel_rfl) (by kernel_rfl) (by kernel_rfl) (fun _ _ _ h => h) (Or.inl ⟨by kernel_rfl, ?_⟩) hS ?_
            · intro w hw; clear hw; go_simp
            change wpAnyH _ _ _ _ _ _ _ (Act.put _ (some 115) _) _
            simp only [Act.put, List.setIfInBounds_toArray, List.set_cons_succ, List.set_cons_zero]
            refine wpAnyH_ready (rs := [27]) (by kernel_rfl) (by simp) ?_
            refine AllReadyH.cons rfl (fun K hK => ?_) AllReadyH.nil
            go_simp
            go_wp2_with (go_at_call 11; refine (of_code (HE.out.fr HFR13.out h0) HX13.out).mono ?_; rintro e w14 ⟨rfl, hb14⟩)
            have HFR14 := hid2 (HFR13.out.trans (Below.fr hb14))
            have HF14 := hid2 (HF13.out.below hb14)
            have HX14 := hid2 (HX13.out.below hb14)
            have HQ14 := hid2 (HQ13.out.trans (Below.fr (B := w.heap.size) hb14))
            clear hb14
            refine hK.out _ _ (heap_fr (B := w.heap.size) HQ14.out HBX.out) (fun hS => ?_)
            clear hK K
            skip
            refine wpAnyH_take (i := 28) (v := .bool false) rfl (by kernel_rfl) (by kernel_rfl) (by kernel_rfl) (fun _ _ _ h => h) (Or.inl ⟨by kernel_rfl, ?_⟩) hS ?_
            · intro w hw; clear hw; go_simp
            change wpAnyH _ _ _ _ _ _ _ (Act.put _ (some 117) _) _
            simp only [Act.put, List.setIfInBounds_toArray, List.set_cons_succ, List.set_cons_zero]
            refine wpAnyH_take (i := 29) (v := .bool false) rfl (by kernel_rfl) (by kernel_rfl) (by kernel_rfl) (fun _ _ _ h => h) (Or.inl ⟨by kernel_rfl, ?_⟩) hS ?_
            · intro w hw; clear hw; go_simp
            change wpAnyH _ _ _ _ _ _ _ (Act.put _ (some 118) _) _
            simp only [Act.put, List.setIfInBounds_toArray, List.set_cons_succ, List.set_cons_zero]
            refine wpAnyH_done (by kernel_rfl) ?_ _
            have hFb := HF14.out
            have HC14 := hid2 ((HC5.out.fr HQ5.out).fr HQ14.out)
            go_wp2_with fail
            go_round
            case rel => exact ⟨j + 1, by go_num, by omega, hFb.more (by omega), HC14.out, HFR14.out⟩
            case measure => simp [intOf]; omega
          · have hji : ¬ ((j : Int) < (os2.length : Int)) := by omega
            have HFR5 := hid2 hfr5
            have HF5 := hid2 hF5
            clear hfr5 hF5 hC5
            go_wp2_with fail
            refine (cells_any HF5.out (by omega)).mono ?_
            rintro e w6 ⟨cv2, cl2, rfl, hcv2, hcl2, hb6⟩
            have hlen := all_len HF5.out.1 cl2 hcl2
            go_wp2_with fail
            refine (same04_any hcv2 (HC5.out.below hb6) (hcl2.trans HCL.out.symm) hlen).mono ?_
            rintro e w7 ⟨rfl, hb7⟩
            have HFR7 := hid2 ((HFR5.out.trans (Below.fr hb6)).trans (Below.fr hb7))
            clear hcv2 hcl2 hb6 hb7 hlen
            go_wp2_with fail
            refine (works_any _ (HE.out.fr HFR7.out h0) (by have := HFR7.out.size; omega)).mono ?_
            rintro e w8 ⟨rfl, hb8⟩
            go_wp2_with fail
            go_ret
            exact ⟨rfl, (HFR7.out.trans (Below.fr hb8)).below (Nat.le_refl _)⟩

/-- The sentence's function answers true, whatever comes in. -/
theorem fused_any {w : World} {v0 v1 : Value} {os os2 : List Act4} (hA : ActsAt w w.heap.size v0 os) (hA2 : ActsAt w w.heap.size v1 os2) (hE : ErrT w) (h0 : 0 < w.heap.size) :
    Calls Tryd.prog 6 #[v0, v1] w fun e w' => e = .returned (.bool true) ∧ Below w.heap.size w w' := by
  cases hl : lightB os with
  | false => exact fused_out hA hA2 hE h0 (.inl hl)
  | true =>
    cases hl2 : lightB os2 with
    | false => exact fused_out hA hA2 hE h0 (.inr hl2)
    | true => exact fused_good hA hA2 hE h0 hl hl2
end Go.Proofs.YtfogocappakbdaaDoor
