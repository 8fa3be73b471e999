/-
  What is flushed stays: the walk of that sentence.
-/
import Derived.Test.YtfogocappakbdaaDoorLawDoes
import Derived.Test.YtfogocappakbdaaDoorFirm
import Derived.Test.YtfogocappakbdaaDoorGenC
namespace Go.Proofs.YtfogocappakbdaaDoor
open Go.RowKit

set_option maxHeartbeats 4000000 in
set_option maxRecDepth 10000 in
theorem firm_out {w : World} {v0 v1 kv : Value} {os os2 : List Act4} {keep : List Int} {at8 : Nat} (hA : ActsAt w w.heap.size v0 os) (hA2 : ActsAt w w.heap.size v1 os2) (hK : KLow w w.heap.size kv keep) (hE : ErrT w) (h0 : 0 < w.heap.size) (hout : lightB os = false ∨ lightB os2 = false ∨ 60 < keep.length) :
    Calls Tryd.prog 4 #[v0, v1, kv, .int .u8 (at8 : Int)] w fun e w' => e = .returned (.bool true) ∧ Below w.heap.size w w' := by
  have HE := hid2 hE
  have HK0 : Hid (Calls Tryd.prog 7 #[v0] w fun e w' => e = .returned (.bool (lightB os)) ∧ w' = w) := light_any hA
  have HK1 : Hid (Calls Tryd.prog 7 #[v1] w fun e w' => e = .returned (.bool (lightB os2)) ∧ w' = w) := light_any hA2
  obtain ⟨kp, kc, rfl, _⟩ := hK
  clear hA hA2 hE
  generalize lightB os = l0 at *
  generalize lightB os2 = l1 at *
  cases l0
  · clear hout
    go_enter Tryd.func4, Tryd.ntmps4
    go_wp2_with fail
    refine (show Calls _ _ _ _ _ from HK0).mono ?_
    rintro e wa ⟨rfl, hww⟩
    cases hww
    go_wp2_with fail
    refine (works_any _ HE.out h0).mono ?_
    rintro e wa ⟨rfl, hww⟩
    go_wp2_with fail
    go_ret
    exact ⟨rfl, hww⟩
  · cases l1
    · clear hout
      go_enter Tryd.func4, Tryd.ntmps4
      go_wp2_with fail
      refine (show Calls _ _ _ _ _ from HK0).mono ?_
      rintro e wa ⟨rfl, hww⟩
      cases hww
      go_wp2_with fail
      refine (show Calls _ _ _ _ _ from HK1).mono ?_
      rintro e wa ⟨rfl, hww⟩
      cases hww
      go_wp2_with fail
      refine (works_any _ HE.out h0).mono ?_
      rintro e wa ⟨rfl, hww⟩
      go_wp2_with fail
      go_ret
      exact ⟨rfl, hww⟩
    · have hk : 60 < keep.length := by simpa using hout
      have hk' : 60 < (keep.length : Int) := by omega
      clear hout hk
      go_enter Tryd.func4, Tryd.ntmps4
      go_wp2_with fail
      refine (show Calls _ _ _ _ _ from HK0).mono ?_
      rintro e wa ⟨rfl, hww⟩
      cases hww
      go_wp2_with fail
      refine (show Calls _ _ _ _ _ from HK1).mono ?_
      rintro e wa ⟨rfl, hww⟩
      cases hww
      go_wp2_with fail
      refine (works_any _ HE.out h0).mono ?_
      rintro e wa ⟨rfl, hww⟩
      go_wp2_with fail
      go_ret
      exact ⟨rfl, hww⟩

set_option maxHeartbeats 8000000 in
set_option maxRecDepth 10000 in
theorem firm_good {w : World} {v0 v1 kv : Value} {os os2 : List Act4} {keep : List Int} {at8 : Nat} (hA : ActsAt w w.heap.size v0 os) (hA2 : ActsAt w w.heap.size v1 os2) (hK : KLow w w.heap.size kv keep) (hat : at8 < 256) (hE : ErrT w) (h0 : 0 < w.heap.size) (hl : lightB os = true) (hl2 : lightB os2 = true) (hkl : keep.length ≤ 60) :
    Calls Tryd.prog 4 #[v0, v1, kv, .int .u8 (at8 : Int)] w fun e w' => e = .returned (.bool true) ∧ Below w.heap.size w w' := by
  have HK0 : Hid (Calls Tryd.prog 7 #[v0] w fun e w' => e = .returned (.bool (lightB os)) ∧ w' = w) := light_any hA
  have HK1 : Hid (Calls Tryd.prog 7 #[v1] w fun e w' => e = .returned (.bool (lightB os2)) ∧ w' = w) := light_any hA2
  have h40 := light_len hl
  have h41 := light_len hl2
  rw [hl] at HK0
  rw [hl2] at HK1
  have HA := hid2 hA
  have HA2 := hid2 hA2
  have HKL := hid2 hK
  obtain ⟨p, cap, rfl, hcap, hmax, _⟩ := hA
  obtain ⟨p2, cap2, rfl, hcap2, hmax2, _⟩ := hA2
  obtain ⟨kp9, kc9, rfl, _⟩ := hK
  unfold maxLen at hmax hmax2
  have HE := hid2 hE
  have hk' : ¬ 60 < (keep.length : Int) := by omega
  clear hE hl hl2 hkl
  go_enter Tryd.func4, Tryd.ntmps4
  go_wp2_with fail
  refine (show Calls _ _ _ _ _ from HK0).mono ?_
  rintro e wa ⟨rfl, hww⟩
  cases hww
  go_wp2_with fail
  refine (show Calls _ _ _ _ _ from HK1).mono ?_
  rintro e wa ⟨rfl, hww⟩
  cases hww
  go_wp2_with (first | (go_at_call 9; refine (new_good 9 _ (B := w.heap.size) (Nat.le_refl _) (by omega) (by omega)).mono ?_; rintro e w1 ⟨g, rfl, hF1, hb1⟩; have HB1 := hid2 hb1; have HF1 := hid2 hF1; clear hb1 hF1) | (go_at_call 10; refine (rnew_good 9 _ (by omega) (by omega)).mono ?_; rintro e w2 ⟨rfl, hb2⟩; have HF2 := hid2 (HF1.out.below hb2); have HB2 := hid2 (HB1.out.trans (hb2.mono HB1.out.size)); clear hb2))
  have HF3 : Hid (Fl (w2.alloc (.cells #[.int .i64 9, .slice none 0 0, .slice none 0 0, .int .i64 (-1), .bool false, .int .i64 0] 33)) w.heap.size g 0 (newP 9)) := HF2.out.below (by go_grown)
  have HB3 : Hid (Below w.heap.size w (w2.alloc (.cells #[.int .i64 9, .slice none 0 0, .slice none 0 0, .int .i64 (-1), .bool false, .int .i64 0] 33))) := HB2.out.trans ((Below.refl _ _).alloc (Nat.le_refl _) _ |>.mono HB2.out.size)
  have H73 : Hid ((w2.alloc (.cells #[.int .i64 9, .slice none 0 0, .slice none 0 0, .int .i64 (-1), .bool false, .int .i64 0] 33)).heap[w2.heap.size]? = some (.cells #[.int .i64 9, .slice none 0 0, .slice none 0 0, .int .i64 (-1), .bool false, .int .i64 0] 33 (0, 0))) := heap_alloc_last _ _
  have hs2 := HB2.out.size
  generalize hb7 : w2.heap.size = b7 at *
  generalize hw3 : w2.alloc (.cells #[.int .i64 9, .slice none 0 0, .slice none 0 0, .int .i64 (-1), .bool false, .int .i64 0] 33) = w3 at *
  clear hb7 hw3
  go_loopw [13] (fun i wr => ∃ (k : Nat) (d : Dev) (r : Rf) (x0 x1 x2 x3 x4 x5 : Value), i = .int .i64 (k : Int) ∧ k ≤ os.length ∧ wr.heap[b7]? = some (.cells #[x0, x1, x2, x3, x4, x5] 33 (0, 0)) ∧ Fl wr w.heap.size g k d ∧ RfAt wr (.agg #[x0, x1, x2, x3, x4, x5]) r k ∧ Sim d r ∧ d.pages = 9 ∧ Fr w.heap.size w wr) (fun i _ => os.length - (intOf i).toNat)
  case atStart => exact ⟨0, _, _, _, _, _, _, _, _, rfl, Nat.zero_le _, H73.out, HF3.out, rf_new _ _, sim_new _, rfl, Below.fr HB3.out⟩
  case round =>
    obtain ⟨k, d, r, x0, x1, x2, x3, x4, x5, rfl, hk, h7, hF, hR, hS, hpg, hfr⟩ := hrel
    by_cases hlt : k < os.length
    · have hki : (k : Int) < (os.length : Int) := by omega
      obtain ⟨o, ho⟩ : ∃ o, os[k]? = some o := ⟨_, List.getElem?_eq_getElem hlt⟩
      obtain ⟨p9, c9, e9, _, _, hel⟩ := HA.out
      cases e9
      obtain ⟨hok, bb, off, rfl, hbB, hbs, c0, c1, c2, c3, c4, c5⟩ := hel k o ho
      clear hel ho
      obtain ⟨kind, at_, a, b, n, keepo, kv⟩ := o
      have hok' := hok
      obtain ⟨⟨kp, kc, hkv, _⟩, _⟩ := hok
      dsimp only at hkv c0 c1 c2 c3 c4 c5
      subst hkv
      have HDO : Hid (∀ w', Below wr.heap.size wr w' → Calls Tryd.prog 12 #[.pointer (some ⟨g, 0, none⟩), .agg #[x0, x1, x2, x3, x4, x5], .agg #[.int .i64 kind, .int .i64 at_, .int .u8 (a : Int), .int .u8 (b : Int), .int .i64 n, .slice kp keepo.length kc]] w' fun e w'' => ∃ y0 y1 y2 y3 y4 y5, e = .returned (.tuple #[.agg #[y0, y1, y2, y3, y4, y5], .bool true]) ∧ DoneAt w' w'' w.heap.size g (k + 1) (doP d ⟨kind, at_, a, b, n, keepo, .slice kp keepo.length kc⟩) (.agg #[y0, y1, y2, y3, y4, y5])) := fun w' hf' => by
        exact do_any (hF.below hf') (hR.below hf') hS (HE.out.fr (hfr.trans (Below.fr hf')) h0) h0 (by omega) _ (hok'.fr (hfr.trans (Below.fr hf')))
      have HS7 : Hid (wr.heap[b7]? = some (.cells #[x0, x1, x2, x3, x4, x5] 33 (0, 0))) := h7
      have HSXF : Hid (∀ w', Fr w.heap.size w w' → w'.cell? ⟨bb, off + k * 6, none⟩ = some (.int .i64 kind) ∧ w'.cell? ⟨bb, off + k * 6 + 1, none⟩ = some (.int .i64 at_) ∧ w'.cell? ⟨bb, off + k * 6 + 2, none⟩ = some (.int .u8 (a : Int)) ∧ w'.cell? ⟨bb, off + k * 6 + 3, none⟩ = some (.int .u8 (b : Int)) ∧ w'.cell? ⟨bb, off + k * 6 + 4, none⟩ = some (.int .i64 n) ∧ w'.cell? ⟨bb, off + k * 6 + 5, none⟩ = some (.slice kp keepo.length kc)) := fun w' hf' => ⟨(hf'.cell hbB hbs _).trans c0, (hf'.cell hbB hbs _).trans c1, (hf'.cell hbB hbs _).trans c2, (hf'.cell hbB hbs _).trans c3, (hf'.cell hbB hbs _).trans c4, (hf'.cell hbB hbs _).trans c5⟩
      have hfrd : Fr w.heap.size wr wr.drew := Below.fr (Below.refl _ _).drew
      have HFRW := hid2 hfr
      have HPG : Hid (∀ o, (doP d o).pages = 9) := fun o => (do_pages d o).trans hpg
      obtain ⟨⟨g0, g1, g2, g3, g4, g5⟩, _⟩ := six' h7
      clear c0 c1 c2 c3 c4 c5 h7 hF hR hS hfr hpg
      go_wp2_with fail
      refine wp_region_held_drew (S := fun w' => w'.cell? ⟨bb, off + k * 6, none⟩ = some (.int .i64 kind) ∧ w'.cell? ⟨bb, off + k * 6 + 1, none⟩ = some (.int .i64 at_) ∧ w'.cell? ⟨bb, off + k * 6 + 2, none⟩ = some (.int .u8 (a : Int)) ∧ w'.cell? ⟨bb, off + k * 6 + 3, none⟩ = some (.int .u8 (b : Int)) ∧ w'.cell? ⟨bb, off + k * 6 + 4, none⟩ = some (.int .i64 n) ∧ w'.cell? ⟨bb, off + k * 6 + 5, none⟩ = some (.slice kp keepo.length kc)) (by kernel_rfl) (HSXF.out _ (HFRW.out.trans hfrd)) (fun hS => ?_)
      change wpAnyH _ _ _ _ _ _ _ _ (World.drew _)
      refine wpAnyH_take (i := 0) (v := .pointer (some ⟨g, 0, none⟩)) rfl (by kernel_rfl) (by kernel_rfl) (by kernel_rfl) (fun _ _ _ h => h) (Or.inl ⟨by kernel_rfl, ?_⟩) hS ?_
      · intro w hw; clear hw; go_simp
      change wpAnyH _ _ _ _ _ _ _ (Act.put _ (some 57) _) _
      simp only [Act.put, List.setIfInBounds_toArray, List.set_cons_succ, List.set_cons_zero]
      refine wpAnyH_take (i := 2) (v := .slice (some ⟨bb, off, none⟩) os.length cap) rfl (by kernel_rfl) (by kernel_rfl) (by kernel_rfl) (fun _ _ _ h => h) (Or.inl ⟨by kernel_rfl, ?_⟩) hS ?_
      · intro w hw; clear hw; go_simp
      change wpAnyH _ _ _ _ _ _ _ (Act.put _ (some 59) _) _
      simp only [Act.put, List.setIfInBounds_toArray, List.set_cons_succ, List.set_cons_zero]
      refine wpAnyH_take (i := 3) (v := .int .i64 (k : Int)) rfl (by kernel_rfl) (by kernel_rfl) (by kernel_rfl) (fun _ _ _ h => h) (Or.inl ⟨by kernel_rfl, ?_⟩) hS ?_
      · intro w hw; clear hw; go_simp
      change wpAnyH _ _ _ _ _ _ _ (Act.put _ (some 60) _) _
      simp only [Act.put, List.setIfInBounds_toArray, List.set_cons_succ, List.set_cons_zero]
      refine wpAnyH_take (i := 4) (v := .pointer (some ⟨bb, off + k * 6, none⟩)) rfl (by kernel_rfl) (by kernel_rfl) (by kernel_rfl) (fun _ _ _ h => h) (Or.inl ⟨by kernel_rfl, ?_⟩) hS ?_
      · intro w hw; clear hw; go_simp
      change wpAnyH _ _ _ _ _ _ _ (Act.put _ (some 61) _) _
      simp only [Act.put, List.setIfInBounds_toArray, List.set_cons_succ, List.set_cons_zero]
      refine wpAnyH_take (i := 5) (v := .agg #[.int .i64 kind, .int .i64 at_, .int .u8 (a : Int), .int .u8 (b : Int), .int .i64 n, .slice kp keepo.length kc]) rfl (by kernel_rfl) (by kernel_rfl) (by kernel_rfl) (fun _ _ _ h => h) (Or.inl ⟨by kernel_rfl, ?_⟩) hS ?_
      · intro W hw
        obtain ⟨q0, q1, q2, q3, q4, q5⟩ := hw
        go_simp
      change wpAnyH _ _ _ _ _ _ _ (Act.put _ (some 62) _) _
      simp only [Act.put, List.setIfInBounds_toArray, List.set_cons_succ, List.set_cons_zero]
      refine wpAnyH_ready (rs := [1]) (by kernel_rfl) (by simp) ?_
      refine AllReadyH.cons rfl (fun K hK => ?_) AllReadyH.nil
      go_simp
      go_wp2_with fail
      refine hK.out _ _ (HSXF.out _ (HFRW.out.trans hfrd)) (fun hS => ?_)
      clear hK K
      skip
      refine wpAnyH_ready (rs := [6]) (by kernel_rfl) (by simp) ?_
      refine AllReadyH.cons rfl (fun K hK => ?_) AllReadyH.nil
      go_simp
      go_wp2_with (go_at_call 12; refine (HDO.out _ (by go_grown)).mono ?_; rintro e w4 ⟨z0, z1, z2, z3, z4, z5, rfl, r', hF4, hR4, hS4, hfr4⟩)
      have hfrA : Fr w.heap.size w w4 := (HFRW.out.trans hfrd).trans hfr4
      have hz7 : w4.heap[b7]? = some (.cells #[x0, x1, x2, x3, x4, x5] 33 (0, 0)) := heap_fr (hfrd.trans hfr4) HS7.out
      refine hK.out _ _ (HSXF.out _ hfrA) (fun hS => ?_)
      clear hK K
      skip
      refine wpAnyH_take (i := 7) (v := .tuple #[.agg #[z0, z1, z2, z3, z4, z5], .bool true]) rfl (by kernel_rfl) (by kernel_rfl) (by kernel_rfl) (fun _ _ _ h => h) (Or.inl ⟨by kernel_rfl, ?_⟩) hS ?_
      · intro w hw; clear hw; go_simp
      change wpAnyH _ _ _ _ _ _ _ (Act.put _ (some 56) _) _
      simp only [Act.put, List.setIfInBounds_toArray, List.set_cons_succ, List.set_cons_zero]
      refine wpAnyH_take (i := 8) (v := .agg #[z0, z1, z2, z3, z4, z5]) rfl (by kernel_rfl) (by kernel_rfl) (by kernel_rfl) (fun _ _ _ h => h) (Or.inl ⟨by kernel_rfl, ?_⟩) hS ?_
      · intro w hw; clear hw; go_simp
      change wpAnyH _ _ _ _ _ _ _ (Act.put _ (some 64) _) _
      simp only [Act.put, List.setIfInBounds_toArray, List.set_cons_succ, List.set_cons_zero]
      refine wpAnyH_take (i := 9) (v := .bool true) rfl (by kernel_rfl) (by kernel_rfl) (by kernel_rfl) (fun _ _ _ h => h) (Or.inl ⟨by kernel_rfl, ?_⟩) hS ?_
      · intro w hw; clear hw; go_simp
      change wpAnyH _ _ _ _ _ _ _ (Act.put _ (some 65) _) _
      simp only [Act.put, List.setIfInBounds_toArray, List.set_cons_succ, List.set_cons_zero]
      refine wpAnyH_ready (rs := [10]) (by kernel_rfl) (by simp) ?_
      refine AllReadyH.cons rfl (fun K hK => ?_) AllReadyH.nil
      refine step_st33 rfl (.tmp 11) (.tmp 64) rfl b7 rfl _ _ _ _ _ _ _ hz7 rfl rfl (parts6 hR4) ?_
      intro w5 hw5 hg5
      have hfr5 : Fr w.heap.size w w5 := hfrA.local hg5 hs2
      refine hK.out _ _ (HSXF.out _ hfr5) (fun hS => ?_)
      clear hK K
      change wpAnyH _ _ _ _ _ _ _ (Act.put _ (none) _) _
      simp only [Act.put]
      refine wpAnyH_done (by kernel_rfl) ?_ _
      have HF5 := hid2 (hF4.box hz7 hg5)
      have HR5 := hid2 (hR4.box hz7 hg5)
      have HSM := hid2 hS4
      have HW5 := hid2 hw5
      have HFR5 := hid2 hfr5
      clear hF4 hR4 hS4 hfr4 hfrA hz7 hw5 hg5 hfr5
      go_wp2_with fail
      go_round
      case rel => exact ⟨k + 1, _, _, z0, z1, z2, z3, z4, z5, by go_num, by omega, HW5.out, HF5.out, HR5.out, HSM.out, HPG.out _, HFR5.out⟩
      case measure => simp [intOf]; omega
    · have hki : ¬ ((k : Int) < (os.length : Int)) := by omega
      have HFR := hid2 hfr
      have hsz := hfr.size
      have HF := hid2 (hF.more (N' := 40) (by omega))
      have HP := hid2 hpg
      have H7 := hid2 h7
      have HR := hid2 (hR.more (N' := 40) (by omega))
      have HSM := hid2 hS
      clear h7 hF hR hS hfr hpg
      go_wp2_with fail
      refine (flush_any HF.out (by omega)).mono ?_
      rintro e w4 ⟨u4, rfl, hu4, hF4, hfr4⟩
      have HFR4 := hid2 (HFR.out.trans hfr4)
      by_cases hc0 : (flushP d).2 = 0
      · rw [hc0] at hu4
        obtain rfl := hu4.none
        obtain ⟨fd, fw⟩ := flush_fine hc0
        have HFD := hid2 fd
        have HFW := hid2 fw
        have HPF : Hid ((flushP d).1.pages = 9) := (flush_pages d).trans HP.out
        have HF4 := hid2 hF4
        have H74 : Hid (w4.heap[b7]? = some (.cells #[x0, x1, x2, x3, x4, x5] 33 (0, 0))) := heap_fr hfr4 H7.out
        have HR4 := hid2 (HR.out.fr hfr4)
        have HDD := hid2 HF.out.1
        clear hu4 hF4 hfr4 hc0 fd fw
        generalize (flushP d).1 = d1 at *
        have hmod : (at8 : Int) % 9 = ((at8 % 9 : Nat) : Int) := by omega
        obtain ⟨pg, hpg⟩ : ∃ pg : Nat, pg = at8 % 9 := ⟨_, rfl⟩
        have hpl : pg < 9 := by omega
        rw [← hpg] at hmod
        clear hpg
        have hrd : readP d1 (pg : Int) = (d1.pg (pg : Int), 0) := by
          rw [read_up HFD.out (by omega) (by rw [HPF.out]; omega), (kept_of_none HFW.out (pg : Int)).look]
        have HRD := hid2 hrd
        clear hrd
        go_wp2_with fail
        rw [hmod]
        refine (read_any HF4.out (by omega) (pg : Int)).mono ?_
        rintro e w5 ⟨v5, u5, rfl, hu5, hv5, hb5⟩
        rw [HRD.out] at hu5 hv5
        obtain rfl := hu5.none
        have HWAS := hid2 hv5
        obtain ⟨wp, wc, hvf, _⟩ := hv5.form
        subst hvf
        have HF5 := hid2 (HF4.out.below hb5)
        have HFR5 := hid2 (HFR4.out.trans (Below.fr hb5))
        have H75 : Hid (w5.heap[b7]? = some (.cells #[x0, x1, x2, x3, x4, x5] 33 (0, 0))) := heap_stays H74.out hb5
        have HR5 := hid2 (HR4.out.below hb5)
        have HK5 : Hid (Kept d1 (pg : Int) (d1.pg (pg : Int))) := kept_of_none HFW.out _
        obtain ⟨p0, hp0⟩ : ∃ p0, p0 = d1.pg (pg : Int) := ⟨_, rfl⟩
        rw [← hp0] at HK5 HWAS
        rw [← hp0]
        have HPL : Hid (p0.length = 256) := by show _ = _; rw [hp0]; exact HF5.out.1.len _
        clear hu5 hv5 hb5 hp0 hmod
        go_wp2_with fail
        go_loopw [17, 18] (fun t i wr => ∃ (j : Nat) (dk ddk : Dev) (rk : Rf) (x0 x1 x2 x3 x4 x5 : Value) (T : Bool), t = .bool T ∧ i = .int .i64 (j : Int) ∧ j ≤ os2.length ∧ wr.heap[b7]? = some (.cells #[x0, x1, x2, x3, x4, x5] 33 (0, 0)) ∧ Fl wr w.heap.size g (41 + j) dk ∧ RfAt wr (.agg #[x0, x1, x2, x3, x4, x5]) rk (41 + j) ∧ Sim ddk rk ∧ DevOk ddk ∧ dk.pages = 9 ∧ (T = false → Kept dk (pg : Int) p0) ∧ BAt wr (.slice wp p0.length wc) p0 ∧ Fr w.heap.size w wr) (fun _ i _ => os2.length - (intOf i).toNat)
        case atStart => exact ⟨0, d1, d, r, x0, x1, x2, x3, x4, x5, false, rfl, rfl, Nat.zero_le _, H75.out, HF5.out.more (by omega), HR5.out.more (by omega), HSM.out, HDD.out, HPF.out, fun _ => HK5.out, HWAS.out, HFR5.out⟩
        case round =>
          clear H7 H74 H75 HF HR HSM HF4 HF5 HR4 HR5 HFR HFR4 HFR5 HK5 HRD HFD HFW HDD HPF HP
          obtain ⟨j, dk, ddk, rk, x0, x1, x2, x3, x4, x5, T, rfl, rfl, hj, h7, hF, hR, hS, hDD, hpg, hkept, hwas, hfr⟩ := hrel
          by_cases hjl : j < os2.length
          · have hji : (j : Int) < (os2.length : Int) := by omega
            obtain ⟨o, ho⟩ : ∃ o, os2[j]? = some o := ⟨_, List.getElem?_eq_getElem hjl⟩
            obtain ⟨p9, c9, e9, _, _, hel⟩ := HA2.out
            cases e9
            obtain ⟨hok, bb, off, rfl, hbB, hbs, c0, c1, c2, c3, c4, c5⟩ := hel j o ho
            clear hel ho
            obtain ⟨kind, at_, a, b, n, keepo, kv⟩ := o
            have hok' := hok
            obtain ⟨⟨kp, kc, hkv, _⟩, ha8, hb8, _⟩ := hok
            dsimp only at hkv c0 c1 c2 c3 c4 c5 ha8 hb8
            subst hkv
            replace c0 := (hfr.cell hbB hbs _).trans c0
            replace c1 := (hfr.cell hbB hbs _).trans c1
            replace c2 := (hfr.cell hbB hbs _).trans c2
            replace c3 := (hfr.cell hbB hbs _).trans c3
            replace c4 := (hfr.cell hbB hbs _).trans c4
            replace c5 := (hfr.cell hbB hbs _).trans c5
            have hb51 : Below wr.heap.size wr (wr.alloc (.cells #[.int .i64 kind, .int .i64 at_, .int .u8 (a : Int), .int .u8 (b : Int), .int .i64 n, .slice kp keepo.length kc] 42)) := by go_grown
            have HDO : Hid (Calls Tryd.prog 12 #[.pointer (some ⟨g, 0, none⟩), .agg #[x0, x1, x2, x3, x4, x5], .agg #[.int .i64 kind, .int .i64 at_, .int .u8 (a : Int), .int .u8 (b : Int), .int .i64 n, .slice kp keepo.length kc]] (wr.alloc (.cells #[.int .i64 kind, .int .i64 at_, .int .u8 (a : Int), .int .u8 (b : Int), .int .i64 n, .slice kp keepo.length kc] 42)) fun e w'' => ∃ y0 y1 y2 y3 y4 y5 ok, e = .returned (.tuple #[.agg #[y0, y1, y2, y3, y4, y5], .bool ok]) ∧ DoneG (wr.alloc (.cells #[.int .i64 kind, .int .i64 at_, .int .u8 (a : Int), .int .u8 (b : Int), .int .i64 n, .slice kp keepo.length kc] 42)) w'' w.heap.size g (41 + j + 1) (doP dk ⟨kind, at_, a, b, n, keepo, .slice kp keepo.length kc⟩) (doP ddk ⟨kind, at_, a, b, n, keepo, .slice kp keepo.length kc⟩) (.agg #[y0, y1, y2, y3, y4, y5])) :=
              gdo_any (hF.below hb51) (hR.below hb51) hS hDD (HE.out.fr (hfr.trans (Below.fr hb51)) h0) h0 (by omega) _ (hok'.fr (hfr.trans (Below.fr hb51)))
            have HS7 : Hid (wr.heap[b7]? = some (.cells #[x0, x1, x2, x3, x4, x5] 33 (0, 0))) := h7
            have HDK : Hid (DevOk (doP ddk ⟨kind, at_, a, b, n, keepo, .slice kp keepo.length kc⟩)) := doP_ok hDD _ ha8 hb8
            have HPG : Hid ((doP dk ⟨kind, at_, a, b, n, keepo, .slice kp keepo.length kc⟩).pages = 9) := (do_pages _ _).trans hpg
            have HFR6 := hid2 hfr
            have HWAS6 := hid2 hwas
            clear hwas
            obtain ⟨⟨g0, g1, g2, g3, g4, g5⟩, _⟩ := six' h7
            have hb7l : b7 < wr.heap.size := (Array.getElem?_eq_some_iff.1 h7).1
            clear h7 hF hR hS hDD hpg hfr hok' hb51 ha8 hb8
            cases T
            · have hker := hkept rfl
              have HKER := hid2 hker
              clear hkept hker
              by_cases k0 : kind = 0
              · subst k0
                by_cases ha : at_ = (pg : Int)
                · subst ha
                  go_wp2_with fail
                  refine (HDO.out).mono ?_
                  rintro e w8 ⟨z0, z1, z2, z3, z4, z5, ok, rfl, r8, hF8, hR8, hS8, hfr8⟩
                  have hz7 : w8.heap[b7]? = some (.cells #[x0, x1, x2, x3, x4, x5] 33 (0, 0)) := heap_fr hfr8 (heap_alloc_old HS7.out _)
                  have HFR8 := hid2 ((HFR6.out.trans (Below.fr (by go_grown))).trans hfr8)
                  have HP8 := hid2 (parts6 hR8)
                  have HF8 := hid2 hF8
                  have HR8 := hid2 hR8
                  have HS8 := hid2 hS8
                  have HZ7 := hid2 hz7
                  have HWAS8 := hid2 ((HWAS6.out.below (by go_grown)).fr hfr8)
                  obtain ⟨⟨y0, y1, y2, y3, y4, y5⟩, _⟩ := six' hz7
                  have hl7 : b7 < w8.heap.size := (Array.getElem?_eq_some_iff.1 hz7).1
                  clear hF8 hR8 hS8 hfr8 hz7
                  go_wp2_with (refine st33 rfl (.tmp 11) (.tmp 118) rfl b7 rfl _ _ _ _ _ _ _ HZ7.out rfl rfl HP8.out ?_; intro w9 hw9 hg9; have HF9 := hid2 (HF8.out.box HZ7.out hg9); have HR9 := hid2 (HR8.out.box HZ7.out hg9); have HFR9 := hid2 (HFR8.out.local hg9 hs2); have HW9 := hid2 hw9; have HWAS9 := hid2 (RowAt.box HWAS8.out HZ7.out hg9); clear hw9 hg9)
                  go_round
                  case rel => exact ⟨j + 1, _, _, _, z0, z1, z2, z3, z4, z5, true, rfl, by go_num, by omega, HW9.out, by have := HF9.out; exact this.more (by omega), HR9.out.more (by omega), HS8.out, HDK.out, HPG.out, (fun h => by cases h), HWAS9.out, HFR9.out⟩
                  case measure => simp [intOf]; omega
                · have HKN : Hid (Kept (doP dk ⟨0, at_, a, b, n, keepo, .slice kp keepo.length kc⟩) (pg : Int) p0) := HKER.out.does _ (fun _ => ha) (fun h => by cases h) (by show (0 : Int) ≠ 5; decide)
                  have ha' : (at_ == (pg : Int)) = false := by simpa using ha
                  clear ha
                  go_wp2_with fail
                  refine (HDO.out).mono ?_
                  rintro e w8 ⟨z0, z1, z2, z3, z4, z5, ok, rfl, r8, hF8, hR8, hS8, hfr8⟩
                  have hz7 : w8.heap[b7]? = some (.cells #[x0, x1, x2, x3, x4, x5] 33 (0, 0)) := heap_fr hfr8 (heap_alloc_old HS7.out _)
                  have HFR8 := hid2 ((HFR6.out.trans (Below.fr (by go_grown))).trans hfr8)
                  have HP8 := hid2 (parts6 hR8)
                  have HF8 := hid2 hF8
                  have HR8 := hid2 hR8
                  have HS8 := hid2 hS8
                  have HZ7 := hid2 hz7
                  have HWAS8 := hid2 ((HWAS6.out.below (by go_grown)).fr hfr8)
                  obtain ⟨⟨y0, y1, y2, y3, y4, y5⟩, _⟩ := six' hz7
                  have hl7 : b7 < w8.heap.size := (Array.getElem?_eq_some_iff.1 hz7).1
                  clear hF8 hR8 hS8 hfr8 hz7
                  go_wp2_with (refine st33 rfl (.tmp 11) (.tmp 118) rfl b7 rfl _ _ _ _ _ _ _ HZ7.out rfl rfl HP8.out ?_; intro w9 hw9 hg9; have HF9 := hid2 (HF8.out.box HZ7.out hg9); have HR9 := hid2 (HR8.out.box HZ7.out hg9); have HFR9 := hid2 (HFR8.out.local hg9 hs2); have HW9 := hid2 hw9; have HWAS9 := hid2 (RowAt.box HWAS8.out HZ7.out hg9); clear hw9 hg9)
                  go_round
                  case rel => exact ⟨j + 1, _, _, _, z0, z1, z2, z3, z4, z5, false, rfl, by go_num, by omega, HW9.out, by have := HF9.out; exact this.more (by omega), HR9.out.more (by omega), HS8.out, HDK.out, HPG.out, (fun _ => HKN.out), HWAS9.out, HFR9.out⟩
                  case measure => simp [intOf]; omega
              · have k0' : (kind == 0) = false := by simpa using k0
                by_cases k1 : kind = 1
                · subst k1
                  by_cases ha : at_ = (pg : Int)
                  · subst ha
                    go_wp2_with fail
                    refine (HDO.out).mono ?_
                    rintro e w8 ⟨z0, z1, z2, z3, z4, z5, ok, rfl, r8, hF8, hR8, hS8, hfr8⟩
                    have hz7 : w8.heap[b7]? = some (.cells #[x0, x1, x2, x3, x4, x5] 33 (0, 0)) := heap_fr hfr8 (heap_alloc_old HS7.out _)
                    have HFR8 := hid2 ((HFR6.out.trans (Below.fr (by go_grown))).trans hfr8)
                    have HP8 := hid2 (parts6 hR8)
                    have HF8 := hid2 hF8
                    have HR8 := hid2 hR8
                    have HS8 := hid2 hS8
                    have HZ7 := hid2 hz7
                    have HWAS8 := hid2 ((HWAS6.out.below (by go_grown)).fr hfr8)
                    obtain ⟨⟨y0, y1, y2, y3, y4, y5⟩, _⟩ := six' hz7
                    have hl7 : b7 < w8.heap.size := (Array.getElem?_eq_some_iff.1 hz7).1
                    clear hF8 hR8 hS8 hfr8 hz7
                    go_wp2_with (refine st33 rfl (.tmp 11) (.tmp 118) rfl b7 rfl _ _ _ _ _ _ _ HZ7.out rfl rfl HP8.out ?_; intro w9 hw9 hg9; have HF9 := hid2 (HF8.out.box HZ7.out hg9); have HR9 := hid2 (HR8.out.box HZ7.out hg9); have HFR9 := hid2 (HFR8.out.local hg9 hs2); have HW9 := hid2 hw9; have HWAS9 := hid2 (RowAt.box HWAS8.out HZ7.out hg9); clear hw9 hg9)
                    go_round
                    case rel => exact ⟨j + 1, _, _, _, z0, z1, z2, z3, z4, z5, true, rfl, by go_num, by omega, HW9.out, by have := HF9.out; exact this.more (by omega), HR9.out.more (by omega), HS8.out, HDK.out, HPG.out, (fun h => by cases h), HWAS9.out, HFR9.out⟩
                    case measure => simp [intOf]; omega
                  · have HKN : Hid (Kept (doP dk ⟨1, at_, a, b, n, keepo, .slice kp keepo.length kc⟩) (pg : Int) p0) := HKER.out.does _ (fun h => by cases h) (fun _ => ha) (by show (1 : Int) ≠ 5; decide)
                    have ha' : (at_ == (pg : Int)) = false := by simpa using ha
                    clear ha
                    go_wp2_with fail
                    refine (HDO.out).mono ?_
                    rintro e w8 ⟨z0, z1, z2, z3, z4, z5, ok, rfl, r8, hF8, hR8, hS8, hfr8⟩
                    have hz7 : w8.heap[b7]? = some (.cells #[x0, x1, x2, x3, x4, x5] 33 (0, 0)) := heap_fr hfr8 (heap_alloc_old HS7.out _)
                    have HFR8 := hid2 ((HFR6.out.trans (Below.fr (by go_grown))).trans hfr8)
                    have HP8 := hid2 (parts6 hR8)
                    have HF8 := hid2 hF8
                    have HR8 := hid2 hR8
                    have HS8 := hid2 hS8
                    have HZ7 := hid2 hz7
                    have HWAS8 := hid2 ((HWAS6.out.below (by go_grown)).fr hfr8)
                    obtain ⟨⟨y0, y1, y2, y3, y4, y5⟩, _⟩ := six' hz7
                    have hl7 : b7 < w8.heap.size := (Array.getElem?_eq_some_iff.1 hz7).1
                    clear hF8 hR8 hS8 hfr8 hz7
                    go_wp2_with (refine st33 rfl (.tmp 11) (.tmp 118) rfl b7 rfl _ _ _ _ _ _ _ HZ7.out rfl rfl HP8.out ?_; intro w9 hw9 hg9; have HF9 := hid2 (HF8.out.box HZ7.out hg9); have HR9 := hid2 (HR8.out.box HZ7.out hg9); have HFR9 := hid2 (HFR8.out.local hg9 hs2); have HW9 := hid2 hw9; have HWAS9 := hid2 (RowAt.box HWAS8.out HZ7.out hg9); clear hw9 hg9)
                    go_round
                    case rel => exact ⟨j + 1, _, _, _, z0, z1, z2, z3, z4, z5, false, rfl, by go_num, by omega, HW9.out, by have := HF9.out; exact this.more (by omega), HR9.out.more (by omega), HS8.out, HDK.out, HPG.out, (fun _ => HKN.out), HWAS9.out, HFR9.out⟩
                    case measure => simp [intOf]; omega
                · have k1' : (kind == 1) = false := by simpa using k1
                  by_cases k5 : kind = 5
                  · subst k5
                    go_wp2_with fail
                    refine (HDO.out).mono ?_
                    rintro e w8 ⟨z0, z1, z2, z3, z4, z5, ok, rfl, r8, hF8, hR8, hS8, hfr8⟩
                    have hz7 : w8.heap[b7]? = some (.cells #[x0, x1, x2, x3, x4, x5] 33 (0, 0)) := heap_fr hfr8 (heap_alloc_old HS7.out _)
                    have HFR8 := hid2 ((HFR6.out.trans (Below.fr (by go_grown))).trans hfr8)
                    have HP8 := hid2 (parts6 hR8)
                    have HF8 := hid2 hF8
                    have HR8 := hid2 hR8
                    have HS8 := hid2 hS8
                    have HZ7 := hid2 hz7
                    have HWAS8 := hid2 ((HWAS6.out.below (by go_grown)).fr hfr8)
                    obtain ⟨⟨y0, y1, y2, y3, y4, y5⟩, _⟩ := six' hz7
                    have hl7 : b7 < w8.heap.size := (Array.getElem?_eq_some_iff.1 hz7).1
                    clear hF8 hR8 hS8 hfr8 hz7
                    go_wp2_with (refine st33 rfl (.tmp 11) (.tmp 118) rfl b7 rfl _ _ _ _ _ _ _ HZ7.out rfl rfl HP8.out ?_; intro w9 hw9 hg9; have HF9 := hid2 (HF8.out.box HZ7.out hg9); have HR9 := hid2 (HR8.out.box HZ7.out hg9); have HFR9 := hid2 (HFR8.out.local hg9 hs2); have HW9 := hid2 hw9; have HWAS9 := hid2 (RowAt.box HWAS8.out HZ7.out hg9); clear hw9 hg9)
                    go_round
                    case rel => exact ⟨j + 1, _, _, _, z0, z1, z2, z3, z4, z5, true, rfl, by go_num, by omega, HW9.out, by have := HF9.out; exact this.more (by omega), HR9.out.more (by omega), HS8.out, HDK.out, HPG.out, (fun h => by cases h), HWAS9.out, HFR9.out⟩
                    case measure => simp [intOf]; omega
                  · have k5' : (kind == 5) = false := by simpa using k5
                    have HKN : Hid (Kept (doP dk ⟨kind, at_, a, b, n, keepo, .slice kp keepo.length kc⟩) (pg : Int) p0) := HKER.out.does _ (fun h => absurd h k0) (fun h => absurd h k1) k5
                    clear k0 k1 k5
                    go_wp2_with fail
                    refine (HDO.out).mono ?_
                    rintro e w8 ⟨z0, z1, z2, z3, z4, z5, ok, rfl, r8, hF8, hR8, hS8, hfr8⟩
                    have hz7 : w8.heap[b7]? = some (.cells #[x0, x1, x2, x3, x4, x5] 33 (0, 0)) := heap_fr hfr8 (heap_alloc_old HS7.out _)
                    have HFR8 := hid2 ((HFR6.out.trans (Below.fr (by go_grown))).trans hfr8)
                    have HP8 := hid2 (parts6 hR8)
                    have HF8 := hid2 hF8
                    have HR8 := hid2 hR8
                    have HS8 := hid2 hS8
                    have HZ7 := hid2 hz7
                    have HWAS8 := hid2 ((HWAS6.out.below (by go_grown)).fr hfr8)
                    obtain ⟨⟨y0, y1, y2, y3, y4, y5⟩, _⟩ := six' hz7
                    have hl7 : b7 < w8.heap.size := (Array.getElem?_eq_some_iff.1 hz7).1
                    clear hF8 hR8 hS8 hfr8 hz7
                    go_wp2_with (refine st33 rfl (.tmp 11) (.tmp 118) rfl b7 rfl _ _ _ _ _ _ _ HZ7.out rfl rfl HP8.out ?_; intro w9 hw9 hg9; have HF9 := hid2 (HF8.out.box HZ7.out hg9); have HR9 := hid2 (HR8.out.box HZ7.out hg9); have HFR9 := hid2 (HFR8.out.local hg9 hs2); have HW9 := hid2 hw9; have HWAS9 := hid2 (RowAt.box HWAS8.out HZ7.out hg9); clear hw9 hg9)
                    go_round
                    case rel => exact ⟨j + 1, _, _, _, z0, z1, z2, z3, z4, z5, false, rfl, by go_num, by omega, HW9.out, by have := HF9.out; exact this.more (by omega), HR9.out.more (by omega), HS8.out, HDK.out, HPG.out, (fun _ => HKN.out), HWAS9.out, HFR9.out⟩
                    case measure => simp [intOf]; omega
            · clear hkept
              go_wp2_with fail
              refine (HDO.out).mono ?_
              rintro e w8 ⟨z0, z1, z2, z3, z4, z5, ok, rfl, r8, hF8, hR8, hS8, hfr8⟩
              have hz7 : w8.heap[b7]? = some (.cells #[x0, x1, x2, x3, x4, x5] 33 (0, 0)) := heap_fr hfr8 (heap_alloc_old HS7.out _)
              have HFR8 := hid2 ((HFR6.out.trans (Below.fr (by go_grown))).trans hfr8)
              have HP8 := hid2 (parts6 hR8)
              have HF8 := hid2 hF8
              have HR8 := hid2 hR8
              have HS8 := hid2 hS8
              have HZ7 := hid2 hz7
              have HWAS8 := hid2 ((HWAS6.out.below (by go_grown)).fr hfr8)
              obtain ⟨⟨y0, y1, y2, y3, y4, y5⟩, _⟩ := six' hz7
              have hl7 : b7 < w8.heap.size := (Array.getElem?_eq_some_iff.1 hz7).1
              clear hF8 hR8 hS8 hfr8 hz7
              go_wp2_with (refine st33 rfl (.tmp 11) (.tmp 118) rfl b7 rfl _ _ _ _ _ _ _ HZ7.out rfl rfl HP8.out ?_; intro w9 hw9 hg9; have HF9 := hid2 (HF8.out.box HZ7.out hg9); have HR9 := hid2 (HR8.out.box HZ7.out hg9); have HFR9 := hid2 (HFR8.out.local hg9 hs2); have HW9 := hid2 hw9; have HWAS9 := hid2 (RowAt.box HWAS8.out HZ7.out hg9); clear hw9 hg9)
              go_round
              case rel => exact ⟨j + 1, _, _, _, z0, z1, z2, z3, z4, z5, true, rfl, by go_num, by omega, HW9.out, by have := HF9.out; exact this.more (by omega), HR9.out.more (by omega), HS8.out, HDK.out, HPG.out, (fun h => by cases h), HWAS9.out, HFR9.out⟩
              case measure => simp [intOf]; omega
          · have hji : ¬ ((j : Int) < (os2.length : Int)) := by omega
            have HFR6 := hid2 hfr
            have HWAS6 := hid2 hwas
            clear hwas
            have HF6 := hid2 hF
            have HP6 := hid2 hpg
            clear h7 hF hR hS hDD hpg hfr
            go_wp2_with fail
            refine (crash_any HF6.out (by omega) (HKL.out.fr HFR6.out).kat).mono ?_
            rintro e w7 ⟨rfl, hF7, hfr7⟩
            have HFR7 := hid2 (HFR6.out.trans hfr7)
            have HF7 := hid2 hF7
            have HWAS7 := hid2 (HWAS6.out.fr hfr7)
            have HC := hid2 (show (crashP dk keep).down = false ∧ (crashP dk keep).pages = 9 from ⟨rfl, HP6.out⟩)
            have HKP : Hid (T = false → lookP (crashP dk keep) (pg : Int) = p0) := fun h => ((hkept h).crash keep).look
            have hrd := read_up HC.out.1 (k := (pg : Int)) (by omega) (by rw [HC.out.2]; omega)
            have HRD := hid2 hrd
            clear hF7 hfr7 hkept hrd
            generalize crashP dk keep = d9 at *
            go_wp2_with fail
            refine (read_any HF7.out (by omega) (pg : Int)).mono ?_
            rintro e w8 ⟨v8, u8, rfl, hu8, hv8, hb8⟩
            rw [HRD.out] at hu8 hv8
            obtain rfl := hu8.none
            have HFR8 := hid2 (HFR7.out.trans (Below.fr hb8))
            have HV8 := hid2 hv8
            have HWAS8 := hid2 ((HWAS7.out).below hb8)
            clear hu8 hv8 hb8
            cases T
            · have e8 := HKP.out rfl
              rw [e8] at HV8
              go_wp2_with fail
              refine (same02_any HV8.out HWAS8.out).mono ?_
              rintro e w9 ⟨rfl, hb9⟩
              have HFR9 := hid2 (HFR8.out.trans (Below.fr hb9))
              go_wp2_with fail
              refine (works_any _ (HE.out.fr HFR9.out h0) (by have := HFR9.out.size; omega)).mono ?_
              rintro e w10 ⟨rfl, hb10⟩
              go_wp2_with fail
              go_ret
              exact ⟨rfl, (HFR9.out.trans (Below.fr hb10)).below (Nat.le_refl _)⟩
            · go_wp2_with fail
              refine (works_any _ (HE.out.fr HFR8.out h0) (by have := HFR8.out.size; omega)).mono ?_
              rintro e w10 ⟨rfl, hb10⟩
              go_wp2_with fail
              go_ret
              exact ⟨rfl, (HFR8.out.trans (Below.fr hb10)).below (Nat.le_refl _)⟩
      · obtain ⟨b9, o9, a9, hu9, _⟩ : ∃ b op a, u4 = .iface 90 (.pointer (some ⟨b, 0, none⟩)) ∧ True := by
          rcases hu4 with ⟨h, _⟩ | ⟨_, b, op, a, h, _⟩
          · exact absurd h hc0
          · exact ⟨b, op, a, h, trivial⟩
        subst hu9
        clear hu4 hF4 hfr4
        go_wp2_with fail
        refine (works_any _ (HE.out.fr HFR4.out h0) (by have := HFR4.out.size; omega)).mono ?_
        rintro e w10 ⟨rfl, hb10⟩
        go_wp2_with fail
        go_ret
        exact ⟨rfl, (HFR4.out.trans (Below.fr hb10)).below (Nat.le_refl _)⟩

/-- The sentence's function answers true, whatever comes in. -/
theorem firm_any {w : World} {v0 v1 kv : Value} {os os2 : List Act4} {keep : List Int} {at8 : Nat} (hA : ActsAt w w.heap.size v0 os) (hA2 : ActsAt w w.heap.size v1 os2) (hK : KLow w w.heap.size kv keep) (hat : at8 < 256) (hE : ErrT w) (h0 : 0 < w.heap.size) :
    Calls Tryd.prog 4 #[v0, v1, kv, .int .u8 (at8 : Int)] w fun e w' => e = .returned (.bool true) ∧ Below w.heap.size w w' := by
  cases hl : lightB os with
  | false => exact firm_out hA hA2 hK hE h0 (.inl hl)
  | true =>
    cases hl2 : lightB os2 with
    | false => exact firm_out hA hA2 hK hE h0 (.inr (.inl hl2))
    | true =>
      by_cases hk : keep.length ≤ 60
      · exact firm_good hA hA2 hK hat hE h0 hl hl2 hk
      · exact firm_out hA hA2 hK hE h0 (.inr (.inr (by omega)))
end Go.Proofs.YtfogocappakbdaaDoor
