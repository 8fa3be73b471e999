/-
  Each byte behind a crash is one that was there: the walk of that sentence.
-/
import Derived.Test.YtfogocappakbdaaDoorLawDoes
import Derived.Test.YtfogocappakbdaaDoorFirm
namespace Go.Proofs.YtfogocappakbdaaDoor
open Go.RowKit

theorem below_drewN' (w : World) (n : Nat) : Below w.heap.size w (w.drewN n) := ⟨rfl, rfl, rfl, Nat.le_refl _, fun _ _ => rfl⟩

set_option maxHeartbeats 4000000 in
set_option maxRecDepth 10000 in
theorem torn_out {w : World} {v0 kv : Value} {os : List Act4} {keep : List Int} {a b : Nat} {t : Bool} (hA : ActsAt w w.heap.size v0 os) (hK : KLow w w.heap.size kv keep) (hE : ErrT w) (h0 : 0 < w.heap.size) (hout : lightB os = false ∨ 60 < keep.length) :
    Calls Tryd.prog 5 #[v0, .int .u8 (a : Int), .int .u8 (b : Int), .bool t, kv] w fun e w' => e = .returned (.bool true) ∧ Below w.heap.size w w' := by
  have HE := hid2 hE
  have HK0 : Hid (Calls Tryd.prog 7 #[v0] w fun e w' => e = .returned (.bool (lightB os)) ∧ w' = w) := light_any hA
  obtain ⟨kp, kc, rfl, _⟩ := hK
  clear hA hE
  generalize lightB os = l0 at *
  cases l0
  · clear hout
    go_enter Tryd.func5, Tryd.ntmps5
    go_wp2_with fail
    refine (show Calls _ _ _ _ _ from HK0).mono ?_
    rintro e wa ⟨rfl, hww⟩
    cases hww
    go_wp2_with fail
    refine (works_any _ HE.out h0).mono ?_
    rintro e wa ⟨rfl, hww⟩
    go_wp2_with fail
    go_ret
    exact ⟨rfl, hww⟩
  · have hk : 60 < keep.length := by simpa using hout
    have hk' : 60 < (keep.length : Int) := by omega
    clear hout hk
    go_enter Tryd.func5, Tryd.ntmps5
    go_wp2_with fail
    refine (show Calls _ _ _ _ _ from HK0).mono ?_
    rintro e wa ⟨rfl, hww⟩
    cases hww
    go_wp2_with fail
    refine (works_any _ HE.out h0).mono ?_
    rintro e wa ⟨rfl, hww⟩
    go_wp2_with fail
    go_ret
    exact ⟨rfl, hww⟩

set_option maxHeartbeats 8000000 in
set_option maxRecDepth 10000 in
theorem torn_good {w : World} {v0 kv : Value} {os : List Act4} {keep : List Int} {a b : Nat} {t : Bool} (hA : ActsAt w w.heap.size v0 os) (hK : KLow w w.heap.size kv keep) (hab : a < 256 ∧ b < 256) (hE : ErrT w) (h0 : 0 < w.heap.size) (hl : lightB os = true) (hkl : keep.length ≤ 60) :
    Calls Tryd.prog 5 #[v0, .int .u8 (a : Int), .int .u8 (b : Int), .bool t, kv] w fun e w' => e = .returned (.bool true) ∧ Below w.heap.size w w' := by
  have HK0 : Hid (Calls Tryd.prog 7 #[v0] w fun e w' => e = .returned (.bool (lightB os)) ∧ w' = w) := light_any hA
  have h40 := light_len hl
  rw [hl] at HK0
  have HA := hid2 hA
  have HKL := hid2 hK
  obtain ⟨p, cap, rfl, hcap, hmax, _⟩ := hA
  obtain ⟨kp9, kc9, rfl, _⟩ := hK
  unfold maxLen at hmax
  have HE := hid2 hE
  have hk' : ¬ 60 < (keep.length : Int) := by omega
  clear hE hl hkl
  go_enter Tryd.func5, Tryd.ntmps5
  go_wp2_with fail
  refine (show Calls _ _ _ _ _ from HK0).mono ?_
  rintro e wa ⟨rfl, hww⟩
  cases hww
  go_wp2_with (first | (go_at_call 9; refine (new_good 9 _ (B := w.heap.size) (Nat.le_refl _) (by omega) (by omega)).mono ?_; rintro e w1 ⟨g, rfl, hF1, hb1⟩; have HB1 := hid2 hb1; have HF1 := hid2 hF1; clear hb1 hF1) | (go_at_call 10; refine (rnew_good 9 _ (by omega) (by omega)).mono ?_; rintro e w2 ⟨rfl, hb2⟩; have HF2 := hid2 (HF1.out.below hb2); have HB2 := hid2 (HB1.out.trans (hb2.mono HB1.out.size)); clear hb2))
  have HF3 : Hid (Fl (w2.alloc (.cells #[.int .i64 9, .slice none 0 0, .slice none 0 0, .int .i64 (-1), .bool false, .int .i64 0] 33)) w.heap.size g 0 (newP 9)) := HF2.out.below (by go_grown)
  have HB3 : Hid (Below w.heap.size w (w2.alloc (.cells #[.int .i64 9, .slice none 0 0, .slice none 0 0, .int .i64 (-1), .bool false, .int .i64 0] 33))) := HB2.out.trans ((Below.refl _ _).alloc (Nat.le_refl _) _ |>.mono HB2.out.size)
  have H73 : Hid ((w2.alloc (.cells #[.int .i64 9, .slice none 0 0, .slice none 0 0, .int .i64 (-1), .bool false, .int .i64 0] 33)).heap[w2.heap.size]? = some (.cells #[.int .i64 9, .slice none 0 0, .slice none 0 0, .int .i64 (-1), .bool false, .int .i64 0] 33 (0, 0))) := heap_alloc_last _ _
  have hs2 := HB2.out.size
  generalize hb7 : w2.heap.size = b7 at *
  generalize hw3 : w2.alloc (.cells #[.int .i64 9, .slice none 0 0, .slice none 0 0, .int .i64 (-1), .bool false, .int .i64 0] 33) = w3 at *
  clear hb7 hw3
  go_loopw [15] (fun i wr => ∃ (k : Nat) (d : Dev) (r : Rf) (x0 x1 x2 x3 x4 x5 : Value), i = .int .i64 (k : Int) ∧ k ≤ os.length ∧ wr.heap[b7]? = some (.cells #[x0, x1, x2, x3, x4, x5] 33 (0, 0)) ∧ Fl wr w.heap.size g k d ∧ RfAt wr (.agg #[x0, x1, x2, x3, x4, x5]) r k ∧ Sim d r ∧ d.pages = 9 ∧ Fr w.heap.size w wr) (fun i _ => os.length - (intOf i).toNat)
  case atStart => exact ⟨0, _, _, _, _, _, _, _, _, rfl, Nat.zero_le _, H73.out, HF3.out, rf_new _ _, sim_new _, rfl, Below.fr HB3.out⟩
  case round =>
    obtain ⟨k, d, r, x0, x1, x2, x3, x4, x5, rfl, hk, h7, hF, hR, hS, hpg, hfr⟩ := hrel
    by_cases hlt : k < os.length
    · have hki : (k : Int) < (os.length : Int) := by omega
      obtain ⟨o, ho⟩ : ∃ o, os[k]? = some o := ⟨_, List.getElem?_eq_getElem hlt⟩
      obtain ⟨p9, c9, e9, _, _, hel⟩ := HA.out
      cases e9
      obtain ⟨hok, bb, off, rfl, hbB, hbs, c0, c1, c2, c3, c4, c5⟩ := hel k o ho
      clear hel ho
      obtain ⟨kind, at_, a, b, n, keepo, kv⟩ := o
      have hok' := hok
      obtain ⟨⟨kp, kc, hkv, _⟩, _⟩ := hok
      dsimp only at hkv c0 c1 c2 c3 c4 c5
      subst hkv
      have HDO : Hid (∀ w', Below wr.heap.size wr w' → Calls Tryd.prog 12 #[.pointer (some ⟨g, 0, none⟩), .agg #[x0, x1, x2, x3, x4, x5], .agg #[.int .i64 kind, .int .i64 at_, .int .u8 (a : Int), .int .u8 (b : Int), .int .i64 n, .slice kp keepo.length kc]] w' fun e w'' => ∃ y0 y1 y2 y3 y4 y5, e = .returned (.tuple #[.agg #[y0, y1, y2, y3, y4, y5], .bool true]) ∧ DoneAt w' w'' w.heap.size g (k + 1) (doP d ⟨kind, at_, a, b, n, keepo, .slice kp keepo.length kc⟩) (.agg #[y0, y1, y2, y3, y4, y5])) := fun w' hf' => by
        exact do_any (hF.below hf') (hR.below hf') hS (HE.out.fr (hfr.trans (Below.fr hf')) h0) h0 (by omega) _ (hok'.fr (hfr.trans (Below.fr hf')))
      have HS7 : Hid (wr.heap[b7]? = some (.cells #[x0, x1, x2, x3, x4, x5] 33 (0, 0))) := h7
      have HSXF : Hid (∀ w', Fr w.heap.size w w' → w'.cell? ⟨bb, off + k * 6, none⟩ = some (.int .i64 kind) ∧ w'.cell? ⟨bb, off + k * 6 + 1, none⟩ = some (.int .i64 at_) ∧ w'.cell? ⟨bb, off + k * 6 + 2, none⟩ = some (.int .u8 (a : Int)) ∧ w'.cell? ⟨bb, off + k * 6 + 3, none⟩ = some (.int .u8 (b : Int)) ∧ w'.cell? ⟨bb, off + k * 6 + 4, none⟩ = some (.int .i64 n) ∧ w'.cell? ⟨bb, off + k * 6 + 5, none⟩ = some (.slice kp keepo.length kc)) := fun w' hf' => ⟨(hf'.cell hbB hbs _).trans c0, (hf'.cell hbB hbs _).trans c1, (hf'.cell hbB hbs _).trans c2, (hf'.cell hbB hbs _).trans c3, (hf'.cell hbB hbs _).trans c4, (hf'.cell hbB hbs _).trans c5⟩
      have hfrd : Fr w.heap.size wr wr.drew := Below.fr (Below.refl _ _).drew
      have HFRW := hid2 hfr
      have HPG : Hid (∀ o, (doP d o).pages = 9) := fun o => (do_pages d o).trans hpg
      obtain ⟨⟨g0, g1, g2, g3, g4, g5⟩, _⟩ := six' h7
      clear c0 c1 c2 c3 c4 c5 h7 hF hR hS hfr hpg
      go_wp2_with fail
      refine wp_region_held_drew (S := fun w' => w'.cell? ⟨bb, off + k * 6, none⟩ = some (.int .i64 kind) ∧ w'.cell? ⟨bb, off + k * 6 + 1, none⟩ = some (.int .i64 at_) ∧ w'.cell? ⟨bb, off + k * 6 + 2, none⟩ = some (.int .u8 (a : Int)) ∧ w'.cell? ⟨bb, off + k * 6 + 3, none⟩ = some (.int .u8 (b : Int)) ∧ w'.cell? ⟨bb, off + k * 6 + 4, none⟩ = some (.int .i64 n) ∧ w'.cell? ⟨bb, off + k * 6 + 5, none⟩ = some (.slice kp keepo.length kc)) (by kernel_rfl) (HSXF.out _ (HFRW.out.trans hfrd)) (fun hS => ?_)
      change wpAnyH _ _ _ _ _ _ _ _ (World.drew _)
      refine wpAnyH_take (i := 0) (v := .pointer (some ⟨g, 0, none⟩)) rfl (by kernel_rfl) (by kernel_rfl) (by kernel_rfl) (fun _ _ _ h => h) (Or.inl ⟨by kernel_rfl, ?_⟩) hS ?_
      · intro w hw; clear hw; go_simp
      change wpAnyH _ _ _ _ _ _ _ (Act.put _ (some 52) _) _
      simp only [Act.put, List.setIfInBounds_toArray, List.set_cons_succ, List.set_cons_zero]
      refine wpAnyH_take (i := 2) (v := .slice (some ⟨bb, off, none⟩) os.length cap) rfl (by kernel_rfl) (by kernel_rfl) (by kernel_rfl) (fun _ _ _ h => h) (Or.inl ⟨by kernel_rfl, ?_⟩) hS ?_
      · intro w hw; clear hw; go_simp
      change wpAnyH _ _ _ _ _ _ _ (Act.put _ (some 54) _) _
      simp only [Act.put, List.setIfInBounds_toArray, List.set_cons_succ, List.set_cons_zero]
      refine wpAnyH_take (i := 3) (v := .int .i64 (k : Int)) rfl (by kernel_rfl) (by kernel_rfl) (by kernel_rfl) (fun _ _ _ h => h) (Or.inl ⟨by kernel_rfl, ?_⟩) hS ?_
      · intro w hw; clear hw; go_simp
      change wpAnyH _ _ _ _ _ _ _ (Act.put _ (some 55) _) _
      simp only [Act.put, List.setIfInBounds_toArray, List.set_cons_succ, List.set_cons_zero]
      refine wpAnyH_take (i := 4) (v := .pointer (some ⟨bb, off + k * 6, none⟩)) rfl (by kernel_rfl) (by kernel_rfl) (by kernel_rfl) (fun _ _ _ h => h) (Or.inl ⟨by kernel_rfl, ?_⟩) hS ?_
      · intro w hw; clear hw; go_simp
      change wpAnyH _ _ _ _ _ _ _ (Act.put _ (some 56) _) _
      simp only [Act.put, List.setIfInBounds_toArray, List.set_cons_succ, List.set_cons_zero]
      refine wpAnyH_take (i := 5) (v := .agg #[.int .i64 kind, .int .i64 at_, .int .u8 (a : Int), .int .u8 (b : Int), .int .i64 n, .slice kp keepo.length kc]) rfl (by kernel_rfl) (by kernel_rfl) (by kernel_rfl) (fun _ _ _ h => h) (Or.inl ⟨by kernel_rfl, ?_⟩) hS ?_
      · intro W hw
        obtain ⟨q0, q1, q2, q3, q4, q5⟩ := hw
        go_simp
      change wpAnyH _ _ _ _ _ _ _ (Act.put _ (some 57) _) _
      simp only [Act.put, List.setIfInBounds_toArray, List.set_cons_succ, List.set_cons_zero]
      refine wpAnyH_ready (rs := [1]) (by kernel_rfl) (by simp) ?_
      refine AllReadyH.cons rfl (fun K hK => ?_) AllReadyH.nil
      go_simp
      go_wp2_with fail
      refine hK.out _ _ (HSXF.out _ (HFRW.out.trans hfrd)) (fun hS => ?_)
      clear hK K
      skip
      refine wpAnyH_ready (rs := [6]) (by kernel_rfl) (by simp) ?_
      refine AllReadyH.cons rfl (fun K hK => ?_) AllReadyH.nil
      go_simp
      go_wp2_with (go_at_call 12; refine (HDO.out _ (by go_grown)).mono ?_; rintro e w4 ⟨z0, z1, z2, z3, z4, z5, rfl, r', hF4, hR4, hS4, hfr4⟩)
      have hfrA : Fr w.heap.size w w4 := (HFRW.out.trans hfrd).trans hfr4
      have hz7 : w4.heap[b7]? = some (.cells #[x0, x1, x2, x3, x4, x5] 33 (0, 0)) := heap_fr (hfrd.trans hfr4) HS7.out
      refine hK.out _ _ (HSXF.out _ hfrA) (fun hS => ?_)
      clear hK K
      skip
      refine wpAnyH_take (i := 7) (v := .tuple #[.agg #[z0, z1, z2, z3, z4, z5], .bool true]) rfl (by kernel_rfl) (by kernel_rfl) (by kernel_rfl) (fun _ _ _ h => h) (Or.inl ⟨by kernel_rfl, ?_⟩) hS ?_
      · intro w hw; clear hw; go_simp
      change wpAnyH _ _ _ _ _ _ _ (Act.put _ (some 51) _) _
      simp only [Act.put, List.setIfInBounds_toArray, List.set_cons_succ, List.set_cons_zero]
      refine wpAnyH_take (i := 8) (v := .agg #[z0, z1, z2, z3, z4, z5]) rfl (by kernel_rfl) (by kernel_rfl) (by kernel_rfl) (fun _ _ _ h => h) (Or.inl ⟨by kernel_rfl, ?_⟩) hS ?_
      · intro w hw; clear hw; go_simp
      change wpAnyH _ _ _ _ _ _ _ (Act.put _ (some 59) _) _
      simp only [Act.put, List.setIfInBounds_toArray, List.set_cons_succ, List.set_cons_zero]
      refine wpAnyH_take (i := 9) (v := .bool true) rfl (by kernel_rfl) (by kernel_rfl) (by kernel_rfl) (fun _ _ _ h => h) (Or.inl ⟨by kernel_rfl, ?_⟩) hS ?_
      · intro w hw; clear hw; go_simp
      change wpAnyH _ _ _ _ _ _ _ (Act.put _ (some 60) _) _
      simp only [Act.put, List.setIfInBounds_toArray, List.set_cons_succ, List.set_cons_zero]
      refine wpAnyH_ready (rs := [10]) (by kernel_rfl) (by simp) ?_
      refine AllReadyH.cons rfl (fun K hK => ?_) AllReadyH.nil
      refine step_st33 rfl (.tmp 13) (.tmp 59) rfl b7 rfl _ _ _ _ _ _ _ hz7 rfl rfl (parts6 hR4) ?_
      intro w5 hw5 hg5
      have hfr5 : Fr w.heap.size w w5 := hfrA.local hg5 hs2
      refine hK.out _ _ (HSXF.out _ hfr5) (fun hS => ?_)
      clear hK K
      change wpAnyH _ _ _ _ _ _ _ (Act.put _ (none) _) _
      simp only [Act.put]
      refine wpAnyH_done (by kernel_rfl) ?_ _
      have HF5 := hid2 (hF4.box hz7 hg5)
      have HR5 := hid2 (hR4.box hz7 hg5)
      have HSM := hid2 hS4
      have HW5 := hid2 hw5
      have HFR5 := hid2 hfr5
      clear hF4 hR4 hS4 hfr4 hfrA hz7 hw5 hg5 hfr5
      go_wp2_with fail
      go_round
      case rel => exact ⟨k + 1, _, _, z0, z1, z2, z3, z4, z5, by go_num, by omega, HW5.out, HF5.out, HR5.out, HSM.out, HPG.out _, HFR5.out⟩
      case measure => simp [intOf]; omega
    · have hki : ¬ ((k : Int) < (os.length : Int)) := by omega
      have HFR := hid2 hfr
      have hsz := hfr.size
      have HF := hid2 (hF.more (N' := 40) (by omega))
      have HP := hid2 hpg
      have H7 := hid2 h7
      have HR := hid2 (hR.more (N' := 40) (by omega))
      have HSM := hid2 hS
      clear h7 hF hR hS hfr hpg
      go_wp2_with fail
      refine (crash_any HF.out (by omega) (kv := .slice none 0 0) (keep := []) ⟨none, 0, rfl, Nat.le_refl _, by unfold maxLen; omega, by simp⟩).mono ?_
      rintro e w4 ⟨rfl, hF4, hfr4⟩
      have HC1 := hid2 (calm_crash HP.out [])
      have HF4 := hid2 hF4
      have HFR4 := hid2 (HFR.out.trans hfr4)
      clear hF4 hfr4
      generalize crashP d [] = d1 at *
      have HLS : Hid ((d1.pg 3).length = 256) := HF4.out.1.len 3
      go_wp2_with fail
      refine (read_any HF4.out (by omega) 3).mono ?_
      rintro e w5 ⟨v5, u5, rfl, hu5, hv5, hb5⟩
      rw [HC1.out.read] at hu5 hv5
      obtain rfl := hu5.none
      obtain ⟨bs, so, cs, rfl, _⟩ := hv5.page HLS.out
      have HSF5 := hid2 hv5
      have HFR5 := hid2 (HFR4.out.trans (Below.fr hb5))
      have HF5 := hid2 (HF4.out.below hb5)
      clear hu5 hv5 hb5
      go_wp2_with fail
      refine (bytes_at _ a b _ rfl).mono ?_
      rintro e w6 ⟨rfl, hh6, hb6⟩
      have HBV := hid2 (row5 hh6 (bytN_length a b 256) (n := 256) (by omega))
      have HFR6 := hid2 (HFR5.out.trans (Below.fr hb6))
      have HF6 := hid2 (HF5.out.below hb6)
      have HSF6 := hid2 (HSF5.out.below hb6)
      clear hh6 hb6
      go_wp2_with fail
      refine (write_any HF6.out (by omega) 3 HBV.out (fun x hx => bytN_byt hab.1 hab.2 256 x (List.mem_of_mem_take hx))).mono ?_
      rintro e w7 ⟨u7, rfl, hu7, hF7, hfr7⟩
      rw [show (bytP a b).take 256 = bytP a b from take256 (bytN_length a b 256)] at hu7 hF7
      obtain ⟨k1, k2, k3⟩ := HC1.out.write (q := bytP a b) (bytN_length a b 256)
      rw [k1] at hu7
      obtain rfl := hu7.none
      have HPG := hid2 k2
      have HC2 := hid2 k3
      have HF7 := hid2 hF7
      have HFR7 := hid2 (HFR6.out.trans hfr7)
      have HSF7 := hid2 (HSF6.out.fr hfr7)
      clear hu7 hF7 hfr7 k1 k2 k3
      generalize (writeP d1 3 (bytP a b)).1 = d2 at *
      cases t
      · have HC3 := HC2
        generalize d2 = d3 at *
        go_wp2_with fail
        refine (crash_any HF7.out (by omega) (HKL.out.fr HFR7.out).kat).mono ?_
        rintro e w8 ⟨rfl, hF8, hfr8⟩
        have HN8 : Hid ((crashP d3 keep).pg 3 = layN d1.pg (twoC (bytP a b) false) (keepAt keep) (twoC (bytP a b) false).length 3) := by
          show layN d3.pg d3.waits (keepAt keep) d3.waits.length 3 = _
          rw [HC3.out.waits, HPG.out]
        have HC8 := hid2 (calm_crash HC3.out.pages keep)
        have hok8 := hF8.1.len 3
        have HF8 := hid2 hF8
        have HFR8 := hid2 (HFR7.out.trans hfr8)
        have HSF8 := hid2 (HSF7.out.fr hfr8)
        clear hF8 hfr8
        generalize crashP d3 keep = d4 at *
        go_wp2_with fail
        refine (read_any HF8.out (by omega) 3).mono ?_
        rintro e w9 ⟨v9, u9, rfl, hu9, hv9, hb9⟩
        rw [HC8.out.read] at hu9 hv9
        obtain rfl := hu9.none
        obtain ⟨bn, on, cn, rfl, _⟩ := hv9.page hok8
        have HNW := hid2 hv9
        have HFR9 := hid2 (HFR8.out.trans (Below.fr hb9))
        have HSF9 := hid2 (HSF8.out.below hb9)
        clear hu9 hv9 hb9
        go_wp2_with fail
        refine (bytes_at _ a b _ rfl).mono ?_
        rintro e w10 ⟨rfl, hh10, hb10⟩
        obtain ⟨_, _, _, e1, hR1⟩ := (row5 hh10 (bytN_length a b 256) (n := 256) (by omega)).page (by rw [show (bytP a b).take 256 = bytP a b from take256 (bytN_length a b 256)]; exact bytN_length a b 256)
        obtain ⟨_, _, _, e2, hR2⟩ := BAt.page (b := d4.pg 3) (HNW.out.below hb10) hok8
        obtain ⟨_, _, _, e3, hR3⟩ := BAt.page (b := d1.pg 3) (HSF9.out.below hb10) HLS.out
        cases e1
        cases e2
        cases e3
        rw [show (bytP a b).take 256 = bytP a b from take256 (bytN_length a b 256)] at hR1
        have HBL : Hid (bn < w10.heap.size ∧ bs < w10.heap.size ∧ w9.heap.size < w10.heap.size) := ⟨lt_of_cell (hR2 0 _ (U_at (List.getElem?_eq_getElem (by rw [hok8]; omega)))), lt_of_cell (hR3 0 _ (U_at (List.getElem?_eq_getElem (by rw [HLS.out]; omega)))), lt_of_cell (hR1 0 _ (U_at (List.getElem?_eq_getElem (by rw [show (bytP a b).length = 256 from bytN_length a b 256]; omega))))⟩
        have HR1 := hid2 hR1
        have HR2 := hid2 hR2
        have HR3 := hid2 hR3
        have HL4 := hid2 hok8
        have HFR10 := hid2 (HFR9.out.trans (Below.fr hb10))
        clear hR1 hR2 hR3 hh10 hb10 hok8
        go_wp2_with fail
        go_loopw [21] (fun i wr => ∃ (j nn : Nat), i = .int .i64 (j : Int) ∧ j ≤ 256 ∧ wr = w10.drewN nn) (fun i _ => 256 - (intOf i).toNat)
        case atStart => exact ⟨0, 0, rfl, Nat.zero_le _, rfl⟩
        case round =>
          obtain ⟨j, nn, rfl, hj, rfl⟩ := hrel
          by_cases hj6 : j < 256
          · have hji : (j : Int) < 256 := by omega
            obtain ⟨x, hx⟩ : ∃ x, (d4.pg 3)[j]? = some x := ⟨_, List.getElem?_eq_getElem (by rw [HL4.out]; omega)⟩
            obtain ⟨y, hy⟩ : ∃ y, (d1.pg 3)[j]? = some y := ⟨_, List.getElem?_eq_getElem (by rw [HLS.out]; omega)⟩
            obtain ⟨z, hz⟩ : ∃ z, (bytP a b)[j]? = some z := ⟨_, List.getElem?_eq_getElem (by rw [show (bytP a b).length = 256 from bytN_length a b 256]; omega)⟩
            have q2 := HR2.out j _ (U_at hx)
            have q3 := HR3.out j _ (U_at hy)
            have q1 := HR1.out j _ (U_at hz)
            have hor := torn_at (pg := d1.pg) (q := bytP a b) (trim := false) (f := keepAt keep) HLS.out (bytN_length a b 256) (by rw [← HN8.out]; exact hx) hy hz
            rw [Nat.zero_add] at q1
            obtain ⟨hb1, hb2, hb3⟩ := HBL.out
            clear hx hy hz
            by_cases hxy : x = y
            · subst hxy
              clear hor
              have hd : ((x : Int) != (x : Int)) = false := by simp
              go_wp2_with fail
              go_quiet (fail)
              go_wp2
              go_round
              case rel => exact ⟨j + 1, nn + nq, by go_num, by omega, rfl⟩
              case measure => simp [intOf]; omega
            · have hd : ((x : Int) != (y : Int)) = true := by rw [bne_iff_ne]; omega
              by_cases hxz : x = z
              · subst hxz
                clear hor
                have hd2 : ((x : Int) != (x : Int)) = false := by simp
                go_wp2_with fail
                go_quiet (fail)
                go_wp2
                go_round
                case rel => exact ⟨j + 1, nn + nq, by go_num, by omega, rfl⟩
                case measure => simp [intOf]; omega
              · exfalso
                rcases hor with h | h | ⟨h, _⟩
                · exact hxy h
                · exact hxz h
                · cases h
          · have hji : ¬ ((j : Int) < 256) := by omega
            go_wp2_with fail
            refine (works_any _ (HE.out.fr (HFR10.out.trans (Below.fr (below_drewN' w10 nn))) h0) (by have := HFR10.out.size; show 0 < w10.heap.size; omega)).mono ?_
            rintro e w11 ⟨rfl, hb11⟩
            go_wp2_with fail
            go_ret
            exact ⟨rfl, ((HFR10.out.trans (Below.fr (below_drewN' w10 nn))).trans (Below.fr hb11)).below (Nat.le_refl _)⟩
      · go_wp2_with fail
        refine (trim_any HF7.out (by omega) 3).mono ?_
        rintro e w7t ⟨u8, rfl, hu8, hF8, hfr8⟩
        obtain ⟨k1, k2, k3⟩ := HC2.out.trim
        rw [k1] at hu8
        obtain rfl := hu8.none
        have HPGt := hid2 (k2.trans HPG.out)
        have HC3 := hid2 k3
        have HF7t := hid2 hF8
        have HFR7t := hid2 (HFR7.out.trans hfr8)
        have HSF7t := hid2 (HSF7.out.fr hfr8)
        clear hu8 hF8 hfr8 k1 k2 k3 HPG HF7 HFR7 HSF7
        generalize (trimP d2 3).1 = d3 at *
        go_wp2_with fail
        refine (crash_any HF7t.out (by omega) (HKL.out.fr HFR7t.out).kat).mono ?_
        rintro e w8 ⟨rfl, hF8, hfr8⟩
        have HN8 : Hid ((crashP d3 keep).pg 3 = layN d1.pg (twoC (bytP a b) true) (keepAt keep) (twoC (bytP a b) true).length 3) := by
          show layN d3.pg d3.waits (keepAt keep) d3.waits.length 3 = _
          rw [HC3.out.waits, HPGt.out]
        have HC8 := hid2 (calm_crash HC3.out.pages keep)
        have hok8 := hF8.1.len 3
        have HF8 := hid2 hF8
        have HFR8 := hid2 (HFR7t.out.trans hfr8)
        have HSF8 := hid2 (HSF7t.out.fr hfr8)
        clear hF8 hfr8
        generalize crashP d3 keep = d4 at *
        go_wp2_with fail
        refine (read_any HF8.out (by omega) 3).mono ?_
        rintro e w9 ⟨v9, u9, rfl, hu9, hv9, hb9⟩
        rw [HC8.out.read] at hu9 hv9
        obtain rfl := hu9.none
        obtain ⟨bn, on, cn, rfl, _⟩ := hv9.page hok8
        have HNW := hid2 hv9
        have HFR9 := hid2 (HFR8.out.trans (Below.fr hb9))
        have HSF9 := hid2 (HSF8.out.below hb9)
        clear hu9 hv9 hb9
        go_wp2_with fail
        refine (bytes_at _ a b _ rfl).mono ?_
        rintro e w10 ⟨rfl, hh10, hb10⟩
        obtain ⟨_, _, _, e1, hR1⟩ := (row5 hh10 (bytN_length a b 256) (n := 256) (by omega)).page (by rw [show (bytP a b).take 256 = bytP a b from take256 (bytN_length a b 256)]; exact bytN_length a b 256)
        obtain ⟨_, _, _, e2, hR2⟩ := BAt.page (b := d4.pg 3) (HNW.out.below hb10) hok8
        obtain ⟨_, _, _, e3, hR3⟩ := BAt.page (b := d1.pg 3) (HSF9.out.below hb10) HLS.out
        cases e1
        cases e2
        cases e3
        rw [show (bytP a b).take 256 = bytP a b from take256 (bytN_length a b 256)] at hR1
        have HBL : Hid (bn < w10.heap.size ∧ bs < w10.heap.size ∧ w9.heap.size < w10.heap.size) := ⟨lt_of_cell (hR2 0 _ (U_at (List.getElem?_eq_getElem (by rw [hok8]; omega)))), lt_of_cell (hR3 0 _ (U_at (List.getElem?_eq_getElem (by rw [HLS.out]; omega)))), lt_of_cell (hR1 0 _ (U_at (List.getElem?_eq_getElem (by rw [show (bytP a b).length = 256 from bytN_length a b 256]; omega))))⟩
        have HR1 := hid2 hR1
        have HR2 := hid2 hR2
        have HR3 := hid2 hR3
        have HL4 := hid2 hok8
        have HFR10 := hid2 (HFR9.out.trans (Below.fr hb10))
        clear hR1 hR2 hR3 hh10 hb10 hok8
        go_wp2_with fail
        go_loopw [21] (fun i wr => ∃ (j nn : Nat), i = .int .i64 (j : Int) ∧ j ≤ 256 ∧ wr = w10.drewN nn) (fun i _ => 256 - (intOf i).toNat)
        case atStart => exact ⟨0, 0, rfl, Nat.zero_le _, rfl⟩
        case round =>
          obtain ⟨j, nn, rfl, hj, rfl⟩ := hrel
          by_cases hj6 : j < 256
          · have hji : (j : Int) < 256 := by omega
            obtain ⟨x, hx⟩ : ∃ x, (d4.pg 3)[j]? = some x := ⟨_, List.getElem?_eq_getElem (by rw [HL4.out]; omega)⟩
            obtain ⟨y, hy⟩ : ∃ y, (d1.pg 3)[j]? = some y := ⟨_, List.getElem?_eq_getElem (by rw [HLS.out]; omega)⟩
            obtain ⟨z, hz⟩ : ∃ z, (bytP a b)[j]? = some z := ⟨_, List.getElem?_eq_getElem (by rw [show (bytP a b).length = 256 from bytN_length a b 256]; omega)⟩
            have q2 := HR2.out j _ (U_at hx)
            have q3 := HR3.out j _ (U_at hy)
            have q1 := HR1.out j _ (U_at hz)
            have hor := torn_at (pg := d1.pg) (q := bytP a b) (trim := true) (f := keepAt keep) HLS.out (bytN_length a b 256) (by rw [← HN8.out]; exact hx) hy hz
            rw [Nat.zero_add] at q1
            obtain ⟨hb1, hb2, hb3⟩ := HBL.out
            clear hx hy hz
            by_cases hxy : x = y
            · subst hxy
              clear hor
              have hd : ((x : Int) != (x : Int)) = false := by simp
              go_wp2_with fail
              go_quiet (fail)
              go_wp2
              go_round
              case rel => exact ⟨j + 1, nn + nq, by go_num, by omega, rfl⟩
              case measure => simp [intOf]; omega
            · have hd : ((x : Int) != (y : Int)) = true := by rw [bne_iff_ne]; omega
              by_cases hxz : x = z
              · subst hxz
                clear hor
                have hd2 : ((x : Int) != (x : Int)) = false := by simp
                go_wp2_with fail
                go_quiet (fail)
                go_wp2
                go_round
                case rel => exact ⟨j + 1, nn + nq, by go_num, by omega, rfl⟩
                case measure => simp [intOf]; omega
              · obtain ⟨_, hx0⟩ : True ∧ x = 0 := by
                  rcases hor with h | h | ⟨_, h⟩
                  · exact absurd h hxy
                  · exact absurd h hxz
                  · exact ⟨trivial, h⟩
                clear hor
                have hd2 : ((x : Int) != (z : Int)) = true := by rw [bne_iff_ne]; omega
                have hd3 : ((x : Int) != 0) = false := by rw [hx0]; rfl
                clear hx0
                go_wp2_with fail
                go_quiet (fail)
                go_wp2
                go_round
                case rel => exact ⟨j + 1, nn + nq, by go_num, by omega, rfl⟩
                case measure => simp [intOf]; omega
          · have hji : ¬ ((j : Int) < 256) := by omega
            go_wp2_with fail
            refine (works_any _ (HE.out.fr (HFR10.out.trans (Below.fr (below_drewN' w10 nn))) h0) (by have := HFR10.out.size; show 0 < w10.heap.size; omega)).mono ?_
            rintro e w11 ⟨rfl, hb11⟩
            go_wp2_with fail
            go_ret
            exact ⟨rfl, ((HFR10.out.trans (Below.fr (below_drewN' w10 nn))).trans (Below.fr hb11)).below (Nat.le_refl _)⟩

/-- The sentence's function answers true, whatever comes in. -/
theorem torn_any {w : World} {v0 kv : Value} {os : List Act4} {keep : List Int} {a b : Nat} {t : Bool} (hA : ActsAt w w.heap.size v0 os) (hK : KLow w w.heap.size kv keep) (hab : a < 256 ∧ b < 256) (hE : ErrT w) (h0 : 0 < w.heap.size) :
    Calls Tryd.prog 5 #[v0, .int .u8 (a : Int), .int .u8 (b : Int), .bool t, kv] w fun e w' => e = .returned (.bool true) ∧ Below w.heap.size w w' := by
  cases hl : lightB os with
  | false => exact torn_out hA hK hE h0 (.inl hl)
  | true =>
    by_cases hk : keep.length ≤ 60
    · exact torn_good hA hK hab hE h0 hl hk
    · exact torn_out hA hK hE h0 (.inr (by omega))
end Go.Proofs.YtfogocappakbdaaDoor
