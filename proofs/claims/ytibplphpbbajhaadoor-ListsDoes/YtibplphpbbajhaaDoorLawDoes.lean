/-
  The walk of the law ListsDoes.
-/
import Derived.Test.YtibplphpbbajhaaDoorSame
import Derived.Test.YtibplphpbbajhaaDoorLawSound
namespace Go.Proofs.YtibplphpbbajhaaDoor
open Go.RowKit

set_option maxHeartbeats 8000000 in
set_option maxRecDepth 10000 in
theorem does_any {w : World} {v : Value} {os : List Act9} (hs : ActsAt w v os) (hE : ErrT w) (a b ask : Int) : Calls Tryd.prog 3 #[.int .i64 a, .int .i64 b, v, .int .i64 ask] w fun e w' => e = .returned (.bool true) ∧ Below w.heap.size w w' := by
  obtain ⟨p, cap, rfl, hc1, hc2, hel⟩ := hs
  unfold maxLen at hc2
  have HEL := hid2 hel
  have HE := hid2 hE
  have KW := hid2 (works_any hE)
  have h0 := hid2 (show 0 < w.heap.size from lt_of_cell hE)
  clear hel hE
  by_cases hg : 80 < os.length
  · have hg2 : decide (80 < (os.length : Int)) = true := decide_eq_true (by omega)
    have hg3 : 80 < (os.length : Int) := by omega
    clear hg
    go_enter Tryd.func3, Tryd.ntmps3
    go_wp2_with fail
    refine (show Calls _ _ _ _ _ from KW.out).mono ?_
    rintro e w1 ⟨rfl, hb⟩
    go_wp2
    go_ret
    exact ⟨rfl, hb⟩
  · have hg2 : decide (80 < (os.length : Int)) = false := decide_eq_false (by omega)
    have hg3 : ¬ 80 < (os.length : Int) := by omega
    by_cases hm : 40 < b ∧ b ≤ 65536
    · have hm1 : decide (40 < b) = true := decide_eq_true hm.1
      have hm2 : decide (b ≤ 65536) = true := decide_eq_true hm.2
      clear hg hm
      go_enter Tryd.func3, Tryd.ntmps3
      go_wp2_with fail
      refine (show Calls _ _ _ _ _ from KW.out).mono ?_
      rintro e w1 ⟨rfl, hb⟩
      go_wp2
      go_ret
      exact ⟨rfl, hb⟩
    · by_cases hbad : a < 1 ∨ 64 < a ∨ b < 1 ∨ 65536 < b
      · have KB := hid2 (new_bad w a b hbad)
        have KR := hid2 (fun W => rnew_bad W a b hbad)
        clear hbad
        by_cases hb4 : 40 < b
        · have hm1 : decide (40 < b) = true := decide_eq_true hb4
          have hm2 : decide (b ≤ 65536) = false := decide_eq_false (by omega)
          clear hg hm
          go_enter Tryd.func3, Tryd.ntmps3
          go_wp2_with fail
          refine (show Calls _ _ _ _ _ from KB.out).mono ?_
          rintro e w1 ⟨vf, rfl, hf, b1⟩
          obtain ⟨pf, rfl⟩ := hf.fault.some (by decide)
          have F1 := hid2 hf
          have B1 := hid2 b1
          clear hf b1
          go_wp2_with fail
          refine (show Calls _ _ _ _ _ from KR.out w1).mono ?_
          rintro e w2 ⟨rfl, b2⟩
          have F2 := hid2 (F1.out.below b2)
          have B2 := hid2 (B1.out.trans (b2.mono B1.out.size))
          clear b2 F1 B1
          go_upto_region 5 with fail
          obtain ⟨w3, hw3⟩ : ∃ w3, w3 = w2.alloc (.cells #[.slice none 0 0, .slice none 0 0, .slice none 0 0, .int .i64 0] 32) := ⟨_, rfl⟩
          rw [← hw3]
          have A3 : Below w2.heap.size w2 w3 := by rw [hw3]; go_grown
          have F3 := hid2 (F2.out.below A3)
          have B3 := hid2 (B2.out.trans (A3.mono B2.out.size))
          clear A3 hw3 F2 B2
          go_wp2_with fail
          refine (of_code (HE.out.below B3.out) F3.out.fault).mono ?_
          rintro e w4 ⟨rfl, b4⟩
          have B4 := hid2 (B3.out.trans (b4.mono B3.out.size))
          clear b4 B3 F3
          go_wp2_with fail
          go_loopg [13] 1 (fun gk i wr => gk = 1 ∧ i = .int .i64 0 ∧ wr = w4)
          case atStart => exact ⟨rfl, rfl, rfl⟩
          case round =>
            obtain ⟨_, rfl, hw⟩ := hrel
            subst hw
            by_cases hz : 0 < os.length
            · have hz2 : (0 : Int) < (os.length : Int) := by omega
              go_wp2_with fail
              refine (works_any (HE.out.below B4.out)).mono ?_
              rintro e w5 ⟨rfl, b5⟩
              have B5 := hid2 (B4.out.trans (b5.mono B4.out.size))
              clear b5
              go_wp2
              go_ret
              exact ⟨rfl, B5.out⟩
            · have hz2 : ¬ (0 : Int) < (os.length : Int) := by omega
              go_wp2_with fail
              refine (works_any (HE.out.below B4.out)).mono ?_
              rintro e w5 ⟨rfl, b5⟩
              have B5 := hid2 (B4.out.trans (b5.mono B4.out.size))
              clear b5
              go_wp2
              go_ret
              exact ⟨rfl, B5.out⟩
        · have hm1 : decide (40 < b) = false := decide_eq_false hb4
          clear hg hm
          go_enter Tryd.func3, Tryd.ntmps3
          go_wp2_with fail
          refine (show Calls _ _ _ _ _ from KB.out).mono ?_
          rintro e w1 ⟨vf, rfl, hf, b1⟩
          obtain ⟨pf, rfl⟩ := hf.fault.some (by decide)
          have F1 := hid2 hf
          have B1 := hid2 b1
          clear hf b1
          go_wp2_with fail
          refine (show Calls _ _ _ _ _ from KR.out w1).mono ?_
          rintro e w2 ⟨rfl, b2⟩
          have F2 := hid2 (F1.out.below b2)
          have B2 := hid2 (B1.out.trans (b2.mono B1.out.size))
          clear b2 F1 B1
          go_upto_region 5 with fail
          obtain ⟨w3, hw3⟩ : ∃ w3, w3 = w2.alloc (.cells #[.slice none 0 0, .slice none 0 0, .slice none 0 0, .int .i64 0] 32) := ⟨_, rfl⟩
          rw [← hw3]
          have A3 : Below w2.heap.size w2 w3 := by rw [hw3]; go_grown
          have F3 := hid2 (F2.out.below A3)
          have B3 := hid2 (B2.out.trans (A3.mono B2.out.size))
          clear A3 hw3 F2 B2
          go_wp2_with fail
          refine (of_code (HE.out.below B3.out) F3.out.fault).mono ?_
          rintro e w4 ⟨rfl, b4⟩
          have B4 := hid2 (B3.out.trans (b4.mono B3.out.size))
          clear b4 B3 F3
          go_wp2_with fail
          go_loopg [13] 1 (fun gk i wr => gk = 1 ∧ i = .int .i64 0 ∧ wr = w4)
          case atStart => exact ⟨rfl, rfl, rfl⟩
          case round =>
            obtain ⟨_, rfl, hw⟩ := hrel
            subst hw
            by_cases hz : 0 < os.length
            · have hz2 : (0 : Int) < (os.length : Int) := by omega
              go_wp2_with fail
              refine (works_any (HE.out.below B4.out)).mono ?_
              rintro e w5 ⟨rfl, b5⟩
              have B5 := hid2 (B4.out.trans (b5.mono B4.out.size))
              clear b5
              go_wp2
              go_ret
              exact ⟨rfl, B5.out⟩
            · have hz2 : ¬ (0 : Int) < (os.length : Int) := by omega
              go_wp2_with fail
              refine (works_any (HE.out.below B4.out)).mono ?_
              rintro e w5 ⟨rfl, b5⟩
              have B5 := hid2 (B4.out.trans (b5.mono B4.out.size))
              clear b5
              go_wp2
              go_ret
              exact ⟨rfl, B5.out⟩
      · have hm1 : decide (40 < b) = false := decide_eq_false (by omega)
        obtain ⟨K, rfl⟩ := Int.eq_ofNat_of_zero_le (show 0 ≤ a by omega)
        obtain ⟨nn, rfl⟩ := Int.eq_ofNat_of_zero_le (show 0 ≤ b by omega)
        have h40 : nn ≤ 40 := by omega
        have KN := hid2 (made_any w K nn (by omega) (by omega) (by omega) h40)
        have KR := hid2 (fun (W : World) (B : Nat) (h : B ≤ W.heap.size) => rnew_good W h K nn (by omega) (by omega) (by omega) h40)
        clear hbad hm
        go_enter Tryd.func3, Tryd.ntmps3
        go_wp2_with fail
        refine (show Calls _ _ _ _ _ from KN.out).mono ?_
        rintro e w1 ⟨g, rfl, x1, b1⟩
        obtain ⟨B0, hB0⟩ : ∃ B0, B0 = w.heap.size := ⟨_, rfl⟩
        obtain ⟨B, hB⟩ : ∃ B, B = w1.heap.size := ⟨_, rfl⟩
        rw [← hB0, ← hB] at x1
        have X1 := hid2 x1
        have B1 := hid2 b1
        have HB0 := hid2 hB0
        have HBB := hid2 hB
        have H00 : Hid (0 < B0) := by show 0 < B0; rw [hB0]; exact h0.out
        have EE : Hid (∀ W, Below w.heap.size w W → ErrT W) := fun W h => HE.out.below h
        clear x1 b1 hB0 hB KN
        go_wp2_with fail
        refine (show Calls _ _ _ _ _ from KR.out w1 B (Nat.le_of_eq HBB.out)).mono ?_
        rintro e w2 ⟨u, rfl, r2, b2⟩
        obtain ⟨pL, nL, cL, pF, nF, cF, pU, nU, cU, rn, rfl⟩ := r2.form
        have X2 := hid2 (X1.out.below b2)
        have R2 := hid2 r2
        have S2 : Hid (B ≤ w2.heap.size) := by have := HBB.out; have := b2.size; show _ ≤ _; omega
        have B2 := hid2 (B1.out.trans (b2.mono B1.out.size))
        clear r2 b2 X1 B1 KR HBB
        go_upto_region 5 with fail
        obtain ⟨w3, hw3⟩ : ∃ w3, w3 = w2.alloc (.cells #[.slice pL nL cL, .slice pF nF cF, .slice pU nU cU, .int .i64 rn] 32) := ⟨_, rfl⟩
        rw [← hw3]
        obtain ⟨bx, hbx⟩ : ∃ bx, bx = w2.heap.size := ⟨_, rfl⟩
        rw [← hbx]
        have A3 : Below w2.heap.size w2 w3 := by rw [hw3]; go_grown
        have Z3 : Hid (Four w3 bx (.slice pL nL cL) (.slice pF nF cF) (.slice pU nU cU) rn) := by show Four _ _ _ _ _ _; rw [hw3, hbx]; exact four_new w2 _ _ _ _
        have X3 := hid2 (X2.out.below A3)
        have R3 := hid2 (R2.out.stays A3)
        have HBX : Hid (B ≤ bx) := by show B ≤ bx; rw [hbx]; exact S2.out
        have S3 : Hid (B ≤ w3.heap.size) := Nat.le_trans S2.out A3.size
        have B3 := hid2 (B2.out.trans (A3.mono B2.out.size))
        have HBW : Hid (w.heap.size ≤ bx) := by show _ ≤ bx; rw [hbx]; exact B2.out.size
        clear A3 hw3 hbx X2 R2 S2 B2
        go_wp2_with fail
        refine (of_code (EE.out _ B3.out) (Fault.nil _)).mono ?_
        rintro e w4 ⟨rfl, b4⟩
        have Z4 := hid2 (Z3.out.stays b4)
        have X4 := hid2 (X3.out.below b4)
        have R4 := hid2 (R3.out.stays b4)
        have S4 : Hid (B ≤ w4.heap.size) := Nat.le_trans S3.out b4.size
        have B4 := hid2 (B3.out.trans (b4.mono B3.out.size))
        clear b4 Z3 X3 R3 S3 B3
        go_wp2_with fail
        go_loopg [13] os.length (fun gk i wr => ∃ (k : Nat) (s : Lst) (pL : Option Addr) (nL cL : Nat) (pF : Option Addr) (nF cF : Nat) (pU : Option Addr) (nU cU : Nat) (rn : Int), k ≤ os.length ∧ gk = os.length - k ∧ i = .int .i64 (k : Int) ∧ Lx wr B0 B g K nn s k ∧ Four wr bx (.slice pL nL cL) (.slice pF nF cF) (.slice pU nU cU) rn ∧ RV wr B (.agg #[.slice pL nL cL, .slice pF nF cF, .slice pU nU cU, .int .i64 rn]) s ∧ Below w.heap.size w wr ∧ B ≤ wr.heap.size)
        case atStart => exact ⟨0, _, pL, nL, cL, pF, nF, cF, pU, nU, cU, rn, Nat.zero_le _, rfl, rfl, X4.out, Z4.out, R4.out, B4.out, S4.out⟩
        case round =>
          clear X4 Z4 R4 B4 S4
          obtain ⟨k, s, pL, nL, cL, pF, nF, cF, pU, nU, cU, rn, hk, hgk, rfl, hx, hz, hr, hb, hsb⟩ := hrel
          have HG := hid2 hgk
          have X := hid2 hx
          have BXF := hid2 hz
          have RR := hid2 hr
          have BW := hid2 hb
          have SB := hid2 hsb
          clear hgk hx hz hr hb hsb
          by_cases hlt : k < os.length
          · obtain ⟨o, ho⟩ : ∃ o, os[k]? = some o := ⟨os[k], List.getElem?_eq_getElem hlt⟩
            obtain ⟨kd, at_⟩ := o
            obtain ⟨bo, off, rfl, q0, q1, q2, _, _⟩ := HEL.out k _ ho
            simp only at q1 q2
            clear ho
            go_upto_region 10 with fail
            go_cut [14, 15] (fun pp ok wx => ∃ (q : Nat) (pL : Option Addr) (nL cL : Nat) (pF : Option Addr) (nF cF : Nat) (pU : Option Addr) (nU cU : Nat) (rn : Int), pp = .pointer (some ⟨q, 0, none⟩) ∧ ok = .bool true ∧ B ≤ q ∧ q ≠ bx ∧ Four wx q (.slice pL nL cL) (.slice pF nF cF) (.slice pU nU cU) rn ∧ (∃ x y z m, Four wx bx x y z m) ∧ Lx wx B0 B g K nn (doP s kd at_) (k + 1) ∧ RV wx B (.agg #[.slice pL nL cL, .slice pF nF cF, .slice pU nU cU, .int .i64 rn]) (doP s kd at_) ∧ Below w.heap.size w wx ∧ B ≤ wx.heap.size)
            case first =>
              refine wp_region_held_drew (S := fun W => Four W bx (.slice pL nL cL) (.slice pF nF cF) (.slice pU nU cU) rn ∧ Below w.heap.size w W) (by kernel_rfl) (⟨BXF.out, BW.out.trans ((Below.refl _ _).drew)⟩) (fun hS => ?_)
              change wpAnyH _ _ _ _ _ _ _ _ (World.drew _)
              obtain ⟨wz, hwz⟩ : ∃ wz, wz = World.drew wr := ⟨_, rfl⟩
              rw [← hwz] at hS ⊢
              have XZ : Hid (Lx wz B0 B g K nn s k) := by rw [hwz]; exact X.out.below ((Below.refl _ _).drew)
              have RZ : Hid (RV wz B (.agg #[.slice pL nL cL, .slice pF nF cF, .slice pU nU cU, .int .i64 rn]) s) := by rw [hwz]; exact RR.out.stays ((Below.refl _ _).drew)
              have SZ : Hid (B ≤ wz.heap.size) := by rw [hwz]; exact SB.out
              clear hwz
              refine wpAnyH_take (i := 0) (v := .pointer (some ⟨g, 0, none⟩)) rfl (by kernel_rfl) (by kernel_rfl) (by kernel_rfl) (fun _ _ _ h => h) (Or.inl ⟨by kernel_rfl, ?_⟩) hS ?_
              · intro w hw; clear hw; go_simp
              change wpAnyH _ _ _ _ _ _ _ (Act.put _ (some 62) _) _
              simp only [Act.put, List.setIfInBounds_toArray, List.set_cons_succ, List.set_cons_zero]
              refine wpAnyH_take (i := 1) (v := .agg #[.slice pL nL cL, .slice pF nF cF, .slice pU nU cU, .int .i64 rn]) rfl (by kernel_rfl) (by kernel_rfl) (by kernel_rfl) (fun _ _ _ h => h) (Or.inl ⟨by kernel_rfl, ?_⟩) hS ?_
              · intro w hw
                obtain ⟨l0, e0, e1, e2, e3, e4⟩ := Four.cells hw.1
                clear hw
                go_simp
              change wpAnyH _ _ _ _ _ _ _ (Act.put _ (some 63) _) _
              simp only [Act.put, List.setIfInBounds_toArray, List.set_cons_succ, List.set_cons_zero]
              refine wpAnyH_take (i := 2) (v := .slice (some ⟨bo, off, none⟩) os.length cap) rfl (by kernel_rfl) (by kernel_rfl) (by kernel_rfl) (fun _ _ _ h => h) (Or.inl ⟨by kernel_rfl, ?_⟩) hS ?_
              · intro w hw; clear hw; go_simp
              change wpAnyH _ _ _ _ _ _ _ (Act.put _ (some 64) _) _
              simp only [Act.put, List.setIfInBounds_toArray, List.set_cons_succ, List.set_cons_zero]
              refine wpAnyH_take (i := 3) (v := .int .i64 (k : Int)) rfl (by kernel_rfl) (by kernel_rfl) (by kernel_rfl) (fun _ _ _ h => h) (Or.inl ⟨by kernel_rfl, ?_⟩) hS ?_
              · intro w hw; clear hw; go_simp
              change wpAnyH _ _ _ _ _ _ _ (Act.put _ (some 65) _) _
              simp only [Act.put, List.setIfInBounds_toArray, List.set_cons_succ, List.set_cons_zero]
              refine wpAnyH_take (i := 4) (v := .pointer (some ⟨bo, off + k * 2, none⟩)) rfl (by kernel_rfl) (by kernel_rfl) (by kernel_rfl) (fun _ _ _ h => h) (Or.inl ⟨by kernel_rfl, ?_⟩) hS ?_
              · intro w hw; clear hw; go_simp
              change wpAnyH _ _ _ _ _ _ _ (Act.put _ (some 66) _) _
              simp only [Act.put, List.setIfInBounds_toArray, List.set_cons_succ, List.set_cons_zero]
              refine wpAnyH_take (i := 5) (v := .agg #[.int .i64 kd, .int .i64 at_]) rfl (by kernel_rfl) (by kernel_rfl) (by kernel_rfl) (fun _ _ _ h => h) (Or.inl ⟨by kernel_rfl, ?_⟩) hS ?_
              · intro w hw
                have f1 := (Below.cell (p := ⟨bo, off + k * 2, none⟩) hw.2 q0).trans q1
                have f2 := (Below.cell (p := ⟨bo, off + k * 2 + 1, none⟩) hw.2 q0).trans q2
                have l0 := Nat.lt_of_lt_of_le q0 (Below.size hw.2)
                clear hw
                go_simp
              change wpAnyH _ _ _ _ _ _ _ (Act.put _ (some 67) _) _
              simp only [Act.put, List.setIfInBounds_toArray, List.set_cons_succ, List.set_cons_zero]
              refine wpAnyH_ready (rs := [6, 10]) (by kernel_rfl) (by simp) ?_
              refine AllReadyH.cons rfl (fun K hK => ?_) (AllReadyH.cons rfl (fun K hK => ?_) AllReadyH.nil)
              · go_simp
                go_wp2_with fail
                refine (do_any XZ.out (by omega) RZ.out (EE.out _ hS.2) H00.out SZ.out kd at_).mono ?_
                rintro e w6 ⟨u6, rfl, x6, r6, m6⟩
                obtain ⟨pL', nL', cL', pF', nF', cF', pU', nU', cU', rn', rfl⟩ := r6.form
                have X6 := hid2 x6
                have R6 := hid2 r6
                have S6 : Hid (B ≤ w6.heap.size) := Nat.le_trans SZ.out m6.size
                refine hK.out _ _ (⟨Four.mid m6 hS.1 HBX.out, hS.2.trans (HB0.out ▸ m6.below (by rw [HB0.out]; exact hS.2.size))⟩) (fun hS => ?_)
                clear hK K
                skip
                clear XZ RZ SZ x6 r6 m6
                refine wpAnyH_take (i := 7) (v := .tuple #[.agg #[.slice pL' nL' cL', .slice pF' nF' cF', .slice pU' nU' cU', .int .i64 rn'], .bool true]) rfl (by kernel_rfl) (by kernel_rfl) (by kernel_rfl) (fun _ _ _ h => h) (Or.inl ⟨by kernel_rfl, ?_⟩) hS ?_
                · intro w hw; clear hw; go_simp
                change wpAnyH _ _ _ _ _ _ _ (Act.put _ (some 61) _) _
                simp only [Act.put, List.setIfInBounds_toArray, List.set_cons_succ, List.set_cons_zero]
                refine wpAnyH_take (i := 8) (v := .agg #[.slice pL' nL' cL', .slice pF' nF' cF', .slice pU' nU' cU', .int .i64 rn']) rfl (by kernel_rfl) (by kernel_rfl) (by kernel_rfl) (fun _ _ _ h => h) (Or.inl ⟨by kernel_rfl, ?_⟩) hS ?_
                · intro w hw; clear hw; go_simp
                change wpAnyH _ _ _ _ _ _ _ (Act.put _ (some 69) _) _
                simp only [Act.put, List.setIfInBounds_toArray, List.set_cons_succ, List.set_cons_zero]
                refine wpAnyH_take (i := 9) (v := .bool true) rfl (by kernel_rfl) (by kernel_rfl) (by kernel_rfl) (fun _ _ _ h => h) (Or.inl ⟨by kernel_rfl, ?_⟩) hS ?_
                · intro w hw; clear hw; go_simp
                change wpAnyH _ _ _ _ _ _ _ (Act.put _ (some 70) _) _
                simp only [Act.put, List.setIfInBounds_toArray, List.set_cons_succ, List.set_cons_zero]
                refine wpAnyH_ready (rs := [10]) (by kernel_rfl) (by simp) ?_
                refine AllReadyH.cons rfl (fun K hK => ?_) AllReadyH.nil
                go_simp
                go_wp2_with fail
                obtain ⟨w7, hwn⟩ : ∃ wn, wn = w6.alloc (.cells #[.slice none 0 0, .slice none 0 0, .slice none 0 0, .int .i64 0] 32) := ⟨_, rfl⟩
                rw [← hwn]
                have ya : Below w6.heap.size w6 w7 := by rw [hwn]; go_grown
                have za : Four w7 w6.heap.size (.slice none 0 0) (.slice none 0 0) (.slice none 0 0) 0 := by rw [hwn]; exact four_new w6 _ _ _ _
                obtain ⟨q, hq⟩ : ∃ q, q = w6.heap.size := ⟨_, rfl⟩
                rw [← hq] at za ⊢
                have ZQ := hid2 za
                have HQB : Hid (B ≤ q) := by show B ≤ q; rw [hq]; exact S6.out
                have HNE : Hid (q ≠ bx) := by have := lt_of_block hS.1; show q ≠ bx; omega
                have HQW : Hid (w.heap.size ≤ q) := by have := Below.size hS.2; show _ ≤ q; omega
                have X7 := hid2 (X6.out.below ya)
                have R7 := hid2 (R6.out.stays ya)
                have S7 : Hid (B ≤ w7.heap.size) := Nat.le_trans S6.out ya.size
                refine hK.out _ _ (⟨Four.stays hS.1 ya, hS.2.trans (ya.mono (Below.size hS.2))⟩) (fun hS => ?_)
                clear hK K
                skip
                clear X6 R6 S6 ya za hwn hq
                refine wpAnyH_ready (rs := [11]) (by kernel_rfl) (by simp) ?_
                refine AllReadyH.cons rfl (fun K hK => ?_) AllReadyH.nil
                refine step_st32 rfl (.tmp 14) (.tmp 69) rfl q rfl _ _ _ _ _ ZQ.out rfl rfl ⟨rfl, rfl, rfl, rfl⟩ ?_
                intro w8 hz8 hg8
                refine hK.out _ _ ⟨Four.grown hS.1 hg8 (by simp; exact fun e => HNE.out e.symm), Below.grown hS.2 hg8 (Below.size hS.2) (fun j hj => by cases hj; exact HQW.out)⟩ (fun hS => ?_)
                clear hK K
                refine wpAnyH_take (i := 12) (v := .bool true) rfl (by kernel_rfl) (by kernel_rfl) (by kernel_rfl) (fun _ _ _ h => h) (Or.inl ⟨by kernel_rfl, ?_⟩) hS ?_
                · intro w hw; clear hw; go_simp
                change wpAnyH _ _ _ _ _ _ _ (Act.put _ (some 15) _) _
                simp only [Act.put, List.setIfInBounds_toArray]
                refine wpAnyH_done (by kernel_rfl) ?_ _
                go_wp2_with fail
                go_meet
                first
                  | exact ⟨q, _, _, _, _, _, _, _, _, _, _, rfl, rfl, HQB.out, HNE.out, hz8, ⟨_, _, _, _, hS.1⟩, X7.out.put hg8 HQB.out, R7.out.other hg8 ZQ.out.tag (by decide) (by decide), hS.2, Nat.le_trans S7.out hg8.size⟩
                  | exact ⟨q, _, _, _, _, _, _, _, _, _, _, rfl, rfl, HQB.out, HNE.out, hz8, ⟨_, _, _, _, hS.1⟩, X6.out.put hg8 HQB.out, R6.out.other hg8 ZQ.out.tag (by decide) (by decide), hS.2, Nat.le_trans S6.out hg8.size⟩
              · go_simp
                go_wp2_with fail
                obtain ⟨w5, hwn⟩ : ∃ wn, wn = wz.alloc (.cells #[.slice none 0 0, .slice none 0 0, .slice none 0 0, .int .i64 0] 32) := ⟨_, rfl⟩
                rw [← hwn]
                have ya : Below wz.heap.size wz w5 := by rw [hwn]; go_grown
                have za : Four w5 wz.heap.size (.slice none 0 0) (.slice none 0 0) (.slice none 0 0) 0 := by rw [hwn]; exact four_new wz _ _ _ _
                obtain ⟨q, hq⟩ : ∃ q, q = wz.heap.size := ⟨_, rfl⟩
                rw [← hq] at za ⊢
                have ZA := hid2 za
                have HQB : Hid (B ≤ q) := by show B ≤ q; rw [hq]; exact SZ.out
                have HNE : Hid (q ≠ bx) := by have := lt_of_block hS.1; show q ≠ bx; omega
                have HQW : Hid (w.heap.size ≤ q) := by have := Below.size hS.2; show _ ≤ q; omega
                have X5 := hid2 (XZ.out.below ya)
                have R5 := hid2 (RZ.out.stays ya)
                have S5 : Hid (B ≤ w5.heap.size) := Nat.le_trans SZ.out ya.size
                refine hK.out _ _ (⟨Four.stays hS.1 ya, hS.2.trans (ya.mono (Below.size hS.2))⟩) (fun hS => ?_)
                clear hK K
                skip
                clear XZ RZ SZ ya za hwn hq
                refine wpAnyH_ready (rs := [6]) (by kernel_rfl) (by simp) ?_
                refine AllReadyH.cons rfl (fun K hK => ?_) AllReadyH.nil
                go_simp
                go_wp2_with fail
                refine (do_any X5.out (by omega) R5.out (EE.out _ hS.2) H00.out S5.out kd at_).mono ?_
                rintro e w6 ⟨u6, rfl, x6, r6, m6⟩
                obtain ⟨pL', nL', cL', pF', nF', cF', pU', nU', cU', rn', rfl⟩ := r6.form
                have X6 := hid2 x6
                have R6 := hid2 r6
                have S6 : Hid (B ≤ w6.heap.size) := Nat.le_trans S5.out m6.size
                have ZQ := hid2 (Four.mid m6 ZA.out HQB.out)
                refine hK.out _ _ (⟨Four.mid m6 hS.1 HBX.out, hS.2.trans (HB0.out ▸ m6.below (by rw [HB0.out]; exact hS.2.size))⟩) (fun hS => ?_)
                clear hK K
                skip
                clear X5 R5 S5 ZA x6 r6 m6
                refine wpAnyH_take (i := 7) (v := .tuple #[.agg #[.slice pL' nL' cL', .slice pF' nF' cF', .slice pU' nU' cU', .int .i64 rn'], .bool true]) rfl (by kernel_rfl) (by kernel_rfl) (by kernel_rfl) (fun _ _ _ h => h) (Or.inl ⟨by kernel_rfl, ?_⟩) hS ?_
                · intro w hw; clear hw; go_simp
                change wpAnyH _ _ _ _ _ _ _ (Act.put _ (some 61) _) _
                simp only [Act.put, List.setIfInBounds_toArray, List.set_cons_succ, List.set_cons_zero]
                refine wpAnyH_take (i := 8) (v := .agg #[.slice pL' nL' cL', .slice pF' nF' cF', .slice pU' nU' cU', .int .i64 rn']) rfl (by kernel_rfl) (by kernel_rfl) (by kernel_rfl) (fun _ _ _ h => h) (Or.inl ⟨by kernel_rfl, ?_⟩) hS ?_
                · intro w hw; clear hw; go_simp
                change wpAnyH _ _ _ _ _ _ _ (Act.put _ (some 69) _) _
                simp only [Act.put, List.setIfInBounds_toArray, List.set_cons_succ, List.set_cons_zero]
                refine wpAnyH_take (i := 9) (v := .bool true) rfl (by kernel_rfl) (by kernel_rfl) (by kernel_rfl) (fun _ _ _ h => h) (Or.inl ⟨by kernel_rfl, ?_⟩) hS ?_
                · intro w hw; clear hw; go_simp
                change wpAnyH _ _ _ _ _ _ _ (Act.put _ (some 70) _) _
                simp only [Act.put, List.setIfInBounds_toArray, List.set_cons_succ, List.set_cons_zero]
                refine wpAnyH_ready (rs := [11]) (by kernel_rfl) (by simp) ?_
                refine AllReadyH.cons rfl (fun K hK => ?_) AllReadyH.nil
                refine step_st32 rfl (.tmp 14) (.tmp 69) rfl q rfl _ _ _ _ _ ZQ.out rfl rfl ⟨rfl, rfl, rfl, rfl⟩ ?_
                intro w8 hz8 hg8
                refine hK.out _ _ ⟨Four.grown hS.1 hg8 (by simp; exact fun e => HNE.out e.symm), Below.grown hS.2 hg8 (Below.size hS.2) (fun j hj => by cases hj; exact HQW.out)⟩ (fun hS => ?_)
                clear hK K
                refine wpAnyH_take (i := 12) (v := .bool true) rfl (by kernel_rfl) (by kernel_rfl) (by kernel_rfl) (fun _ _ _ h => h) (Or.inl ⟨by kernel_rfl, ?_⟩) hS ?_
                · intro w hw; clear hw; go_simp
                change wpAnyH _ _ _ _ _ _ _ (Act.put _ (some 15) _) _
                simp only [Act.put, List.setIfInBounds_toArray]
                refine wpAnyH_done (by kernel_rfl) ?_ _
                go_wp2_with fail
                go_meet
                first
                  | exact ⟨q, _, _, _, _, _, _, _, _, _, _, rfl, rfl, HQB.out, HNE.out, hz8, ⟨_, _, _, _, hS.1⟩, X7.out.put hg8 HQB.out, R7.out.other hg8 ZQ.out.tag (by decide) (by decide), hS.2, Nat.le_trans S7.out hg8.size⟩
                  | exact ⟨q, _, _, _, _, _, _, _, _, _, _, rfl, rfl, HQB.out, HNE.out, hz8, ⟨_, _, _, _, hS.1⟩, X6.out.put hg8 HQB.out, R6.out.other hg8 ZQ.out.tag (by decide) (by decide), hS.2, Nat.le_trans S6.out hg8.size⟩
            case rest =>
              clear BXF RR X BW SB q0 q1 q2
              obtain ⟨q, pL, nL, cL, pF, nF, cF, pU, nU, cU, rn, rfl, rfl, hq, hne, hzq, ⟨x', y', z', m', hzb⟩, hx, hr, hb, hsb⟩ := hcut
              have X := hid2 hx
              have RR := hid2 hr
              have BW := hid2 hb
              have SB := hid2 hsb
              have ZB := hid2 hzb
              obtain ⟨d0, d1, d2, d3, d4, d5⟩ := hzq.cells
              clear hx hr hb hsb hzq hzb
              go_wp2_with (refine st32 rfl (.tmp 11) (.tmp 71) rfl bx rfl _ _ _ _ _ ZB.out rfl rfl ⟨rfl, rfl, rfl, rfl⟩ ?_; intro w8 hz8 hg8; obtain ⟨g0, g1, g2, g3, g4, g5⟩ := Four.cells hz8)
              have X8 := hid2 (X.out.put hg8 HBX.out)
              have R8 := hid2 (RR.out.other hg8 ZB.out.tag (by decide) (by decide))
              have B8 : Hid (Below w.heap.size w w8) := BW.out.grown hg8 BW.out.size (fun j hj => by cases hj; exact HBW.out)
              have S8 : Hid (B ≤ w8.heap.size) := Nat.le_trans SB.out hg8.size
              have Z8 := hid2 (show Four w8 bx _ _ _ _ from hz8)
              clear hz8 hg8 X RR BW SB ZB d0 d1 d2 d3 d4 d5 g0 g1 g2 g3 g4 g5
              refine (same_any X8.out R8.out h40 ask).mono ?_
              rintro e w9 ⟨rfl, b9⟩
              have X9 := hid2 (X8.out.below b9)
              have R9 := hid2 (R8.out.stays b9)
              have Z9 := hid2 (Four.stays Z8.out b9)
              have B9 := hid2 (B8.out.trans (b9.mono B8.out.size))
              have S9 : Hid (B ≤ w9.heap.size) := Nat.le_trans S8.out b9.size
              clear b9 X8 R8 Z8 B8 S8
              go_wp2
              go_roundg (os.length - (k + 1))
              case measure => rw [HG.out]; omega
              case rel => exact ⟨k + 1, _, pL, nL, cL, pF, nF, cF, pU, nU, cU, rn, by omega, rfl, by go_num, X9.out, Z9.out, R9.out, B9.out, S9.out⟩
          · go_wp2_with fail
            refine (works_any (EE.out _ BW.out)).mono ?_
            rintro e w3 ⟨rfl, b3⟩
            have BW2 := hid2 (BW.out.trans (b3.mono BW.out.size))
            clear b3
            go_wp2
            go_ret
            exact ⟨rfl, BW2.out⟩
end Go.Proofs.YtibplphpbbajhaaDoor
