/-
  The walk of the law ItemReads.
-/
import Derived.Test.YtibjhjojohjokaaDoorLawBack
namespace Go.Proofs.YtibjhjojohjokaaDoor
open Go.RowKit

set_option maxHeartbeats 8000000 in
set_option maxRecDepth 10000 in
theorem reads_any {w : World} {vl : Value} {xs : List Ent} {b : Nat} {q : Option Addr} {cap : Nat} {bs : List Int} (hl : EsAt w vl xs) (hx : ∀ x ∈ xs, Byt x.val ∧ x.key.size ≤ maxLen) (hb : SlAt w b (.slice q bs.length cap) (U bs)) (hby : Byt bs) (hE : ErrT w) :
    Calls Tryd.prog 4 #[.slice q bs.length cap, vl] w fun en w' => en = .returned (.bool true) ∧ Below w.heap.size w w' := by
  obtain ⟨pl, cl, hfl, hcl1, hcl2⟩ := hl.form
  unfold maxLen at hcl2
  have hbm : bs.length ≤ 9223372036854775807 := by
    obtain ⟨_, _, e, h1, h2⟩ := hb.form
    unfold maxLen at h2
    rw [U_length] at h1
    omega
  have C7 := light_any hl (fun x hx' => (hx x hx').2)
  subst hfl
  have HL := hid2 hl
  have HX := hid2 hx
  have HB := hid2 hb
  have HW : Hid (∀ W, Below w.heap.size w W → Calls Tryd.prog 8 #[] W fun en w' => en = .returned (.bool true) ∧ Below W.heap.size W w') := fun W hbw => works_any (hE.below hbw)
  clear hl hx hb
  by_cases h3 : 3000 < bs.length
  · have d3 : 3000 < (bs.length : Int) := by omega
    clear C7
    go_enter Tryd.func4, Tryd.ntmps4
    go_wp2_with fail
    refine (HW.out _ (Below.refl _ _)).mono ?_
    rintro en w1 ⟨rfl, B1⟩
    go_wp2
    go_ret
    exact ⟨rfl, B1⟩
  · have d3 : ¬ 3000 < (bs.length : Int) := by omega
    by_cases hlb : lightB xs = true
    · rw [lightI_yes hlb] at C7
      have K7 := hid2 C7
      clear C7
      obtain ⟨l1, l2, l3⟩ := lightB_ok hlb
      obtain ⟨ys, c, hR⟩ : ∃ ys c, readE bs = (ys, c) := ⟨_, _, rfl⟩
      have CR := read_ents HB.out hby (by omega) hE
      have CS := fun W (hs : SlAt W b (.slice q bs.length cap) (U bs)) => rread_ents hs hby (by omega)
      rw [hR] at CR CS
      have KR := hid2 CR
      have KS := hid2 CS
      clear CR CS hR
      go_enter Tryd.func4, Tryd.ntmps4
      go_wp2_with fail
      refine (show Calls _ _ _ _ _ from K7).mono ?_
      rintro en w1 ⟨rfl, hw⟩
      cases hw
      go_wp2_with fail
      refine (show Calls _ _ _ _ _ from KR).mono ?_
      rintro en w1 ⟨rv, u, rfl, hv, hu, B1⟩
      obtain ⟨p1, c1, hf1, _, _⟩ := hv.form
      subst hf1
      have HV := hid2 hv
      have HU := hid2 hu
      have HB1 := hid2 B1
      clear hv hu B1 KR K7
      go_wp2_with fail
      refine (show Calls _ _ _ _ _ from KS.out _ (HB.out.stays HB1.out)).mono ?_
      rintro en w2 ⟨rv2, rfl, hv2, B2⟩
      obtain ⟨p2, c2, hf2, _, _⟩ := hv2.form
      subst hf2
      have B02 := hid2 (HB1.out.trans (B2.mono HB1.out.size))
      have KA := hid2 (sameall_eq (HV.out.stays B2) hv2)
      have HU2 := hid2 (HU.out.below B2)
      clear hv2 B2 HV HU HB1 KS
      go_wp2_with fail
      refine (show Calls _ _ _ _ _ from KA).mono ?_
      rintro en w3 ⟨rfl, B3⟩
      have B03 := hid2 (B02.out.trans (B3.mono B02.out.size))
      go_wp2_with fail
      refine (of_code (hE.below B03.out) (HU2.out.below B3)).mono ?_
      rintro en w4 ⟨rfl, B4⟩
      have hbc := B03.out.trans (B4.mono B03.out.size)
      have hcc : (c != c) = false := by simp
      clear B3 B4 B03 B02 KA HU2
      go_wp2_with fail
      go_loopw [9] (fun i wr => ∃ k : Nat, k ≤ xs.length ∧ i = .int .i64 (k : Int) ∧ Hid (∀ j x, j < k → xs[j]? = some x → checkE x = 0) ∧ Below w.heap.size w wr) (fun i _ => xs.length - (intOf i).toNat)
      case atStart => exact ⟨0, Nat.zero_le _, rfl, fun j x hj => (by omega), hbc⟩
      case round =>
        clear hbc hcc
        obtain ⟨k, hk, rfl, HC, hbr⟩ := hrel
        by_cases hlt : k < xs.length
        · obtain ⟨x, hx⟩ : ∃ x, xs[k]? = some x := ⟨_, List.getElem?_eq_getElem hlt⟩
          obtain ⟨pe, ce, hfe, _, _, hel⟩ := HL.out
          simp only [Value.slice.injEq, true_and] at hfe
          obtain ⟨rfl, rfl⟩ := hfe
          obtain ⟨bb, off, qx, cx, rfl, hbb, a0, a1, a2, a3, a4, hbs⟩ := hel k _ hx
          have hki : (k : Int) < (xs.length : Int) := by omega
          have HXk := hid2 hx
          obtain ⟨hxb, hkm⟩ := HX.out x (List.mem_of_getElem? hx)
          have hvm : x.val.length ≤ maxLen := by
            obtain ⟨_, _, _, h1, h2⟩ := hbs.form
            omega
          have HA : Hid (At5 w bb (off + k * 5) x.key x.ver x.asof x.ends (.slice qx x.val.length cx)) := ⟨a0, a1, a2, a3, a4⟩
          have HBS := hid2 hbs
          have cc : ∀ o, wr.cell? ⟨bb, o, none⟩ = w.cell? ⟨bb, o, none⟩ := fun o => hbr.cell (p := ⟨bb, o, none⟩) hbb
          have a0 := (cc _).trans a0
          have a1 := (cc _).trans a1
          have a2 := (cc _).trans a2
          have a3 := (cc _).trans a3
          have a4 := (cc _).trans a4
          have hbb2 := Nat.lt_of_lt_of_le hbb hbr.size
          clear cc hx hel hbs
          go_wp2_with fail
          refine (rcheck_any x.key x.ver x.asof x.ends qx x.val.length cx _ hkm hvm).mono ?_
          rintro en w4 ⟨rfl, B2⟩
          have B02 := hbr.trans (B2.mono hbr.size)
          have HCX : Hid (checkE x = chk x.key x.ver x.asof x.ends x.val.length) := rfl
          generalize chk x.key x.ver x.asof x.ends x.val.length = cd at *
          clear a0 a1 a2 a3 a4 B2
          by_cases hcd : cd = 0
          · subst hcd
            obtain ⟨f1, f2, f3, f4, f5⟩ := fine_of HCX.out
            have HS4 := hid2 ((HA.out.stays B02).stays ((Below.refl w4.heap.size w4).drew))
            have HXV := hid2 (HBS.out.stays B02)
            have HBB := hid2 (HB.out.stays B02)
            have HBR : Hid (Byt (bs ++ rowP x.key x.ver x.asof x.ends x.val)) := hby.append (rowB_byt hxb)
            go_wp2_with fail
            refine wp_region_held_drew (S := fun W => At5 W bb (off + k * 5) x.key x.ver x.asof x.ends (.slice qx x.val.length cx)) (by kernel_rfl) (HS4.out) (fun hS => ?_)
            change wpAnyH _ _ _ _ _ _ _ _ (World.drew _)
            have D4 : Below w4.heap.size w4 (World.drew w4) := (Below.refl _ _).drew
            refine wpAnyH_take (i := 0) (v := .slice (some ⟨bb, off, none⟩) xs.length cl) rfl (by kernel_rfl) (by kernel_rfl) (by kernel_rfl) (fun _ _ _ h => h) (Or.inl ⟨by kernel_rfl, ?_⟩) hS ?_
            · intro w hw; clear hw; go_simp
            change wpAnyH _ _ _ _ _ _ _ (Act.put _ (some 52) _) _
            simp only [Act.put, List.setIfInBounds_toArray, List.set_cons_succ, List.set_cons_zero]
            refine wpAnyH_take (i := 1) (v := .int .i64 (k : Int)) rfl (by kernel_rfl) (by kernel_rfl) (by kernel_rfl) (fun _ _ _ h => h) (Or.inl ⟨by kernel_rfl, ?_⟩) hS ?_
            · intro w hw; clear hw; go_simp
            change wpAnyH _ _ _ _ _ _ _ (Act.put _ (some 53) _) _
            simp only [Act.put, List.setIfInBounds_toArray, List.set_cons_succ, List.set_cons_zero]
            refine wpAnyH_take (i := 2) (v := .pointer (some ⟨bb, off + k * 5, none⟩)) rfl (by kernel_rfl) (by kernel_rfl) (by kernel_rfl) (fun _ _ _ h => h) (Or.inl ⟨by kernel_rfl, ?_⟩) hS ?_
            · intro w hw; clear hw; go_simp
            change wpAnyH _ _ _ _ _ _ _ (Act.put _ (some 54) _) _
            simp only [Act.put, List.setIfInBounds_toArray, List.set_cons_succ, List.set_cons_zero]
            refine wpAnyH_take (i := 3) (v := .agg #[.string x.key, .int .i64 x.ver, .int .i64 x.asof, .int .i64 x.ends, .slice qx x.val.length cx]) rfl (by kernel_rfl) (by kernel_rfl) (by kernel_rfl) (fun _ _ _ h => h) (Or.inl ⟨by kernel_rfl, ?_⟩) hS ?_
            · intro w hw
              obtain ⟨e0, e1, e2, e3, e4⟩ := hw
              go_simp
            change wpAnyH _ _ _ _ _ _ _ (Act.put _ (some 55) _) _
            simp only [Act.put, List.setIfInBounds_toArray, List.set_cons_succ, List.set_cons_zero]
            refine wpAnyH_take (i := 5) (v := .slice (some ⟨bb, off, none⟩) xs.length cl) rfl (by kernel_rfl) (by kernel_rfl) (by kernel_rfl) (fun _ _ _ h => h) (Or.inl ⟨by kernel_rfl, ?_⟩) hS ?_
            · intro w hw; clear hw; go_simp
            change wpAnyH _ _ _ _ _ _ _ (Act.put _ (some 57) _) _
            simp only [Act.put, List.setIfInBounds_toArray, List.set_cons_succ, List.set_cons_zero]
            refine wpAnyH_take (i := 6) (v := .int .i64 (k : Int)) rfl (by kernel_rfl) (by kernel_rfl) (by kernel_rfl) (fun _ _ _ h => h) (Or.inl ⟨by kernel_rfl, ?_⟩) hS ?_
            · intro w hw; clear hw; go_simp
            change wpAnyH _ _ _ _ _ _ _ (Act.put _ (some 58) _) _
            simp only [Act.put, List.setIfInBounds_toArray, List.set_cons_succ, List.set_cons_zero]
            refine wpAnyH_take (i := 7) (v := .pointer (some ⟨bb, off + k * 5, none⟩)) rfl (by kernel_rfl) (by kernel_rfl) (by kernel_rfl) (fun _ _ _ h => h) (Or.inl ⟨by kernel_rfl, ?_⟩) hS ?_
            · intro w hw; clear hw; go_simp
            change wpAnyH _ _ _ _ _ _ _ (Act.put _ (some 59) _) _
            simp only [Act.put, List.setIfInBounds_toArray, List.set_cons_succ, List.set_cons_zero]
            refine wpAnyH_take (i := 8) (v := .agg #[.string x.key, .int .i64 x.ver, .int .i64 x.asof, .int .i64 x.ends, .slice qx x.val.length cx]) rfl (by kernel_rfl) (by kernel_rfl) (by kernel_rfl) (fun _ _ _ h => h) (Or.inl ⟨by kernel_rfl, ?_⟩) hS ?_
            · intro w hw
              obtain ⟨e0, e1, e2, e3, e4⟩ := hw
              go_simp
            change wpAnyH _ _ _ _ _ _ _ (Act.put _ (some 60) _) _
            simp only [Act.put, List.setIfInBounds_toArray, List.set_cons_succ, List.set_cons_zero]
            refine wpAnyH_ready (rs := [4]) (by kernel_rfl) (by simp) ?_
            refine AllReadyH.cons rfl (fun K hK => ?_) AllReadyH.nil
            go_simp
            go_wp2_with (go_at_call 20; refine (size_any x.key x.ver x.asof x.ends qx x.val.length cx _ f1 f2 f3.1 f4.1 f5.1).mono ?_; rintro en w5 ⟨rfl, B5⟩)
            have D5 := D4.trans (B5.mono D4.size)
            refine hK.out _ _ (At5.stays hS B5) (fun hS => ?_)
            clear hK K
            skip
            refine wpAnyH_ready (rs := [9]) (by kernel_rfl) (by simp) ?_
            refine AllReadyH.cons rfl (fun K hK => ?_) AllReadyH.nil
            go_simp
            go_wp2_with (go_at_call 21; refine (rsizeE_any x.key x.ver x.asof x.ends f1 f2 f3 f4 f5 (HXV.out.stays D5)).mono ?_; rintro en w6 ⟨rfl, B6⟩)
            have D6 := D5.trans (B6.mono D5.size)
            refine hK.out _ _ (At5.stays hS B6) (fun hS => ?_)
            clear hK K
            skip
            refine wpAnyH_take (i := 10) (v := .bool false) rfl (by kernel_rfl) (by kernel_rfl) (by kernel_rfl) (fun _ _ _ h => h) (Or.inl ⟨by kernel_rfl, ?_⟩) hS ?_
            · intro w hw; clear hw; go_simp
            change wpAnyH _ _ _ _ _ _ _ (Act.put _ (some 62) _) _
            simp only [Act.put, List.setIfInBounds_toArray, List.set_cons_succ, List.set_cons_zero]
            refine wpAnyH_take (i := 11) (v := .bool false) rfl (by kernel_rfl) (by kernel_rfl) (by kernel_rfl) (fun _ _ _ h => h) (Or.inl ⟨by kernel_rfl, ?_⟩) hS ?_
            · intro w hw; clear hw; go_simp
            change wpAnyH _ _ _ _ _ _ _ (Act.put _ (some 63) _) _
            simp only [Act.put, List.setIfInBounds_toArray, List.set_cons_succ, List.set_cons_zero]
            refine wpAnyH_take (i := 12) (v := .slice q bs.length cap) rfl (by kernel_rfl) (by kernel_rfl) (by kernel_rfl) (fun _ _ _ h => h) (Or.inl ⟨by kernel_rfl, ?_⟩) hS ?_
            · intro w hw; clear hw; go_simp
            change wpAnyH _ _ _ _ _ _ _ (Act.put _ (some 64) _) _
            simp only [Act.put, List.setIfInBounds_toArray, List.set_cons_succ, List.set_cons_zero]
            refine wpAnyH_take (i := 13) (v := .slice (some ⟨bb, off, none⟩) xs.length cl) rfl (by kernel_rfl) (by kernel_rfl) (by kernel_rfl) (fun _ _ _ h => h) (Or.inl ⟨by kernel_rfl, ?_⟩) hS ?_
            · intro w hw; clear hw; go_simp
            change wpAnyH _ _ _ _ _ _ _ (Act.put _ (some 65) _) _
            simp only [Act.put, List.setIfInBounds_toArray, List.set_cons_succ, List.set_cons_zero]
            refine wpAnyH_take (i := 14) (v := .int .i64 (k : Int)) rfl (by kernel_rfl) (by kernel_rfl) (by kernel_rfl) (fun _ _ _ h => h) (Or.inl ⟨by kernel_rfl, ?_⟩) hS ?_
            · intro w hw; clear hw; go_simp
            change wpAnyH _ _ _ _ _ _ _ (Act.put _ (some 66) _) _
            simp only [Act.put, List.setIfInBounds_toArray, List.set_cons_succ, List.set_cons_zero]
            refine wpAnyH_take (i := 15) (v := .pointer (some ⟨bb, off + k * 5, none⟩)) rfl (by kernel_rfl) (by kernel_rfl) (by kernel_rfl) (fun _ _ _ h => h) (Or.inl ⟨by kernel_rfl, ?_⟩) hS ?_
            · intro w hw; clear hw; go_simp
            change wpAnyH _ _ _ _ _ _ _ (Act.put _ (some 67) _) _
            simp only [Act.put, List.setIfInBounds_toArray, List.set_cons_succ, List.set_cons_zero]
            refine wpAnyH_take (i := 16) (v := .agg #[.string x.key, .int .i64 x.ver, .int .i64 x.asof, .int .i64 x.ends, .slice qx x.val.length cx]) rfl (by kernel_rfl) (by kernel_rfl) (by kernel_rfl) (fun _ _ _ h => h) (Or.inl ⟨by kernel_rfl, ?_⟩) hS ?_
            · intro w hw
              obtain ⟨e0, e1, e2, e3, e4⟩ := hw
              go_simp
            change wpAnyH _ _ _ _ _ _ _ (Act.put _ (some 68) _) _
            simp only [Act.put, List.setIfInBounds_toArray, List.set_cons_succ, List.set_cons_zero]
            refine wpAnyH_take (i := 18) (v := .slice q bs.length cap) rfl (by kernel_rfl) (by kernel_rfl) (by kernel_rfl) (fun _ _ _ h => h) (Or.inl ⟨by kernel_rfl, ?_⟩) hS ?_
            · intro w hw; clear hw; go_simp
            change wpAnyH _ _ _ _ _ _ _ (Act.put _ (some 70) _) _
            simp only [Act.put, List.setIfInBounds_toArray, List.set_cons_succ, List.set_cons_zero]
            refine wpAnyH_take (i := 19) (v := .slice (some ⟨bb, off, none⟩) xs.length cl) rfl (by kernel_rfl) (by kernel_rfl) (by kernel_rfl) (fun _ _ _ h => h) (Or.inl ⟨by kernel_rfl, ?_⟩) hS ?_
            · intro w hw; clear hw; go_simp
            change wpAnyH _ _ _ _ _ _ _ (Act.put _ (some 71) _) _
            simp only [Act.put, List.setIfInBounds_toArray, List.set_cons_succ, List.set_cons_zero]
            refine wpAnyH_take (i := 20) (v := .int .i64 (k : Int)) rfl (by kernel_rfl) (by kernel_rfl) (by kernel_rfl) (fun _ _ _ h => h) (Or.inl ⟨by kernel_rfl, ?_⟩) hS ?_
            · intro w hw; clear hw; go_simp
            change wpAnyH _ _ _ _ _ _ _ (Act.put _ (some 72) _) _
            simp only [Act.put, List.setIfInBounds_toArray, List.set_cons_succ, List.set_cons_zero]
            refine wpAnyH_take (i := 21) (v := .pointer (some ⟨bb, off + k * 5, none⟩)) rfl (by kernel_rfl) (by kernel_rfl) (by kernel_rfl) (fun _ _ _ h => h) (Or.inl ⟨by kernel_rfl, ?_⟩) hS ?_
            · intro w hw; clear hw; go_simp
            change wpAnyH _ _ _ _ _ _ _ (Act.put _ (some 73) _) _
            simp only [Act.put, List.setIfInBounds_toArray, List.set_cons_succ, List.set_cons_zero]
            refine wpAnyH_take (i := 22) (v := .agg #[.string x.key, .int .i64 x.ver, .int .i64 x.asof, .int .i64 x.ends, .slice qx x.val.length cx]) rfl (by kernel_rfl) (by kernel_rfl) (by kernel_rfl) (fun _ _ _ h => h) (Or.inl ⟨by kernel_rfl, ?_⟩) hS ?_
            · intro w hw
              obtain ⟨e0, e1, e2, e3, e4⟩ := hw
              go_simp
            change wpAnyH _ _ _ _ _ _ _ (Act.put _ (some 74) _) _
            simp only [Act.put, List.setIfInBounds_toArray, List.set_cons_succ, List.set_cons_zero]
            refine wpAnyH_ready (rs := [17]) (by kernel_rfl) (by simp) ?_
            refine AllReadyH.cons rfl (fun K hK => ?_) AllReadyH.nil
            go_simp
            go_wp2_with (go_at_call 23; refine (putE_any x.key x.ver x.asof x.ends f1 f2 f3 f4 f5 (by omega) (HBB.out.stays D6) (HXV.out.stays D6)).mono ?_; rintro en w7 ⟨sv7, rfl, hown7, B7⟩)
            obtain ⟨b7, _, hs7⟩ := own_sl hown7
            have D7 := D6.trans (B7.mono D6.size)
            refine hK.out _ _ (At5.stays hS B7) (fun hS => ?_)
            clear hK K
            skip
            refine wpAnyH_ready (rs := [23]) (by kernel_rfl) (by simp) ?_
            refine AllReadyH.cons rfl (fun K hK => ?_) AllReadyH.nil
            go_simp
            go_wp2_with (go_at_call 24; refine (rputE_any x.key x.ver x.asof x.ends f1 f2 f3 f4 f5 (by omega) (HBB.out.stays D7) (HXV.out.stays D7)).mono ?_; rintro en w8 ⟨sv8, rfl, hown8, B8⟩)
            obtain ⟨b8, _, hs8⟩ := own_sl hown8
            have D8 := D7.trans (B8.mono D7.size)
            refine hK.out _ _ (At5.stays hS B8) (fun hS => ?_)
            clear hK K
            skip
            refine wpAnyH_ready (rs := [24]) (by kernel_rfl) (by simp) ?_
            refine AllReadyH.cons rfl (fun K hK => ?_) AllReadyH.nil
            go_simp
            go_wp2_with (go_at_call 22; refine (same_eq (hs7.stays B8) hs8 HBR.out).mono ?_; rintro en w9 ⟨rfl, B9⟩)
            have D9 := D8.trans (B9.mono D8.size)
            refine hK.out _ _ (At5.stays hS B9) (fun hS => ?_)
            clear hK K
            skip
            refine wpAnyH_take (i := 25) (v := .bool false) rfl (by kernel_rfl) (by kernel_rfl) (by kernel_rfl) (fun _ _ _ h => h) (Or.inl ⟨by kernel_rfl, ?_⟩) hS ?_
            · intro w hw; clear hw; go_simp
            change wpAnyH _ _ _ _ _ _ _ (Act.put _ (some 77) _) _
            simp only [Act.put, List.setIfInBounds_toArray, List.set_cons_succ, List.set_cons_zero]
            refine wpAnyH_take (i := 26) (v := .bool false) rfl (by kernel_rfl) (by kernel_rfl) (by kernel_rfl) (fun _ _ _ h => h) (Or.inl ⟨by kernel_rfl, ?_⟩) hS ?_
            · intro w hw; clear hw; go_simp
            change wpAnyH _ _ _ _ _ _ _ (Act.put _ (some 78) _) _
            simp only [Act.put, List.setIfInBounds_toArray, List.set_cons_succ, List.set_cons_zero]
            refine wpAnyH_done (by kernel_rfl) ?_ _
            clear hS
            go_wp2_with fail
            go_roundw
            case rel => exact ⟨k + 1, by omega, by go_num, fun j y hj hy => (by
              by_cases e : j = k
              · subst e; rw [HXk.out] at hy; cases hy; exact HCX.out
              · exact HC.out j y (by omega) hy), B02.trans (D9.mono B02.size)⟩
            case measure => simp [intOf]; omega
          · have hd : (cd != 0) = true := by simpa using hcd
            clear hcd
            go_wp2_with fail
            refine (HW.out _ B02).mono ?_
            rintro en w3 ⟨rfl, B3⟩
            go_wp2
            go_ret
            exact ⟨rfl, B02.trans (B3.mono B02.size)⟩
        · have hki : ¬ ((k : Int) < (xs.length : Int)) := by omega
          have hall : ∀ x ∈ xs, checkE x = 0 := by
            intro x hx
            obtain ⟨j, hj⟩ := List.getElem?_of_mem hx
            exact HC.out j x (by have := (List.getElem?_eq_some_iff.1 hj).1; omega) hj
          have hlen := allB_len_le hall
          have KA := hid2 (all_any (HL.out.stays hbr) (fun x hx => fine_of (hall x hx)) (by omega))
          have KB := hid2 (fun W (hw : Below w.heap.size w W) => rall_any (HL.out.stays hw) (fun x hx => fine_of (hall x hx)) (by omega))
          have HBY : Hid (Byt (allB xs)) := allB_byt (fun x hx => (HX.out x hx).1)
          clear HC hlen hall
          go_wp2_with fail
          refine (show Calls _ _ _ _ _ from KA).mono ?_
          rintro en w2 ⟨sv2, rfl, hown2, B2⟩
          obtain ⟨b2, _, hs2⟩ := own_sl hown2
          have B02 := hbr.trans (B2.mono hbr.size)
          clear hown2 KA
          go_wp2_with fail
          refine (KB.out _ B02).mono ?_
          rintro en w3 ⟨sv3, rfl, ⟨b3, hs3⟩, B3⟩
          have B03 := B02.trans (B3.mono B02.size)
          clear KB
          go_wp2_with fail
          refine (same_eq (hs2.stays B3) hs3 HBY.out).mono ?_
          rintro en w4 ⟨rfl, B4⟩
          have B04 := B03.trans (B4.mono B03.size)
          go_wp2_with fail
          refine (HW.out _ B04).mono ?_
          rintro en w5 ⟨rfl, B5⟩
          go_wp2
          go_ret
          exact ⟨rfl, B04.trans (B5.mono B04.size)⟩
    · have hlb' : lightB xs = false := by simpa using hlb
      rw [lightI_no hlb'] at C7
      have K7 := hid2 C7
      clear C7
      go_enter Tryd.func4, Tryd.ntmps4
      go_wp2_with fail
      refine (show Calls _ _ _ _ _ from K7).mono ?_
      rintro en w1 ⟨rfl, hw⟩
      cases hw
      go_wp2_with fail
      refine (HW.out _ (Below.refl _ _)).mono ?_
      rintro en w1 ⟨rfl, B1⟩
      go_wp2
      go_ret
      exact ⟨rfl, B1⟩
end Go.Proofs.YtibjhjojohjokaaDoor
