/-
  The walk of the law ItemBack.
-/
import Derived.Test.YtibjhjojohjokaaDoorWorks
namespace Go.Proofs.YtibjhjojohjokaaDoor
open Go.RowKit

theorem lightI_yes {xs : List Ent} (h : lightB xs = true) : lightI xs = 0 := by unfold lightI; rw [if_pos h]
theorem lightI_no {xs : List Ent} (h : lightB xs = false) : lightI xs = 1 := by unfold lightI; rw [h]; rfl
theorem allB_len_le {xs : List Ent} (h : ∀ x ∈ xs, checkE x = 0) : (allB xs).length ≤ 85 * xs.length + sumV xs := by
  induction xs with
  | nil => simp [allB]
  | cons x r ih =>
    have h1 := sizeE_le (h x (List.mem_cons_self ..))
    have h2 := ih fun y hy => h y (List.mem_cons_of_mem _ hy)
    simp only [allB, List.length_append, rowB_length, List.length_cons, sumV]
    omega

set_option maxHeartbeats 2000000 in
set_option maxRecDepth 10000 in
theorem back_any {w : World} {vl : Value} {xs : List Ent} {b : Nat} {q : Option Addr} {cap : Nat} {bs : List Int} (hl : EsAt w vl xs) (hx : ∀ x ∈ xs, Byt x.val ∧ x.key.size ≤ maxLen) (hb : SlAt w b (.slice q bs.length cap) (U bs)) (hby : Byt bs) (hE : ErrT w) :
    Calls Tryd.prog 5 #[vl, .slice q bs.length cap] w fun en w' => en = .returned (.bool true) ∧ Below w.heap.size w w' := by
  obtain ⟨pl, cl, hfl, hcl1, hcl2⟩ := hl.form
  unfold maxLen at hcl2
  have hbm : bs.length ≤ 9223372036854775807 := by
    obtain ⟨_, _, e, h1, h2⟩ := hb.form
    unfold maxLen at h2
    rw [U_length] at h1
    omega
  have C7 := light_any hl (fun x hx' => (hx x hx').2)
  subst hfl
  have HL := hid2 hl
  have HX := hid2 hx
  have HB := hid2 hb
  have HW : Hid (∀ W, Below w.heap.size w W → Calls Tryd.prog 8 #[] W fun en w' => en = .returned (.bool true) ∧ Below W.heap.size W w') := fun W hbw => works_any (hE.below hbw)
  clear hl hx hb
  by_cases hlb : lightB xs = true
  · rw [lightI_yes hlb] at C7
    have K7 := hid2 C7
    clear C7
    obtain ⟨l1, l2, l3⟩ := lightB_ok hlb
    by_cases h3 : 3000 < bs.length
    · have d3 : 3000 < (bs.length : Int) := by omega
      go_enter Tryd.func5, Tryd.ntmps5
      go_wp2_with fail
      refine (show Calls _ _ _ _ _ from K7).mono ?_
      rintro en w1 ⟨rfl, hw⟩
      cases hw
      go_wp2_with fail
      refine (HW.out _ (Below.refl _ _)).mono ?_
      rintro en w1 ⟨rfl, B1⟩
      go_wp2
      go_ret
      exact ⟨rfl, B1⟩
    · have d3 : ¬ 3000 < (bs.length : Int) := by omega
      obtain ⟨ys, c, hR⟩ : ∃ ys c, readE bs = (ys, c) := ⟨_, _, rfl⟩
      have CR := read_ents HB.out hby (by omega) hE
      rw [hR] at CR
      have KR := hid2 CR
      have HR := hid2 hR
      clear CR hR
      go_enter Tryd.func5, Tryd.ntmps5
      go_wp2_with fail
      refine (show Calls _ _ _ _ _ from K7).mono ?_
      rintro en w1 ⟨rfl, hw⟩
      cases hw
      go_wp2_with fail
      refine (show Calls _ _ _ _ _ from KR).mono ?_
      rintro en w1 ⟨rv, u, rfl, hv, hu, B1⟩
      obtain ⟨p1, c1, hf1, _, _⟩ := hv.form
      subst hf1
      have HV := hid2 hv
      have HB1 := hid2 B1
      clear hv B1 KR K7
      have hu2 : (c = 0 ∧ u = .nilIface) ∨ (c ≠ 0 ∧ ∃ pe, u = .iface 83 (.pointer (some pe))) := by
        rcases hu with h | ⟨h, _, _, _, pe, _, _, h2⟩
        · exact .inl h
        · exact .inr ⟨h, pe, h2⟩
      clear hu
      have hu3 : ∃ ue, u = ue := ⟨u, rfl⟩
      go_upto_region 4 with fail
      go_cut [32] (fun x wx => x = .bool false ∧ Below w.heap.size w wx)
      case first =>
        rcases hu2 with ⟨rfl, rfl⟩ | ⟨hc, pe, rfl⟩
        · obtain ⟨i1, i2, i3⟩ := readE_inv hby HR.out
          have hlen : (allB ys).length ≤ 18000 := by rw [← i1]; omega
          have KA := hid2 (all_any HV.out (fun x hx => fine_of (i2 x hx).2) hlen)
          have HI := hid2 i1
          clear i1 i2 i3 hlen
          go_wp2_with fail
          refine (show Calls _ _ _ _ _ from KA).mono ?_
          rintro en w2 ⟨sv2, rfl, hown2, B2⟩
          obtain ⟨b2, _, hs2⟩ := own_sl hown2
          rw [← HI.out] at hs2
          have B02 := HB1.out.trans (B2.mono HB1.out.size)
          clear hown2
          go_wp2_with fail
          refine (same_eq hs2 (HB.out.stays B02) hby).mono ?_
          rintro en w3 ⟨rfl, B3⟩
          go_wp2_with fail
          go_meet
          exact ⟨rfl, B02.trans (B3.mono B02.size)⟩
        · go_wp2_with fail
          go_meet
          exact ⟨rfl, HB1.out⟩
      case rest =>
        obtain ⟨rfl, hbc⟩ := hcut
        clear hu2 hu3 HV HB1 HR
        go_wp2_with fail
        go_loopw [7] (fun i wr => ∃ k : Nat, k ≤ xs.length ∧ i = .int .i64 (k : Int) ∧ Hid (∀ j x, j < k → xs[j]? = some x → checkE x = 0) ∧ Below w.heap.size w wr) (fun i _ => xs.length - (intOf i).toNat)
        case atStart => exact ⟨0, Nat.zero_le _, rfl, fun j x hj => (by omega), hbc⟩
        case round =>
          clear hbc
          obtain ⟨k, hk, rfl, HC, hbr⟩ := hrel
          by_cases hlt : k < xs.length
          · obtain ⟨x, hx⟩ : ∃ x, xs[k]? = some x := ⟨_, List.getElem?_eq_getElem hlt⟩
            obtain ⟨pe, ce, hfe, _, _, hel⟩ := HL.out
            simp only [Value.slice.injEq, true_and] at hfe
            obtain ⟨rfl, rfl⟩ := hfe
            obtain ⟨bb, off, qx, cx, rfl, hbb, a0, a1, a2, a3, a4, hbs⟩ := hel k _ hx
            have hki : (k : Int) < (xs.length : Int) := by omega
            have HXk := hid2 hx
            obtain ⟨_, hkm⟩ := HX.out x (List.mem_of_getElem? hx)
            have hvm : x.val.length ≤ maxLen := by
              obtain ⟨_, _, _, h1, h2⟩ := hbs.form
              omega
            have cc : ∀ o, wr.cell? ⟨bb, o, none⟩ = w.cell? ⟨bb, o, none⟩ := fun o => hbr.cell (p := ⟨bb, o, none⟩) hbb
            have a0 := (cc _).trans a0
            have a1 := (cc _).trans a1
            have a2 := (cc _).trans a2
            have a3 := (cc _).trans a3
            have a4 := (cc _).trans a4
            have hbb2 := Nat.lt_of_lt_of_le hbb hbr.size
            clear cc hx hel hbs
            go_wp2_with fail
            refine (rcheck_any x.key x.ver x.asof x.ends qx x.val.length cx _ hkm hvm).mono ?_
            rintro en w2 ⟨rfl, B2⟩
            have B02 := hbr.trans (B2.mono hbr.size)
            have HCX : Hid (checkE x = chk x.key x.ver x.asof x.ends x.val.length) := rfl
            generalize chk x.key x.ver x.asof x.ends x.val.length = cd at *
            clear a0 a1 a2 a3 a4
            by_cases hcd : cd = 0
            · subst hcd
              go_wp2_with fail
              go_roundw
              case rel => exact ⟨k + 1, by omega, by go_num, fun j y hj hy => (by
                by_cases e : j = k
                · subst e; rw [HXk.out] at hy; cases hy; exact HCX.out
                · exact HC.out j y (by omega) hy), B02⟩
              case measure => simp [intOf]; omega
            · have hd : (cd != 0) = true := by simpa using hcd
              clear hcd
              go_wp2_with fail
              refine (HW.out _ B02).mono ?_
              rintro en w3 ⟨rfl, B3⟩
              go_wp2
              go_ret
              exact ⟨rfl, B02.trans (B3.mono B02.size)⟩
          · have hki : ¬ ((k : Int) < (xs.length : Int)) := by omega
            have hall : ∀ x ∈ xs, checkE x = 0 := by
              intro x hx
              obtain ⟨j, hj⟩ := List.getElem?_of_mem hx
              exact HC.out j x (by have := (List.getElem?_eq_some_iff.1 hj).1; omega) hj
            have hlen := allB_len_le hall
            have HRX := hid2 (readE_put xs hall)
            have KA := hid2 (all_any (HL.out.stays (hbr.mono (Nat.le_refl _))) (fun x hx => fine_of (hall x hx)) (by omega))
            have HBY : Hid (Byt (allB xs)) := allB_byt (fun x hx => (HX.out x hx).1)
            have hlen2 : (allB xs).length ≤ 20000 := by omega
            clear HC hlen hall
            go_wp2_with fail
            refine (show Calls _ _ _ _ _ from KA).mono ?_
            rintro en w2 ⟨sv2, rfl, hown2, B2⟩
            obtain ⟨b2, _, hs2⟩ := own_sl hown2
            have B02 := hbr.trans (B2.mono hbr.size)
            clear hown2 KA
            have CR := read_ents hs2 HBY.out hlen2 (hE.below B02)
            rw [HRX.out] at CR
            have KR := hid2 CR
            clear CR hs2
            go_wp2_with fail
            refine (show Calls _ _ _ _ _ from KR).mono ?_
            rintro en w3 ⟨rv, u3, rfl, hv3, hu3, B3⟩
            obtain rfl := Fault.none hu3
            have B03 := B02.trans (B3.mono B02.size)
            have KS := hid2 (sameall_eq hv3 (HL.out.stays (B03.mono (Nat.le_refl _))))
            obtain ⟨p3, c3, hf3, _, _⟩ := hv3.form
            subst hf3
            clear hu3 KR hv3
            go_wp2_with fail
            refine (show Calls _ _ _ _ _ from KS).mono ?_
            rintro en w4 ⟨rfl, B4⟩
            have B04 := B03.trans (B4.mono B03.size)
            go_wp2_with fail
            refine (HW.out _ B04).mono ?_
            rintro en w5 ⟨rfl, B5⟩
            go_wp2
            go_ret
            exact ⟨rfl, B04.trans (B5.mono B04.size)⟩
  · have hlb' : lightB xs = false := by simpa using hlb
    rw [lightI_no hlb'] at C7
    have K7 := hid2 C7
    clear C7
    go_enter Tryd.func5, Tryd.ntmps5
    go_wp2_with fail
    refine (show Calls _ _ _ _ _ from K7).mono ?_
    rintro en w1 ⟨rfl, hw⟩
    cases hw
    go_wp2_with fail
    refine (HW.out _ (Below.refl _ _)).mono ?_
    rintro en w1 ⟨rfl, B1⟩
    go_wp2
    go_ret
    exact ⟨rfl, B1⟩
end Go.Proofs.YtibjhjojohjokaaDoor
