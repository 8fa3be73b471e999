/-
  The walk of the law BucketReads.
-/
import Derived.Test.YtgmghekgelmmcaaDoorQWorks
namespace Go.Proofs.YtgmghekgelmmcaaDoor
open Go.RowKit
open Ite (Ent zeroE checkE sizeE Fine EsAt readE lightB lightI)

theorem lightI_yes {xs : List Ent} (h : lightB xs = true) : lightI xs = 0 := by unfold lightI; rw [if_pos h]
theorem lightI_no {xs : List Ent} (h : lightB xs = false) : lightI xs = 1 := by unfold lightI; rw [h]; rfl
theorem allB_len_le {xs : List Ent} (h : ∀ x ∈ xs, checkE x = 0) : szL xs ≤ 85 * xs.length + Ite.sumV xs := by
  induction xs with
  | nil => simp [szL, Ite.allB]
  | cons x r ih =>
    have h1 := Ite.sizeE_le (h x (List.mem_cons_self ..))
    have h2 := ih fun y hy => h y (List.mem_cons_of_mem _ hy)
    rw [szL_cons]
    simp only [List.length_cons, Ite.sumV]
    omega
theorem splitR (r : List Ent × Int) : ∃ Y c, r = (Y, c) := ⟨r.1, r.2, rfl⟩

open Classical in
set_option maxHeartbeats 8000000 in
set_option maxRecDepth 10000 in
theorem lreads_any {w : World} {vl : Value} {xs : List Ent} {b : Nat} {q : Option Addr} {cap : Nat} {bs : List Int} (hl : EsAt w vl xs) (hx : ∀ x ∈ xs, Ite.Byt x.val ∧ x.key.size ≤ maxLen) (hb : Ite.SlAt w b (.slice q bs.length cap) (Ite.U bs)) (hby : Ite.Byt bs) (hE : ErrT w) :
    Calls Tryd.prog 3 #[.slice q bs.length cap, vl] w fun en w' => en = .returned (.bool true) ∧ Below w.heap.size w w' := by
  obtain ⟨pl, cl, hfl, hcl1, hcl2⟩ := hl.form
  unfold maxLen at hcl2
  have hbm : bs.length ≤ 9223372036854775807 := by
    obtain ⟨_, _, e, h1, h2⟩ := hb.form
    unfold maxLen at h2
    rw [Ite.U_length] at h1
    omega
  have C7 := Ite.light_any hl (fun x hx' => (hx x hx').2)
  subst hfl
  have HL := hid2 hl
  have HX := hid2 hx
  have HB := hid2 hb
  have HE := hid2 hE
  have HW : Hid (∀ W, Below w.heap.size w W → Calls Tryd.prog 7 #[] W fun en w' => en = .returned (.bool true) ∧ Below W.heap.size W w') := fun W hbw => works_any W (hE.below hbw)
  clear hl hx hb hE
  by_cases h3 : 2000 < bs.length
  · have d3 : 2000 < (bs.length : Int) := by omega
    clear C7
    go_enter Tryd.func3, Tryd.ntmps3
    go_wp2_with fail
    refine (HW.out _ (Below.refl _ _)).mono ?_
    rintro en w1 ⟨rfl, B1⟩
    go_wp2
    go_ret
    exact ⟨rfl, B1⟩
  · have d3 : ¬ 2000 < (bs.length : Int) := by omega
    by_cases hlb : lightB xs = true
    · rw [lightI_yes hlb] at C7
      have K7 := hid2 C7
      clear C7
      obtain ⟨l1, l2, l3⟩ := Ite.lightB_ok hlb
      obtain ⟨Y, c, hR⟩ := splitR (dupR (readE bs))
      have CR := bread_any HB.out hby (by omega) HE.out
      have CS := fun W (f : Below w.heap.size w W) => rread_any (HB.out.stays f) hby (by omega)
      rw [hR] at CR CS
      have KR := hid2 CR
      have KS := hid2 CS
      clear CR CS hR
      go_enter Tryd.func3, Tryd.ntmps3
      go_wp2_with fail
      refine (show Calls _ _ _ _ _ from K7.out).mono ?_
      rintro en w1 ⟨rfl, hw⟩
      cases hw
      go_wp2_with fail
      refine (show Calls _ _ _ _ _ from KR.out).mono ?_
      rintro en w1 ⟨rv, u, rfl, hv, hu, B1⟩
      obtain ⟨p1, c1, hf1, _, _⟩ := hv.form
      subst hf1
      have HV := hid2 hv
      have HU := hid2 hu
      have HB1 := hid2 B1
      clear hv hu B1
      go_wp2_with fail
      refine (show Calls _ _ _ _ _ from KS.out _ HB1.out).mono ?_
      rintro en w2 ⟨rv2, rfl, hv2, B2⟩
      obtain ⟨p2, c2, hf2, _, _⟩ := hv2.form
      subst hf2
      have HB2 := hid2 (HB1.out.trans (B2.mono HB1.out.size))
      have KSA := hid2 (Ite.sameall_eq (HV.out.stays B2) hv2)
      have HU2 := hid2 (HU.out.below B2)
      clear hv2 B2 KR KS
      go_wp2_with fail
      refine (show Calls _ _ _ _ _ from KSA.out).mono ?_
      rintro en w3 ⟨rfl, B3⟩
      have HB3 := hid2 (HB2.out.trans (B3.mono HB2.out.size))
      have KO := hid2 (Ite.of_code (HE.out.below HB3.out) (HU2.out.below B3))
      clear B3 KSA
      go_wp2_with fail
      refine (show Calls _ _ _ _ _ from KO.out).mono ?_
      rintro en w4 ⟨rfl, B4⟩
      have HB4 := hid2 (HB3.out.trans (B4.mono HB3.out.size))
      have KRT := hid2 (right_any (HL.out.stays HB4.out) (fun x hx => ⟨Nat.le_trans (l3 x hx).1 (by omega), Nat.le_trans (l3 x hx).2 (by omega)⟩))
      clear B4 KO
      go_wp2_with fail
      refine (show Calls _ _ _ _ _ from KRT.out).mono ?_
      rintro en w5 ⟨rfl, B5⟩
      have HB5 := hid2 (HB4.out.trans (B5.mono HB4.out.size))
      clear B5 KRT
      by_cases hr : right xs
      · rw [decide_eq_true hr]
        obtain ⟨hck, hnd⟩ := right_nd.1 hr
        have hsz := allB_len_le hck
        have hrd : dupR (readE (Ite.allB xs)) = (xs, 0) := by
          rw [Ite.readE_put xs hck]
          exact dupR_ok rfl hnd
        have KA := hid2 (Ite.all_any (HL.out.stays HB5.out) (fun x hx => Ite.fine_of (hck x hx)) (by show szL xs ≤ 18000; omega))
        have HCK := hid2 hck
        have HSZ : Hid ((Ite.allB xs).length ≤ 20000) := by show szL xs ≤ 20000; omega
        have HRD := hid2 hrd
        clear hck hnd hsz hrd hr
        go_wp2_with fail
        refine (show Calls _ _ _ _ _ from KA.out).mono ?_
        rintro en w6 ⟨sv, rfl, ho6, B6⟩
        have HB6 := hid2 (HB5.out.trans (B6.mono HB5.out.size))
        obtain ⟨b6, _, hs6⟩ := Ite.own_sl ho6
        have KB := bread_any hs6 (Ite.allB_byt (fun x hx => (HX.out x hx).1)) HSZ.out (HE.out.below HB6.out)
        rw [HRD.out] at KB
        have KBH := hid2 KB
        clear ho6 B6 hs6 KB KA
        go_wp2_with fail
        refine (show Calls _ _ _ _ _ from KBH.out).mono ?_
        rintro en w7 ⟨rv7, u7, rfl, hv7, hu7, B7⟩
        obtain rfl := hu7.none
        obtain ⟨p7, c7, hf7, _, _⟩ := hv7.form
        subst hf7
        have HB7 := hid2 (HB6.out.trans (B7.mono HB6.out.size))
        have KSB := hid2 (Ite.sameall_eq hv7 (HL.out.stays HB7.out))
        clear hv7 hu7 B7 KBH
        go_wp2_with fail
        refine (show Calls _ _ _ _ _ from KSB.out).mono ?_
        rintro en w8 ⟨rfl, B8⟩
        have HB8 := hid2 (HB7.out.trans (B8.mono HB7.out.size))
        clear B8 KSB
        go_wp2_with fail
        refine (HW.out _ HB8.out).mono ?_
        rintro en w9 ⟨rfl, B9⟩
        go_wp2
        go_ret
        exact ⟨rfl, HB8.out.trans (B9.mono HB8.out.size)⟩
      · rw [decide_eq_false hr]
        clear hr
        go_wp2_with fail
        refine (HW.out _ HB5.out).mono ?_
        rintro en w6 ⟨rfl, B6⟩
        go_wp2
        go_ret
        exact ⟨rfl, HB5.out.trans (B6.mono HB5.out.size)⟩
    · rw [lightI_no (by simpa using hlb)] at C7
      have K7 := hid2 C7
      clear C7
      go_enter Tryd.func3, Tryd.ntmps3
      go_wp2_with fail
      refine (show Calls _ _ _ _ _ from K7.out).mono ?_
      rintro en w1 ⟨rfl, hw⟩
      cases hw
      go_wp2_with fail
      refine (HW.out _ (Below.refl _ _)).mono ?_
      rintro en w1 ⟨rfl, B1⟩
      go_wp2
      go_ret
      exact ⟨rfl, B1⟩
end Go.Proofs.YtgmghekgelmmcaaDoor
