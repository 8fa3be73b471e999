/-
  The program's bucket: an insertion.
-/
import Derived.Test.YtgmghekgelmmcaaDoorQIns
namespace Go.Proofs.YtgmghekgelmmcaaDoor
open Go.RowKit
open Ite (Ent zeroE checkE sizeE Fine EsAt)

set_option maxHeartbeats 2000000 in
set_option maxRecDepth 10000 in
theorem insert_any {w : World} {v : Value} {L : List Ent} (h : EsAt w v L) (hf : ∀ y ∈ L, Fine y) (hl : L.length ≤ 9000) (hz : szL L ≤ 90000) (x : Ent) {q : Option Addr} {c : Nat} (hx : Ite.Bs w (.slice q x.val.length c) x.val) (hk : x.key.size ≤ 100000) (hn : x.val.length ≤ 20000) :
    Calls Tryd.prog 14 #[v, .agg #[.string x.key, .int .i64 x.ver, .int .i64 x.asof, .int .i64 x.ends, .slice q x.val.length c]] w fun e w' => ∃ a g u, e = .returned (.tuple #[a, g, u]) ∧ EsAt w' a (insP L x).1 ∧ EsAt w' g (insP L x).2.1 ∧ Ite.Fault1 w' u (insP L x).2.2 ∧ Below w.heap.size w w' := by
  have hb0 : Below w.heap.size w (w.alloc (.cells #[.string x.key, .int .i64 x.ver, .int .i64 x.asof, .int .i64 x.ends, .slice q x.val.length c] 39)) := by go_grown
  have hx0 := heap_alloc_new w (.cells #[.string x.key, .int .i64 x.ver, .int .i64 x.asof, .int .i64 x.ends, .slice q x.val.length c] 39)
  have KC := hid2 (Ite.check_any x.key x.ver x.asof x.ends q x.val.length c (w.alloc (.cells #[.string x.key, .int .i64 x.ver, .int .i64 x.asof, .int .i64 x.ends, .slice q x.val.length c] 39)) (by unfold maxLen; omega) (by unfold maxLen; omega))
  rw [show Ite.chk x.key x.ver x.asof x.ends x.val.length = checkE x from rfl] at KC
  obtain ⟨p, cap, rfl, h2, h3⟩ := h.form
  unfold maxLen at h3
  obtain ⟨⟨q0, q1, q2, q3, q4⟩, qf⟩ := Ite.five24 hx0
  have HB0 := hid2 hb0
  have HX0 := hid2 hx0
  have HE := hid2 h
  have HF := hid2 hf
  have HZ := hid2 hz
  have HX := hid2 hx
  clear hb0 hx0 h hf hz hx
  go_enter Tryd.func14, Tryd.ntmps14
  go_wp2_with fail
  refine (show Calls _ _ _ _ _ from KC.out).mono ?_
  rintro e w1 ⟨u, rfl, hu, hb1⟩
  have HB1 := hid2 (HB0.out.trans (hb1.mono HB0.out.size))
  have HX1 := hid2 (heap_stays HX0.out hb1)
  clear KC hb1 q0 q1 q2 q3 q4 qf HX0 HB0
  by_cases hc : checkE x = 0
  · rw [hc] at hu
    obtain rfl := hu.zero
    have hfine := Ite.fine_of hc
    have hsz := Ite.fine_size hfine
    have HC := hid2 hc
    have HFX := hid2 hfine
    obtain ⟨⟨q0, q1, q2, q3, q4⟩, qf⟩ := Ite.five24 HX1.out
    have hal1 : Below w1.heap.size w1 (w1.alloc (.cells #[.string x.key, .int .i64 x.ver, .int .i64 x.asof, .int .i64 x.ends, .slice q x.val.length c] 39)) := by go_grown
    have KS := hid2 (bsize_any (xs := [x]) (Ite.ents_one (HX.out.stays HB1.out)) (fun y hy => by rw [List.mem_singleton.1 hy]; exact hfine) (by rw [szL_one]; omega))
    rw [szL_one] at KS
    have HA1 := hid2 hal1
    clear hc hu hfine hal1
    go_wp2_with fail
    refine (show Calls _ _ _ _ _ from KS.out).mono ?_
    rintro e w2 ⟨rfl, hb2⟩
    have b12 := HA1.out.trans (hb2.mono HA1.out.size)
    have HB2 := hid2 (HB1.out.trans (b12.mono HB1.out.size))
    have HX2 := hid2 (heap_stays HX1.out b12)
    clear KS b12 hb2 q0 q1 q2 q3 q4 qf HX1 HA1
    by_cases hbig : 233 < sizeE x
    · have HI := hid2 (insP_big (L := L) HC.out hbig)
      generalize sizeE x = sx at *
      have hgt : (233 : Int) < (sx : Int) := by omega
      clear hbig
      go_wp2_with fail
      refine (Ite.new_code1 _ _ _ _).mono ?_
      rintro e w3 ⟨u3, rfl, hu3, hb3⟩
      go_wp2
      go_ret3
      refine ⟨_, _, _, rfl, ?_, ?_, ?_, HB2.out.trans (hb3.mono HB2.out.size)⟩
      · rw [HI.out]; exact EsAt.nil _
      · rw [HI.out]; exact EsAt.nil _
      · rw [HI.out]; exact hu3
    · have HI := hid2 (insP_ok (L := L) HC.out hbig)
      have HBIG := hid2 hbig
      have hgt : ¬ (233 : Int) < (sizeE x : Int) := by omega
      have KR := hid2 (remove_any (HE.out.stays HB2.out) HF.out (by omega) x.key)
      obtain ⟨⟨q0, q1, q2, q3, q4⟩, qf⟩ := Ite.five24 HX2.out
      generalize hsx : sizeE x = sx at *
      have HSX := hid2 hsx
      clear hbig hsx
      go_wp2_with fail
      refine (show Calls _ _ _ _ _ from KR.out).mono ?_
      rintro e w3 ⟨v3, cs, rfl, ho3, hq3, hb3⟩
      have hbl := butK_len L x.key
      obtain ⟨p3, c3, rfl⟩ := own_form5 ho3
      have HB3 := hid2 (HB2.out.trans (hb3.mono HB2.out.size))
      have HX3 := hid2 (heap_stays HX2.out hb3)
      have HO3 := hid2 ho3
      have HQ3 := hid2 hq3
      have H23 := hid2 hb3.size
      clear KR hb3 ho3 hq3 q0 q1 q2 q3 q4 qf HX2
      obtain ⟨⟨q0, q1, q2, q3, q4⟩, qf⟩ := Ite.five24 HX3.out
      go_wp2_with fail
      refine (Ite.copy_any x.key x.ver x.asof x.ends (HX.out.stays HB3.out) (by omega)).mono ?_
      rintro e w4 ⟨p4, c4, rfl, hs4, hb4⟩
      obtain ⟨i0, hi, hz0, hz1, hz2⟩ := info_parts info_en
      have hal : Below w4.heap.size w4 (w4.alloc (.cells #[.string x.key, .int .i64 x.ver, .int .i64 x.asof, .int .i64 x.ends, .slice p4 x.val.length c4] 39)) := by go_grown
      have b45 := hb4.trans (hal.mono hb4.size)
      have O5 := hid2 (own_fr HO3.out b45)
      have Q5 := hid2 ((HQ3.out.stays b45).snoc ((Bq.of5 w2.heap.size hs4).stays hal))
      have B5 := hid2 (HB3.out.trans (b45.mono HB3.out.size))
      have H25 := hid2 (Nat.le_trans H23.out b45.size)
      have H20 := hid2 HB2.out.size
      clear hs4 hb4 hal b45 q0 q1 q2 q3 q4 qf HX3
      go_wp2_with (at_builtin; refine wpList_append_own _ rfl (.tmp 31) (.tmp 34) 23 rfl w2.heap.size 39 i0 (.agg #[.string ⟨#[]⟩, .int .i64 0, .int .i64 0, .int .i64 0, .slice none 0 0]) 5 64 Tryd.underlying23 hi hz0 hz1 hz2 rfl (by decide) _ _ _ rfl O5.out ⟨w4.heap.size, 0, none⟩ 1 1 [.string x.key, .int .i64 x.ver, .int .i64 x.asof, .int .i64 x.ends, .slice p4 x.val.length c4] rfl rfl (cell_five_new _ _ _ _ _ _ _) (by intro x hx; simp at hx; rcases hx with rfl | rfl | rfl | rfl | rfl <;> rfl) (by unfold maxLen; omega) (by omega) H25.out ?_; intro v6 w6 hown6 hgrow6 _)
      have G6 := row_grown O5.out hgrow6 (Nat.le_refl _)
      have Q6 := Q5.out.fr G6
      have B6 := hid2 (B5.out.grown hgrow6 B5.out.size (fun k hk => Nat.le_trans H20.out (O5.out.lt k hk).1))
      have E6 : EsAt w6 v6 (insA L x) := EsAt.own hown6 (insA_len L x).symm Q6
      obtain ⟨g, c6, rfl⟩ : ∃ g c6, v6 = .slice (some ⟨g, 0, none⟩) ((butK L x.key).length + 1) c6 := by
        rcases hown6.2 with ⟨rfl, h0⟩ | ⟨g, c6, _, e, _⟩
        · omega
        · exact ⟨g, c6, e⟩
      rw [← insA_len] at E6 ⊢
      have KM := hid2 (many_any E6 (fun y hy => by
        rcases List.mem_append.1 hy with hy | hy
        · exact HF.out y (butK_mem.1 hy).1
        · rw [List.mem_singleton.1 hy]; exact HFX.out) (by have a := insA_sz L x; have b := HZ.out; rw [HSX.out] at a; omega))
      have HE6 := hid2 E6
      have hlen6 := insA_len L x
      have hc6 : (insA L x).length ≤ c6 ∧ c6 ≤ maxLen := by obtain ⟨_, _, e, a, b⟩ := E6.form; cases e; exact ⟨a, b⟩
      unfold maxLen at hc6
      have hcut := cutK_le (insA L x)
      clear G6 Q6 E6 hown6 hgrow6 O5 Q5 B5
      go_wp2_with fail
      refine (show Calls _ _ _ _ _ from KM.out).mono ?_
      rintro e w7 ⟨rfl, hb7⟩
      have HE7 := hid2 (HE6.out.stays hb7)
      have HB7 := hid2 (B6.out.trans (hb7.mono B6.out.size))
      clear hb7 KM HE6
      generalize hA : insA L x = A at *
      generalize hkk : cutK A = k at *
      generalize hnn : A.length = n at *
      have HA := hid2 hA
      have HK := hid2 hkk
      have HN := hid2 hnn
      have hkI : (0 : Int) ≤ (k : Int) ∧ (k : Int) ≤ (n : Int) := by omega
      have hkI2 : (k : Int) ≤ (c6 : Int) := by omega
      have htn : ((k : Int)).toNat = k := by omega
      obtain ⟨o2, ho2⟩ : ∃ o2, o2 = if c6 = k then 0 else 0 + k * 5 := ⟨_, rfl⟩
      have ho3 : (if c6 = k then some (⟨g, 0, none⟩ : Addr) else some ⟨g, k * 5, none⟩) = some ⟨g, o2, none⟩ := by rw [ho2]; split <;> simp
      have HO2 := hid2 ho3
      have HOO := hid2 ho2
      have hn9 : n ≤ 9001 := by omega
      clear hA hkk hnn ho2 ho3 hlen6 hbl
      go_wp2_with fail
      refine wp_region_held_drew (S := fun _ => True) (by kernel_rfl) trivial (fun hS => ?_)
      change wpAnyH _ _ _ _ _ _ _ _ (World.drew _)
      refine wpAnyH_take (i := 0) (v := .slice (some ⟨g, 0, none⟩) n c6) rfl (by kernel_rfl) (by kernel_rfl) (by kernel_rfl) (fun _ _ _ h => h) (Or.inl ⟨by kernel_rfl, ?_⟩) hS ?_
      · intro w hw; clear hw; go_simp
      change wpAnyH _ _ _ _ _ _ _ (Act.put _ (some 38) _) _
      simp only [Act.put, List.setIfInBounds_toArray, List.set_cons_succ, List.set_cons_zero]
      refine wpAnyH_take (i := 1) (v := .int .i64 (k : Int)) rfl (by kernel_rfl) (by kernel_rfl) (by kernel_rfl) (fun _ _ _ h => h) (Or.inl ⟨by kernel_rfl, ?_⟩) hS ?_
      · intro w hw; clear hw; go_simp
      change wpAnyH _ _ _ _ _ _ _ (Act.put _ (some 39) _) _
      simp only [Act.put, List.setIfInBounds_toArray, List.set_cons_succ, List.set_cons_zero]
      refine wpAnyH_take (i := 2) (v := .slice (some ⟨g, o2, none⟩) (n - k) (c6 - k)) rfl (by kernel_rfl) (by kernel_rfl) (by kernel_rfl) (fun _ _ _ h => h) (Or.inl ⟨by kernel_rfl, ?_⟩) hS ?_
      · intro w hw
        clear hw
        go_simp
        exact HO2.out
      change wpAnyH _ _ _ _ _ _ _ (Act.put _ (some 40) _) _
      simp only [Act.put, List.setIfInBounds_toArray, List.set_cons_succ, List.set_cons_zero]
      refine wpAnyH_take (i := 4) (v := .slice (some ⟨g, 0, none⟩) n c6) rfl (by kernel_rfl) (by kernel_rfl) (by kernel_rfl) (fun _ _ _ h => h) (Or.inl ⟨by kernel_rfl, ?_⟩) hS ?_
      · intro w hw; clear hw; go_simp
      change wpAnyH _ _ _ _ _ _ _ (Act.put _ (some 42) _) _
      simp only [Act.put, List.setIfInBounds_toArray, List.set_cons_succ, List.set_cons_zero]
      refine wpAnyH_take (i := 5) (v := .int .i64 (k : Int)) rfl (by kernel_rfl) (by kernel_rfl) (by kernel_rfl) (fun _ _ _ h => h) (Or.inl ⟨by kernel_rfl, ?_⟩) hS ?_
      · intro w hw; clear hw; go_simp
      change wpAnyH _ _ _ _ _ _ _ (Act.put _ (some 43) _) _
      simp only [Act.put, List.setIfInBounds_toArray, List.set_cons_succ, List.set_cons_zero]
      refine wpAnyH_take (i := 6) (v := .slice (some ⟨g, 0, none⟩) k c6) rfl (by kernel_rfl) (by kernel_rfl) (by kernel_rfl) (fun _ _ _ h => h) (Or.inl ⟨by kernel_rfl, ?_⟩) hS ?_
      · intro w hw
        clear hw
        go_simp
        try (intro hh; exfalso; omega)
      change wpAnyH _ _ _ _ _ _ _ (Act.put _ (some 44) _) _
      simp only [Act.put, List.setIfInBounds_toArray, List.set_cons_succ, List.set_cons_zero]
      have HD : Hid (EsAt w7.drew (.slice (some ⟨g, o2, none⟩) (n - k) (c6 - k)) (A.drop k)) := by
        show EsAt _ _ _
        have e := HE7.out
        rw [← HN.out] at e
        have := EsAt.drop e (k := k) (by rw [HN.out]; exact hcut)
        rw [HN.out, ← HOO.out] at this
        exact this.stays (drew_below_m w7 1 _)
      have HT : Hid (EsAt w7.drew (.slice (some ⟨g, 0, none⟩) k c6) (A.take k)) := by
        show EsAt _ _ _
        have e := HE7.out
        rw [← HN.out] at e
        exact (EsAt.take e (k := k) (by rw [HN.out]; exact hcut)).stays (drew_below_m w7 1 _)
      have HL1 : Hid ((A.drop k).length ≤ 50000) := by show _ ≤ _; rw [List.length_drop, HN.out]; omega
      have HL2 : Hid ((A.take k).length ≤ 50000) := by show _ ≤ _; rw [List.length_take, HN.out]; omega
      refine wpAnyH_ready (rs := [3]) (by kernel_rfl) (by simp) ?_
      refine AllReadyH.cons rfl (fun K hK => ?_) AllReadyH.nil
      go_simp
      go_wp2_with fail
      refine (eclone_any HD.out HL1.out).mono ?_
      rintro e w8 ⟨p8, c8, rfl, h8, _, hb8⟩
      have H8 := hid2 h8
      have HB8 := hid2 ((drew_below_m w7 1 w7.heap.size).trans (hb8.mono (Nat.le_refl _)))
      have HT8 := hid2 (HT.out.stays hb8)
      clear h8 hb8
      refine hK.out _ _ trivial (fun _ => ?_)
      clear hK K
      skip
      refine wpAnyH_ready (rs := [7]) (by kernel_rfl) (by simp) ?_
      refine AllReadyH.cons rfl (fun K hK => ?_) AllReadyH.nil
      go_simp
      go_wp2_with fail
      refine (eclone_any HT8.out HL2.out).mono ?_
      rintro e w9 ⟨p9, c9, rfl, h9, _, hb9⟩
      have H9 := hid2 h9
      have H89 := hid2 (H8.out.stays hb9)
      have HB9 := hid2 (HB8.out.trans (hb9.mono HB8.out.size))
      clear h9 hb9
      refine hK.out _ _ trivial (fun _ => ?_)
      clear hK K
      skip
      refine wpAnyH_ready (rs := [8]) (by kernel_rfl) (by simp) ?_
      refine AllReadyH.cons rfl (fun K hK => ?_) AllReadyH.nil
      go_simp
      refine hK.out _ _ trivial (fun _ => ?_)
      clear hK K
      skip
      refine wpAnyH_ready (rs := [9]) (by kernel_rfl) (by simp) ?_
      refine AllReadyH.cons rfl (fun K hK => ?_) AllReadyH.nil
      go_simp
      refine hK.out _ _ trivial (fun _ => ?_)
      clear hK K
      skip
      refine wpAnyH_ready (rs := [10]) (by kernel_rfl) (by simp) ?_
      refine AllReadyH.cons rfl (fun K hK => ?_) AllReadyH.nil
      go_simp
      refine hK.out _ _ trivial (fun _ => ?_)
      clear hK K
      skip
      refine wpAnyH_done (by kernel_rfl) ?_ _
      skip
      go_wp2
      go_ret3
      have HI2 := HI.out
      refine ⟨_, _, _, rfl, ?_, ?_, ?_, HB7.out.trans (HB9.out.mono HB7.out.size)⟩
      · rw [HI2]; have h := H89.out; rw [List.length_drop] at h; exact h
      · rw [HI2]; have h := H9.out; rw [List.length_take] at h; exact h
      · rw [HI2]; exact .inl ⟨rfl, rfl⟩
  · obtain ⟨p1, rfl⟩ := hu.one hc
    have HI := hid2 (insP_bad (L := L) hc)
    have HU := hid2 hu
    clear hc hu
    go_wp2
    go_ret3
    refine ⟨_, _, _, rfl, ?_, ?_, ?_, HB1.out⟩
    · rw [HI.out]; exact EsAt.nil _
    · rw [HI.out]; exact EsAt.nil _
    · rw [HI.out]; exact HU.out
end Go.Proofs.YtgmghekgelmmcaaDoor
