/-
  The walk of the law ItemFrom.
-/
import Derived.Test.YtibjhjojohjokaaDoorLawBack
namespace Go.Proofs.YtibjhjojohjokaaDoor
open Go.RowKit

set_option maxHeartbeats 8000000 in
set_option maxRecDepth 10000 in
theorem fromlaw_any {w : World} {x : Ent} {p : Option Addr} {cx : Nat} {bm : Nat} {q : Option Addr} {cap : Nat} {more : List Int} (hxv : Bs w (.slice p x.val.length cx) x.val) (hxb : Byt x.val) (hkm : x.key.size ≤ maxLen) (hm : SlAt w bm (.slice q more.length cap) (U more)) (hmb : Byt more) (hE : ErrT w) :
    Calls Tryd.prog 6 #[.agg #[.string x.key, .int .i64 x.ver, .int .i64 x.asof, .int .i64 x.ends, .slice p x.val.length cx], .slice q more.length cap] w fun en w' => en = .returned (.bool true) ∧ Below w.heap.size w w' := by
  have hmm : more.length ≤ 9223372036854775807 := by
    obtain ⟨_, _, e, h1, h2⟩ := hm.form
    unfold maxLen at h2
    rw [U_length] at h1
    omega
  have hvm : x.val.length ≤ maxLen := by
    obtain ⟨_, _, _, h1, h2⟩ := hxv.form
    omega
  have B0 : Below w.heap.size w (w.alloc (.cells #[.string x.key, .int .i64 x.ver, .int .i64 x.asof, .int .i64 x.ends, .slice p x.val.length cx] 24)) := by go_grown
  have hx0 := heap_alloc_new w (.cells #[.string x.key, .int .i64 x.ver, .int .i64 x.asof, .int .i64 x.ends, .slice p x.val.length cx] 24)
  have HB0 := hid2 B0
  have HM := hid2 hm
  have HX := hid2 hxv
  go_enter Tryd.func6, Tryd.ntmps6
  go_wp2_with fail
  obtain ⟨w0, hw0⟩ : ∃ w0, w0 = w.alloc (.cells #[.string x.key, .int .i64 x.ver, .int .i64 x.asof, .int .i64 x.ends, .slice p x.val.length cx] 24) := ⟨_, rfl⟩
  rw [← hw0] at HB0 hx0 ⊢
  have HX0 := hid2 hx0
  have HE := hid2 (hE.below HB0.out)
  have HXV := hid2 (HX.out.stays HB0.out)
  have X1 : Below w0.heap.size w0 (w0.alloc (.cells #[.string x.key, .int .i64 x.ver, .int .i64 x.asof, .int .i64 x.ends, .slice p x.val.length cx] 24)) := by go_grown
  have CL := light_any (ents_one HXV.out) (by intro y hy; simp at hy; subst hy; exact hkm)
  have hsz0 : w0.heap.size = w.heap.size + 1 := by rw [hw0]; simp
  rw [hsz0] at CL
  clear hw0 hx0 B0 hm hxv HX hE hsz0
  by_cases hlb : lightB [x] = true ∧ more.length ≤ 3000
  · obtain ⟨hlb, hm3⟩ := hlb
    rw [lightI_yes hlb] at CL
    have KL := hid2 CL
    have d3 : ¬ 3000 < (more.length : Int) := by omega
    have HX1 := hid2 X1
    clear CL X1 hlb
    refine (show Calls _ _ _ _ _ from KL).mono ?_
    rintro en w1 ⟨rfl, hw⟩
    cases hw
    obtain ⟨w1, hw1⟩ : ∃ w1, w1 = w0.alloc (.cells #[.string x.key, .int .i64 x.ver, .int .i64 x.asof, .int .i64 x.ends, .slice p x.val.length cx] 24) := ⟨_, rfl⟩
    rw [← hw1] at HX1 ⊢
    clear hw1 KL
    go_wp2_with fail
    refine (read_any (HM.out.stays (HB0.out.trans (HX1.out.mono HB0.out.size))) (by omega)).mono ?_
    rintro en w2 ⟨g, rfl, hg, hr2, B2⟩
    have D2 := HX1.out.trans (B2.mono HX1.out.size)
    have HG : Hid (w0.heap.size ≤ g) := Nat.le_trans HX1.out.size hg
    obtain ⟨y, a1, c, hF⟩ : ∃ y a1 c, frm more 0 0 = (y, a1, c) := ⟨_, _, _, rfl⟩
    have CF := rfrom_any (code := 0) (a := 0) (HM.out.stays (HB0.out.trans (D2.mono HB0.out.size))) hmb (Nat.zero_le _) (by omega)
    have CG := fun W (hr : Rd W g more 0 0) (hE : ErrT W) => from_mid hr hmb (by omega) hE
    rw [hF] at CF CG
    have KF := hid2 CF
    have KG := hid2 CG
    clear CF CG hF B2 HX1
    go_wp2_with fail
    refine (show Calls _ _ _ _ _ from KF).mono ?_
    rintro en w3 ⟨p3, c3, rfl, hv3, B3⟩
    have D3 := D2.trans (B3.mono D2.size)
    have hr3 := hr2.keeps B3
    have ha52 : ((w3.alloc (.cells #[.slice none 0 0, .int .i64 0, .int .i64 0] 52)).alloc (.cells #[.string ⟨#[]⟩, .int .i64 0, .int .i64 0, .int .i64 0, .slice none 0 0] 24)).heap[w3.heap.size]? = some (.cells #[.slice none 0 0, .int .i64 0, .int .i64 0] 52 (0, 0)) := by rw [Below.heap_alloc _ _ _ (by simp)]; exact heap_alloc_new w3 _
    have ha24 : ((w3.alloc (.cells #[.slice none 0 0, .int .i64 0, .int .i64 0] 52)).alloc (.cells #[.string ⟨#[]⟩, .int .i64 0, .int .i64 0, .int .i64 0, .slice none 0 0] 24)).heap[w3.heap.size + 1]? = some (.cells #[.string ⟨#[]⟩, .int .i64 0, .int .i64 0, .int .i64 0, .slice none 0 0] 24 (0, 0)) := by
      have := heap_alloc_new (w3.alloc (.cells #[.slice none 0 0, .int .i64 0, .int .i64 0] 52)) (.cells #[.string ⟨#[]⟩, .int .i64 0, .int .i64 0, .int .i64 0, .slice none 0 0] 24)
      rw [show (w3.alloc (.cells #[.slice none 0 0, .int .i64 0, .int .i64 0] 52)).heap.size = w3.heap.size + 1 by simp] at this
      exact this
    clear KF hr2 B3
    go_wp2_with (first
      | (refine st52 rfl (.tmp 6) (.tmp 29) rfl w3.heap.size rfl _ _ _ _ ha52 rfl rfl ⟨rfl, rfl, rfl⟩ ?_; intro w4 z4 y4; have ha24' := heap_grownBy ha24 y4 (by omega))
      | (refine st24 rfl (.tmp 7) (.tmp 30) rfl (w3.heap.size + 1) rfl _ _ _ _ _ _ ha24' rfl rfl ⟨rfl, rfl, rfl, rfl, rfl⟩ ?_; intro w5 z5 y5))
    have X5 := made2_below y4 y5
    have z45 := heap_grownBy z4 y5 (by omega)
    have D5 := D3.trans (X5.mono D3.size)
    have hr5 := hr3.keeps X5
    have hv5 := hv3.bs.stays X5
    obtain ⟨eb, heb⟩ : ∃ eb, eb = w3.heap.size := ⟨_, rfl⟩
    rw [← heb] at z5 z45 ⊢
    have HEG : Hid (g < eb) := by show g < eb; rw [heb]; exact hr3.lt4
    clear ha52 ha24 ha24' y4 y5 z4 X5 hr3 hv3 heb
    refine (show Calls _ _ _ _ _ from KG.out _ hr5 (HE.out.below D5)).mono ?_
    rintro en w6 ⟨p6, c6, rfl, hv6, hr6, hg6⟩
    have D6 := D5.grown hg6 D5.size (fun k hk => by cases hk; exact HG.out)
    have hv56 := BK.grown hg6 hr5.nob _ _ hv5
    have z56 := heap_grownBy z5 hg6 (by have := HEG.out; omega)
    have z46 := heap_grownBy z45 hg6 (by have := HEG.out; omega)
    clear KG hr5 hg6 hv5 z5 z45
    go_wp2_with (refine st24 rfl (.tmp 8) (.tmp 32) rfl w6.heap.size rfl _ _ _ _ _ _ (heap_alloc_new w6 _) rfl rfl ⟨rfl, rfl, rfl, rfl, rfl⟩ ?_; intro w6b z7 y7)
    have X7 := made_below y7
    have X7d : Below w6.heap.size w6 w6b.drew := X7.trans ((Below.refl _ _).drew)
    obtain ⟨fb, hfb⟩ : ∃ fb, fb = w6.heap.size := ⟨_, rfl⟩
    rw [← hfb] at z7 ⊢
    have HS7 := hid2 (show _ ∧ _ ∧ _ from ⟨(show w6b.drew.heap[fb]? = _ from z7), heap_stays z56 X7d, heap_stays z46 X7d⟩)
    have HV7 := hid2 (hv6.bs.stays X7d)
    have HV3 := hid2 (hv56.stays X7d)
    have HR7 := hid2 (hr6.keeps X7d)
    have D7 := D6.trans (X7d.mono D6.size)
    clear z7 y7 z56 z46 X7 X7d hv6 hv56 hr6 hfb
    refine wp_region_held_drew (S := fun W => W.heap[fb]? = some (.cells #[.string y.key, .int .i64 y.ver, .int .i64 y.asof, .int .i64 y.ends, .slice p6 y.val.length c6] 24 (0, 0)) ∧ W.heap[eb + 1]? = some (.cells #[.string y.key, .int .i64 y.ver, .int .i64 y.asof, .int .i64 y.ends, .slice p3 y.val.length c3] 24 (0, 0)) ∧ W.heap[eb]? = some (.cells #[.slice q more.length cap, .int .i64 (a1 : Nat), .int .i64 c] 52 (0, 0))) (by kernel_rfl) (HS7.out) (fun hS => ?_)
    change wpAnyH _ _ _ _ _ _ _ _ (World.drew _)
    refine wpAnyH_take (i := 0) (v := .agg #[.string y.key, .int .i64 y.ver, .int .i64 y.asof, .int .i64 y.ends, .slice p6 y.val.length c6]) rfl (by kernel_rfl) (by kernel_rfl) (by kernel_rfl) (fun _ _ _ h => h) (Or.inl ⟨by kernel_rfl, ?_⟩) hS ?_
    · intro w hw
      obtain ⟨s1, s2, s3⟩ := hw
      obtain ⟨⟨e0, e1, e2, e3, e4⟩, _⟩ := five24 s1
      go_simp
    change wpAnyH _ _ _ _ _ _ _ (Act.put _ (some 33) _) _
    simp only [Act.put, List.setIfInBounds_toArray, List.set_cons_succ, List.set_cons_zero]
    refine wpAnyH_take (i := 1) (v := .agg #[.string y.key, .int .i64 y.ver, .int .i64 y.asof, .int .i64 y.ends, .slice p3 y.val.length c3]) rfl (by kernel_rfl) (by kernel_rfl) (by kernel_rfl) (fun _ _ _ h => h) (Or.inl ⟨by kernel_rfl, ?_⟩) hS ?_
    · intro w hw
      obtain ⟨s1, s2, s3⟩ := hw
      obtain ⟨⟨e0, e1, e2, e3, e4⟩, _⟩ := five24 s2
      go_simp
    change wpAnyH _ _ _ _ _ _ _ (Act.put _ (some 34) _) _
    simp only [Act.put, List.setIfInBounds_toArray, List.set_cons_succ, List.set_cons_zero]
    refine wpAnyH_ready (rs := [2]) (by kernel_rfl) (by simp) ?_
    refine AllReadyH.cons rfl (fun K hK => ?_) AllReadyH.nil
    go_simp
    go_wp2_with (go_at_call 13; refine (rsame6_any y.key y.key y.ver y.asof y.ends y.ver y.asof y.ends HV7.out HV3.out).mono ?_; rintro en w8 ⟨rfl, B8⟩)
    rw [sameB_self]
    have r8 := HR7.out.keeps B8
    refine hK.out _ _ (⟨heap_stays hS.1 B8, heap_stays hS.2.1 B8, heap_stays hS.2.2 B8⟩) (fun hS => ?_)
    clear hK K
    skip
    refine wpAnyH_take (i := 3) (v := .bool false) rfl (by kernel_rfl) (by kernel_rfl) (by kernel_rfl) (fun _ _ _ h => h) (Or.inl ⟨by kernel_rfl, ?_⟩) hS ?_
    · intro w hw; clear hw; go_simp
    change wpAnyH _ _ _ _ _ _ _ (Act.put _ (some 36) _) _
    simp only [Act.put, List.setIfInBounds_toArray, List.set_cons_succ, List.set_cons_zero]
    refine wpAnyH_take (i := 4) (v := .bool false) rfl (by kernel_rfl) (by kernel_rfl) (by kernel_rfl) (fun _ _ _ h => h) (Or.inl ⟨by kernel_rfl, ?_⟩) hS ?_
    · intro w hw; clear hw; go_simp
    change wpAnyH _ _ _ _ _ _ _ (Act.put _ (some 37) _) _
    simp only [Act.put, List.setIfInBounds_toArray, List.set_cons_succ, List.set_cons_zero]
    refine wpAnyH_take (i := 5) (v := .pointer (some ⟨g, 0, none⟩)) rfl (by kernel_rfl) (by kernel_rfl) (by kernel_rfl) (fun _ _ _ h => h) (Or.inl ⟨by kernel_rfl, ?_⟩) hS ?_
    · intro w hw; clear hw; go_simp
    change wpAnyH _ _ _ _ _ _ _ (Act.put _ (some 38) _) _
    simp only [Act.put, List.setIfInBounds_toArray, List.set_cons_succ, List.set_cons_zero]
    refine wpAnyH_take (i := 7) (v := .pointer (some ⟨eb, 2, none⟩)) rfl (by kernel_rfl) (by kernel_rfl) (by kernel_rfl) (fun _ _ _ h => h) (Or.inl ⟨by kernel_rfl, ?_⟩) hS ?_
    · intro w hw; clear hw; go_simp
    change wpAnyH _ _ _ _ _ _ _ (Act.put _ (some 40) _) _
    simp only [Act.put, List.setIfInBounds_toArray, List.set_cons_succ, List.set_cons_zero]
    refine wpAnyH_take (i := 8) (v := .int .i64 c) rfl (by kernel_rfl) (by kernel_rfl) (by kernel_rfl) (fun _ _ _ h => h) (Or.inl ⟨by kernel_rfl, ?_⟩) hS ?_
    · intro w hw
      obtain ⟨s1, s2, s3⟩ := hw
      obtain ⟨⟨e0, e1, e2⟩, _⟩ := three52 s3
      go_simp
    change wpAnyH _ _ _ _ _ _ _ (Act.put _ (some 41) _) _
    simp only [Act.put, List.setIfInBounds_toArray, List.set_cons_succ, List.set_cons_zero]
    refine wpAnyH_ready (rs := [6]) (by kernel_rfl) (by simp) ?_
    refine AllReadyH.cons rfl (fun K hK => ?_) AllReadyH.nil
    go_simp
    go_wp2_with (go_at_call 30; refine (code_any r8).mono ?_; rintro en w9 ⟨rfl, hw9⟩; cases hw9)
    refine hK.out _ _ (hS) (fun hS => ?_)
    clear hK K
    skip
    refine wpAnyH_take (i := 9) (v := .bool false) rfl (by kernel_rfl) (by kernel_rfl) (by kernel_rfl) (fun _ _ _ h => h) (Or.inl ⟨by kernel_rfl, ?_⟩) hS ?_
    · intro w hw; clear hw; go_simp
    change wpAnyH _ _ _ _ _ _ _ (Act.put _ (some 42) _) _
    simp only [Act.put, List.setIfInBounds_toArray, List.set_cons_succ, List.set_cons_zero]
    refine wpAnyH_take (i := 10) (v := .bool false) rfl (by kernel_rfl) (by kernel_rfl) (by kernel_rfl) (fun _ _ _ h => h) (Or.inl ⟨by kernel_rfl, ?_⟩) hS ?_
    · intro w hw; clear hw; go_simp
    change wpAnyH _ _ _ _ _ _ _ (Act.put _ (some 43) _) _
    simp only [Act.put, List.setIfInBounds_toArray, List.set_cons_succ, List.set_cons_zero]
    refine wpAnyH_take (i := 11) (v := .bool false) rfl (by kernel_rfl) (by kernel_rfl) (by kernel_rfl) (fun _ _ _ h => h) (Or.inl ⟨by kernel_rfl, ?_⟩) hS ?_
    · intro w hw; clear hw; go_simp
    change wpAnyH _ _ _ _ _ _ _ (Act.put _ (some 44) _) _
    simp only [Act.put, List.setIfInBounds_toArray, List.set_cons_succ, List.set_cons_zero]
    refine wpAnyH_take (i := 12) (v := .pointer (some ⟨g, 0, none⟩)) rfl (by kernel_rfl) (by kernel_rfl) (by kernel_rfl) (fun _ _ _ h => h) (Or.inl ⟨by kernel_rfl, ?_⟩) hS ?_
    · intro w hw; clear hw; go_simp
    change wpAnyH _ _ _ _ _ _ _ (Act.put _ (some 45) _) _
    simp only [Act.put, List.setIfInBounds_toArray, List.set_cons_succ, List.set_cons_zero]
    refine wpAnyH_take (i := 14) (v := .pointer (some ⟨eb, 1, none⟩)) rfl (by kernel_rfl) (by kernel_rfl) (by kernel_rfl) (fun _ _ _ h => h) (Or.inl ⟨by kernel_rfl, ?_⟩) hS ?_
    · intro w hw; clear hw; go_simp
    change wpAnyH _ _ _ _ _ _ _ (Act.put _ (some 47) _) _
    simp only [Act.put, List.setIfInBounds_toArray, List.set_cons_succ, List.set_cons_zero]
    refine wpAnyH_take (i := 15) (v := .int .i64 (a1 : Int)) rfl (by kernel_rfl) (by kernel_rfl) (by kernel_rfl) (fun _ _ _ h => h) (Or.inl ⟨by kernel_rfl, ?_⟩) hS ?_
    · intro w hw
      obtain ⟨s1, s2, s3⟩ := hw
      obtain ⟨⟨e0, e1, e2⟩, _⟩ := three52 s3
      go_simp
    change wpAnyH _ _ _ _ _ _ _ (Act.put _ (some 48) _) _
    simp only [Act.put, List.setIfInBounds_toArray, List.set_cons_succ, List.set_cons_zero]
    refine wpAnyH_ready (rs := [13]) (by kernel_rfl) (by simp) ?_
    refine AllReadyH.cons rfl (fun K hK => ?_) AllReadyH.nil
    go_simp
    go_wp2_with (go_at_call 31; refine (at_any r8).mono ?_; rintro en w9 ⟨rfl, hw9⟩; cases hw9)
    refine hK.out _ _ (hS) (fun hS => ?_)
    clear hK K
    skip
    refine wpAnyH_take (i := 16) (v := .bool false) rfl (by kernel_rfl) (by kernel_rfl) (by kernel_rfl) (fun _ _ _ h => h) (Or.inl ⟨by kernel_rfl, ?_⟩) hS ?_
    · intro w hw; clear hw; go_simp
    change wpAnyH _ _ _ _ _ _ _ (Act.put _ (some 49) _) _
    simp only [Act.put, List.setIfInBounds_toArray, List.set_cons_succ, List.set_cons_zero]
    refine wpAnyH_take (i := 17) (v := .bool false) rfl (by kernel_rfl) (by kernel_rfl) (by kernel_rfl) (fun _ _ _ h => h) (Or.inl ⟨by kernel_rfl, ?_⟩) hS ?_
    · intro w hw; clear hw; go_simp
    change wpAnyH _ _ _ _ _ _ _ (Act.put _ (some 50) _) _
    simp only [Act.put, List.setIfInBounds_toArray, List.set_cons_succ, List.set_cons_zero]
    refine wpAnyH_done (by kernel_rfl) ?_ _
    have D8 := D7.trans (B8.mono D7.size)
    have hx8 := heap_stays HX0.out D8
    obtain ⟨⟨q0, q1, q2, q3, q4⟩, _⟩ := five24 hx8
    have hlt8 := lt_of_block hx8
    clear hS
    go_wp2_with fail
    refine (rcheck_any x.key x.ver x.asof x.ends p x.val.length cx _ hkm hvm).mono ?_
    rintro en w9 ⟨rfl, B9⟩
    have D9 := D8.trans (B9.mono D8.size)
    have HCX : Hid (checkE x = chk x.key x.ver x.asof x.ends x.val.length) := rfl
    generalize chk x.key x.ver x.asof x.ends x.val.length = cd at *
    clear q0 q1 q2 q3 q4 hlt8
    by_cases hcd : cd = 0
    · subst hcd
      have hx9 := heap_stays HX0.out D9
      obtain ⟨⟨q0, q1, q2, q3, q4⟩, _⟩ := five24 hx9
      have hlt9 := lt_of_block hx9
      obtain ⟨f1, f2, f3, f4, f5⟩ := fine_of HCX.out
      have hrl := fine_size (fine_of HCX.out)
      rw [← rowB_length, rowB_rowP] at hrl
      go_wp2_with fail
      refine (putE_any (bs := []) x.key x.ver x.asof x.ends f1 f2 f3 f4 f5 (by simp) (SlAt.nil _ 0) (HXV.out.stays D9)).mono ?_
      rintro en w10 ⟨sv10, rfl, hown10, B10⟩
      rw [List.nil_append] at hown10
      have D10 := D9.trans (B10.mono D9.size)
      have hm10 := HM.out.stays (HB0.out.trans (D10.mono HB0.out.size))
      have HSZ : Hid (w9.heap.size ≤ w10.heap.size) := B10.size
      have HF := hid2 (frm_put [] more x HCX.out)
      have HRB : Hid (Byt (rowB x ++ more)) := (rowB_byt hxb).append hmb
      obtain ⟨ps, cs, hfs⟩ := own_len hown10
      subst hfs
      clear q0 q1 q2 q3 q4 hlt9 hx9
      go_wp2_with (at_builtin; refine wpList_append_sl _ rfl _ _ rfl w9.heap.size _ _ _ rfl hown10 bm _ more rfl hm10 (by omega) HSZ.out ?_; intro v11 w11 hown11 hgrow11)
      have D11 : Below w0.heap.size w0 w11 := D10.grown hgrow11 D10.size (fun k hk => Nat.le_trans D9.size (hown10.lt k hk).1)
      rw [← U_append, ← rowB_rowP] at hown11
      obtain ⟨b11, _, hs11⟩ := own_sl hown11
      have hlen11 : (rowB x ++ more).length ≤ 20000 := by rw [List.length_append, rowB_rowP]; omega
      obtain ⟨p11, n11, c11, hf11⟩ := hs11.some3
      subst hf11
      clear hown10 hgrow11 hown11 hm10
      refine (read_any hs11 (by omega)).mono ?_
      rintro en w12 ⟨g2, rfl, hg2, hr12, B12⟩
      have D12 := D11.trans (B12.mono D11.size)
      have CF := from_mid hr12 HRB.out (by omega) (HE.out.below D12)
      have e0 : frm (rowB x ++ more) 0 0 = (x, (rowB x).length, 0) := by simpa using HF.out
      rw [e0] at CF
      have KF := hid2 CF
      have HG2 : Hid (w0.heap.size ≤ g2) := Nat.le_trans D11.size hg2
      clear CF e0 HF hs11 hr12
      go_wp2_with fail
      refine (show Calls _ _ _ _ _ from KF).mono ?_
      rintro en w13 ⟨p13, c13, rfl, hv13, hr13, hg13⟩
      have D13 := D12.grown hg13 D12.size (fun k hk => by cases hk; exact HG2.out)
      clear KF
      go_wp2_with (refine st24 rfl (.tmp 10) (.tmp 63) rfl w13.heap.size rfl _ _ _ _ _ _ (heap_alloc_new w13 _) rfl rfl ⟨rfl, rfl, rfl, rfl, rfl⟩ ?_; intro w14 z14 y14; have X14 := made_below y14; have D14 := D13.trans (X14.mono D13.size); have hx14 := heap_stays HX0.out D14; obtain ⟨⟨q0, q1, q2, q3, q4⟩, _⟩ := five24 z14; obtain ⟨⟨p0, p1, p2, p3, p4⟩, _⟩ := five24 hx14; have hlta := lt_of_block z14; have hltb := lt_of_block hx14)
      refine (rsame6_any x.key x.key x.ver x.asof x.ends x.ver x.asof x.ends (hv13.bs.stays X14) (HXV.out.stays D14)).mono ?_
      rintro en w15 ⟨rfl, B15⟩
      rw [sameB_self]
      have r15 := (hr13.keeps X14).keeps B15
      have D15 := D14.trans (B15.mono D14.size)
      clear q0 q1 q2 q3 q4 p0 p1 p2 p3 p4 hlta hltb hv13 hr13
      go_wp2_with fail
      refine (code_any r15).mono ?_
      rintro en w16 ⟨rfl, hw16⟩
      cases hw16
      have hle : ((rowB x ++ more).length : Int) - ((rowB x).length : Nat) = (more.length : Int) := by rw [List.length_append]; omega
      go_wp2_with fail
      refine (left_any r15).mono ?_
      rintro en w16 ⟨rfl, n16, rfl⟩
      rw [hle]
      have D16 := D15.trans ((below_drewN w15 n16 w15.heap.size).mono D15.size)
      clear hle
      go_wp2_with fail
      refine (works_any (HE.out.below D16)).mono ?_
      rintro en w17 ⟨rfl, B17⟩
      go_wp2
      go_ret
      have D17 := D16.trans (B17.mono D16.size)
      exact ⟨rfl, HB0.out.trans (D17.mono HB0.out.size)⟩
    · have hd : (cd != 0) = true := by simpa using hcd
      clear hcd
      go_wp2_with fail
      refine (works_any (HE.out.below D9)).mono ?_
      rintro en w10 ⟨rfl, B10⟩
      go_wp2
      go_ret
      have D10 := D9.trans (B10.mono D9.size)
      exact ⟨rfl, HB0.out.trans (D10.mono HB0.out.size)⟩
  · have HX1 := hid2 X1
    have KW := hid2 (works_any (HE.out.below X1))
    have hcase : (lightB [x] = false) ∨ (lightB [x] = true ∧ 3000 < more.length) := by
      cases hh : lightB [x]
      · exact .inl rfl
      · exact .inr ⟨rfl, by rw [hh] at hlb; simp at hlb; omega⟩
    clear hlb X1
    rcases hcase with hlb | ⟨hlb, hm3⟩
    · rw [lightI_no hlb] at CL
      refine CL.mono ?_
      rintro en w1 ⟨rfl, hw⟩
      cases hw
      go_wp2_with fail
      refine (show Calls _ _ _ _ _ from KW).mono ?_
      rintro en w10 ⟨rfl, B10⟩
      go_wp2
      go_ret
      exact ⟨rfl, HB0.out.trans ((HX1.out.trans (B10.mono HX1.out.size)).mono HB0.out.size)⟩
    · have d3 : 3000 < (more.length : Int) := by omega
      rw [lightI_yes hlb] at CL
      refine CL.mono ?_
      rintro en w1 ⟨rfl, hw⟩
      cases hw
      clear hlb
      go_wp2_with fail
      refine (show Calls _ _ _ _ _ from KW).mono ?_
      rintro en w10 ⟨rfl, B10⟩
      go_wp2
      go_ret
      exact ⟨rfl, HB0.out.trans ((HX1.out.trans (B10.mono HX1.out.size)).mono HB0.out.size)⟩
end Go.Proofs.YtibjhjojohjokaaDoor
