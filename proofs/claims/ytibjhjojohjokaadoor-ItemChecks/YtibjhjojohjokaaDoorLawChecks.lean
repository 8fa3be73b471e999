/-
  The walk of the law ItemChecks.
-/
import Derived.Test.YtibjhjojohjokaaDoorLawBack
namespace Go.Proofs.YtibjhjojohjokaaDoor
open Go.RowKit

set_option maxHeartbeats 8000000 in
set_option maxRecDepth 10000 in
theorem checks_any {w : World} {x y : Ent} {p q : Option Addr} {cx cy : Nat} {now : Int} (hxv : Bs w (.slice p x.val.length cx) x.val) (hyv : Bs w (.slice q y.val.length cy) y.val) (hxb : Byt x.val) (hyb : Byt y.val) (hkx : x.key.size ≤ maxLen) (hky : y.key.size ≤ maxLen) (hE : ErrT w) :
    Calls Tryd.prog 3 #[.agg #[.string x.key, .int .i64 x.ver, .int .i64 x.asof, .int .i64 x.ends, .slice p x.val.length cx], .agg #[.string y.key, .int .i64 y.ver, .int .i64 y.asof, .int .i64 y.ends, .slice q y.val.length cy], .int .i64 now] w fun en w' => en = .returned (.bool true) ∧ Below w.heap.size w w' := by
  have hvx : x.val.length ≤ maxLen := by
    obtain ⟨_, _, _, h1, h2⟩ := hxv.form
    omega
  have s1 : (w.alloc (.cells #[.string x.key, .int .i64 x.ver, .int .i64 x.asof, .int .i64 x.ends, .slice p x.val.length cx] 24)).heap.size = w.heap.size + 1 := by simp
  have B2 : Below w.heap.size w ((w.alloc (.cells #[.string x.key, .int .i64 x.ver, .int .i64 x.asof, .int .i64 x.ends, .slice p x.val.length cx] 24)).alloc (.cells #[.string y.key, .int .i64 y.ver, .int .i64 y.asof, .int .i64 y.ends, .slice q y.val.length cy] 24)) := by go_grown
  have hx2 : ((w.alloc (.cells #[.string x.key, .int .i64 x.ver, .int .i64 x.asof, .int .i64 x.ends, .slice p x.val.length cx] 24)).alloc (.cells #[.string y.key, .int .i64 y.ver, .int .i64 y.asof, .int .i64 y.ends, .slice q y.val.length cy] 24)).heap[w.heap.size]? = some (.cells #[.string x.key, .int .i64 x.ver, .int .i64 x.asof, .int .i64 x.ends, .slice p x.val.length cx] 24 (0, 0)) := by rw [Below.heap_alloc _ _ _ (by rw [s1]; omega)]; exact heap_alloc_new w _
  have hy2 : ((w.alloc (.cells #[.string x.key, .int .i64 x.ver, .int .i64 x.asof, .int .i64 x.ends, .slice p x.val.length cx] 24)).alloc (.cells #[.string y.key, .int .i64 y.ver, .int .i64 y.asof, .int .i64 y.ends, .slice q y.val.length cy] 24)).heap[w.heap.size + 1]? = some (.cells #[.string y.key, .int .i64 y.ver, .int .i64 y.asof, .int .i64 y.ends, .slice q y.val.length cy] 24 (0, 0)) := by
    have := heap_alloc_new (w.alloc (.cells #[.string x.key, .int .i64 x.ver, .int .i64 x.asof, .int .i64 x.ends, .slice p x.val.length cx] 24)) (.cells #[.string y.key, .int .i64 y.ver, .int .i64 y.asof, .int .i64 y.ends, .slice q y.val.length cy] 24)
    rw [s1] at this
    exact this
  go_enter Tryd.func3, Tryd.ntmps3
  go_wp2_with fail
  obtain ⟨w2, hw2⟩ : ∃ w2, w2 = (w.alloc (.cells #[.string x.key, .int .i64 x.ver, .int .i64 x.asof, .int .i64 x.ends, .slice p x.val.length cx] 24)).alloc (.cells #[.string y.key, .int .i64 y.ver, .int .i64 y.asof, .int .i64 y.ends, .slice q y.val.length cy] 24) := ⟨_, rfl⟩
  rw [← hw2] at B2 hx2 hy2 ⊢
  have HXV := hid2 (hxv.stays B2)
  have HYV := hid2 (hyv.stays B2)
  have HE := hid2 (hE.below B2)
  have HB2 := hid2 B2
  have HX2 := hid2 hx2
  have HY2 := hid2 hy2
  have X3 : Below w2.heap.size w2 (w2.alloc (.cells #[.string x.key, .int .i64 x.ver, .int .i64 x.asof, .int .i64 x.ends, .slice p x.val.length cx, .string y.key, .int .i64 y.ver, .int .i64 y.asof, .int .i64 y.ends, .slice q y.val.length cy] 24)) := by go_grown
  have CL := light_any (ents_two HXV.out HYV.out) (by intro z hz; simp at hz; rcases hz with rfl | rfl; exact hkx; exact hky)
  have hsz2 : w2.heap.size = w.heap.size + 1 + 1 := by rw [hw2]; simp
  have HX3 := hid2 X3
  rw [hsz2] at CL
  clear hw2 hxv hyv hE B2 hx2 hy2 s1 X3 hsz2
  by_cases hlb : lightB [x, y] = true
  · rw [lightI_yes hlb] at CL
    have KL := hid2 CL
    obtain ⟨_, _, l3⟩ := lightB_ok hlb
    have hl5 : x.val.length ≤ 5000 := (l3 x (by simp)).2
    clear CL hlb l3
    refine (show Calls _ _ _ _ _ from KL).mono ?_
    rintro en w3 ⟨rfl, hw⟩
    cases hw
    obtain ⟨w3, hw3⟩ : ∃ w3, w3 = w2.alloc (.cells #[.string x.key, .int .i64 x.ver, .int .i64 x.asof, .int .i64 x.ends, .slice p x.val.length cx, .string y.key, .int .i64 y.ver, .int .i64 y.asof, .int .i64 y.ends, .slice q y.val.length cy] 24) := ⟨_, rfl⟩
    rw [← hw3] at HX3 ⊢
    have X3d : Below w2.heap.size w2 w3.drew := HX3.out.trans ((Below.refl w3.heap.size w3).drew.mono HX3.out.size)
    have HS4 := hid2 (show _ ∧ _ from ⟨heap_stays HX2.out X3d, heap_stays HY2.out X3d⟩)
    clear hw3 KL X3d HX2 HY2
    go_wp2_with fail
    refine wp_region_held_drew (S := fun W => W.heap[w.heap.size]? = some (.cells #[.string x.key, .int .i64 x.ver, .int .i64 x.asof, .int .i64 x.ends, .slice p x.val.length cx] 24 (0, 0)) ∧ W.heap[w.heap.size + 1]? = some (.cells #[.string y.key, .int .i64 y.ver, .int .i64 y.asof, .int .i64 y.ends, .slice q y.val.length cy] 24 (0, 0))) (by kernel_rfl) (HS4.out) (fun hS => ?_)
    change wpAnyH _ _ _ _ _ _ _ _ (World.drew _)
    have D4 : Below w2.heap.size w2 (World.drew w3) := HX3.out.trans ((Below.refl w3.heap.size w3).drew.mono HX3.out.size)
    refine wpAnyH_take (i := 0) (v := .agg #[.string x.key, .int .i64 x.ver, .int .i64 x.asof, .int .i64 x.ends, .slice p x.val.length cx]) rfl (by kernel_rfl) (by kernel_rfl) (by kernel_rfl) (fun _ _ _ h => h) (Or.inl ⟨by kernel_rfl, ?_⟩) hS ?_
    · intro w hw
      obtain ⟨s1, s2⟩ := hw
      obtain ⟨⟨e0, e1, e2, e3, e4⟩, _⟩ := five24 s1
      go_simp
    change wpAnyH _ _ _ _ _ _ _ (Act.put _ (some 13) _) _
    simp only [Act.put, List.setIfInBounds_toArray, List.set_cons_succ, List.set_cons_zero]
    refine wpAnyH_take (i := 3) (v := .agg #[.string x.key, .int .i64 x.ver, .int .i64 x.asof, .int .i64 x.ends, .slice p x.val.length cx]) rfl (by kernel_rfl) (by kernel_rfl) (by kernel_rfl) (fun _ _ _ h => h) (Or.inl ⟨by kernel_rfl, ?_⟩) hS ?_
    · intro w hw
      obtain ⟨s1, s2⟩ := hw
      obtain ⟨⟨e0, e1, e2, e3, e4⟩, _⟩ := five24 s1
      go_simp
    change wpAnyH _ _ _ _ _ _ _ (Act.put _ (some 16) _) _
    simp only [Act.put, List.setIfInBounds_toArray, List.set_cons_succ, List.set_cons_zero]
    refine wpAnyH_ready (rs := [1]) (by kernel_rfl) (by simp) ?_
    refine AllReadyH.cons rfl (fun K hK => ?_) AllReadyH.nil
    go_simp
    go_wp2_with (go_at_call 10; refine (check_any x.key x.ver x.asof x.ends p x.val.length cx _ hkx hvx).mono ?_; rintro en w5 ⟨u5, rfl, hu5, B5⟩)
    have D5 := D4.trans (B5.mono D4.size)
    refine hK.out _ _ (⟨heap_stays hS.1 B5, heap_stays hS.2 B5⟩) (fun hS => ?_)
    clear hK K
    skip
    refine wpAnyH_ready (rs := [2]) (by kernel_rfl) (by simp) ?_
    refine AllReadyH.cons rfl (fun K hK => ?_) AllReadyH.nil
    go_simp
    go_wp2_with (go_at_call 9; refine (of_code (HE.out.below D5) hu5.fault).mono ?_; rintro en w6 ⟨rfl, B6⟩)
    have D6 := D5.trans (B6.mono D5.size)
    refine hK.out _ _ (⟨heap_stays hS.1 B6, heap_stays hS.2 B6⟩) (fun hS => ?_)
    clear hK K
    skip
    refine wpAnyH_ready (rs := [4]) (by kernel_rfl) (by simp) ?_
    refine AllReadyH.cons rfl (fun K hK => ?_) AllReadyH.nil
    go_simp
    go_wp2_with (go_at_call 11; refine (rcheck_any x.key x.ver x.asof x.ends p x.val.length cx _ hkx hvx).mono ?_; rintro en w7 ⟨rfl, B7⟩)
    have D7 := D6.trans (B7.mono D6.size)
    refine hK.out _ _ (⟨heap_stays hS.1 B7, heap_stays hS.2 B7⟩) (fun hS => ?_)
    clear hK K
    skip
    refine wpAnyH_take (i := 5) (v := .bool true) rfl (by kernel_rfl) (by kernel_rfl) (by kernel_rfl) (fun _ _ _ h => h) (Or.inl ⟨by kernel_rfl, ?_⟩) hS ?_
    · intro w hw; clear hw; go_simp
    change wpAnyH _ _ _ _ _ _ _ (Act.put _ (some 18) _) _
    simp only [Act.put, List.setIfInBounds_toArray, List.set_cons_succ, List.set_cons_zero]
    refine wpAnyH_take (i := 6) (v := .bool true) rfl (by kernel_rfl) (by kernel_rfl) (by kernel_rfl) (fun _ _ _ h => h) (Or.inl ⟨by kernel_rfl, ?_⟩) hS ?_
    · intro w hw; clear hw; go_simp
    change wpAnyH _ _ _ _ _ _ _ (Act.put _ (some 19) _) _
    simp only [Act.put, List.setIfInBounds_toArray, List.set_cons_succ, List.set_cons_zero]
    refine wpAnyH_take (i := 7) (v := .agg #[.string x.key, .int .i64 x.ver, .int .i64 x.asof, .int .i64 x.ends, .slice p x.val.length cx]) rfl (by kernel_rfl) (by kernel_rfl) (by kernel_rfl) (fun _ _ _ h => h) (Or.inl ⟨by kernel_rfl, ?_⟩) hS ?_
    · intro w hw
      obtain ⟨s1, s2⟩ := hw
      obtain ⟨⟨e0, e1, e2, e3, e4⟩, _⟩ := five24 s1
      go_simp
    change wpAnyH _ _ _ _ _ _ _ (Act.put _ (some 20) _) _
    simp only [Act.put, List.setIfInBounds_toArray, List.set_cons_succ, List.set_cons_zero]
    refine wpAnyH_take (i := 8) (v := .agg #[.string y.key, .int .i64 y.ver, .int .i64 y.asof, .int .i64 y.ends, .slice q y.val.length cy]) rfl (by kernel_rfl) (by kernel_rfl) (by kernel_rfl) (fun _ _ _ h => h) (Or.inl ⟨by kernel_rfl, ?_⟩) hS ?_
    · intro w hw
      obtain ⟨s1, s2⟩ := hw
      obtain ⟨⟨e0, e1, e2, e3, e4⟩, _⟩ := five24 s2
      go_simp
    change wpAnyH _ _ _ _ _ _ _ (Act.put _ (some 21) _) _
    simp only [Act.put, List.setIfInBounds_toArray, List.set_cons_succ, List.set_cons_zero]
    refine wpAnyH_take (i := 10) (v := .agg #[.string x.key, .int .i64 x.ver, .int .i64 x.asof, .int .i64 x.ends, .slice p x.val.length cx]) rfl (by kernel_rfl) (by kernel_rfl) (by kernel_rfl) (fun _ _ _ h => h) (Or.inl ⟨by kernel_rfl, ?_⟩) hS ?_
    · intro w hw
      obtain ⟨s1, s2⟩ := hw
      obtain ⟨⟨e0, e1, e2, e3, e4⟩, _⟩ := five24 s1
      go_simp
    change wpAnyH _ _ _ _ _ _ _ (Act.put _ (some 23) _) _
    simp only [Act.put, List.setIfInBounds_toArray, List.set_cons_succ, List.set_cons_zero]
    refine wpAnyH_take (i := 11) (v := .agg #[.string y.key, .int .i64 y.ver, .int .i64 y.asof, .int .i64 y.ends, .slice q y.val.length cy]) rfl (by kernel_rfl) (by kernel_rfl) (by kernel_rfl) (fun _ _ _ h => h) (Or.inl ⟨by kernel_rfl, ?_⟩) hS ?_
    · intro w hw
      obtain ⟨s1, s2⟩ := hw
      obtain ⟨⟨e0, e1, e2, e3, e4⟩, _⟩ := five24 s2
      go_simp
    change wpAnyH _ _ _ _ _ _ _ (Act.put _ (some 24) _) _
    simp only [Act.put, List.setIfInBounds_toArray, List.set_cons_succ, List.set_cons_zero]
    refine wpAnyH_ready (rs := [9]) (by kernel_rfl) (by simp) ?_
    refine AllReadyH.cons rfl (fun K hK => ?_) AllReadyH.nil
    go_simp
    go_wp2_with (go_at_call 12; refine (same6_any x.key y.key x.ver x.asof x.ends y.ver y.asof y.ends (HXV.out.stays D7) (HYV.out.stays D7) hxb hyb).mono ?_; rintro en w8 ⟨rfl, B8⟩)
    have D8 := D7.trans (B8.mono D7.size)
    refine hK.out _ _ (⟨heap_stays hS.1 B8, heap_stays hS.2 B8⟩) (fun hS => ?_)
    clear hK K
    skip
    refine wpAnyH_ready (rs := [12]) (by kernel_rfl) (by simp) ?_
    refine AllReadyH.cons rfl (fun K hK => ?_) AllReadyH.nil
    go_simp
    go_wp2_with (go_at_call 13; refine (rsame6_any x.key y.key x.ver x.asof x.ends y.ver y.asof y.ends (HXV.out.stays D8) (HYV.out.stays D8)).mono ?_; rintro en w9 ⟨rfl, B9⟩)
    have D9 := D8.trans (B9.mono D8.size)
    refine hK.out _ _ (⟨heap_stays hS.1 B9, heap_stays hS.2 B9⟩) (fun hS => ?_)
    clear hK K
    skip
    refine wpAnyH_take (i := 13) (v := .bool true) rfl (by kernel_rfl) (by kernel_rfl) (by kernel_rfl) (fun _ _ _ h => h) (Or.inl ⟨by kernel_rfl, ?_⟩) hS ?_
    · intro w hw; clear hw; go_simp
    change wpAnyH _ _ _ _ _ _ _ (Act.put _ (some 26) _) _
    simp only [Act.put, List.setIfInBounds_toArray, List.set_cons_succ, List.set_cons_zero]
    refine wpAnyH_take (i := 14) (v := .bool true) rfl (by kernel_rfl) (by kernel_rfl) (by kernel_rfl) (fun _ _ _ h => h) (Or.inl ⟨by kernel_rfl, ?_⟩) hS ?_
    · intro w hw; clear hw; go_simp
    change wpAnyH _ _ _ _ _ _ _ (Act.put _ (some 27) _) _
    simp only [Act.put, List.setIfInBounds_toArray, List.set_cons_succ, List.set_cons_zero]
    refine wpAnyH_take (i := 15) (v := .bool true) rfl (by kernel_rfl) (by kernel_rfl) (by kernel_rfl) (fun _ _ _ h => h) (Or.inl ⟨by kernel_rfl, ?_⟩) hS ?_
    · intro w hw; clear hw; go_simp
    change wpAnyH _ _ _ _ _ _ _ (Act.put _ (some 28) _) _
    simp only [Act.put, List.setIfInBounds_toArray, List.set_cons_succ, List.set_cons_zero]
    refine wpAnyH_take (i := 16) (v := .agg #[.string x.key, .int .i64 x.ver, .int .i64 x.asof, .int .i64 x.ends, .slice p x.val.length cx]) rfl (by kernel_rfl) (by kernel_rfl) (by kernel_rfl) (fun _ _ _ h => h) (Or.inl ⟨by kernel_rfl, ?_⟩) hS ?_
    · intro w hw
      obtain ⟨s1, s2⟩ := hw
      obtain ⟨⟨e0, e1, e2, e3, e4⟩, _⟩ := five24 s1
      go_simp
    change wpAnyH _ _ _ _ _ _ _ (Act.put _ (some 29) _) _
    simp only [Act.put, List.setIfInBounds_toArray, List.set_cons_succ, List.set_cons_zero]
    refine wpAnyH_take (i := 17) (v := .int .i64 now) rfl (by kernel_rfl) (by kernel_rfl) (by kernel_rfl) (fun _ _ _ h => h) (Or.inl ⟨by kernel_rfl, ?_⟩) hS ?_
    · intro w hw; clear hw; go_simp
    change wpAnyH _ _ _ _ _ _ _ (Act.put _ (some 30) _) _
    simp only [Act.put, List.setIfInBounds_toArray, List.set_cons_succ, List.set_cons_zero]
    refine wpAnyH_take (i := 19) (v := .agg #[.string x.key, .int .i64 x.ver, .int .i64 x.asof, .int .i64 x.ends, .slice p x.val.length cx]) rfl (by kernel_rfl) (by kernel_rfl) (by kernel_rfl) (fun _ _ _ h => h) (Or.inl ⟨by kernel_rfl, ?_⟩) hS ?_
    · intro w hw
      obtain ⟨s1, s2⟩ := hw
      obtain ⟨⟨e0, e1, e2, e3, e4⟩, _⟩ := five24 s1
      go_simp
    change wpAnyH _ _ _ _ _ _ _ (Act.put _ (some 32) _) _
    simp only [Act.put, List.setIfInBounds_toArray, List.set_cons_succ, List.set_cons_zero]
    refine wpAnyH_take (i := 20) (v := .int .i64 now) rfl (by kernel_rfl) (by kernel_rfl) (by kernel_rfl) (fun _ _ _ h => h) (Or.inl ⟨by kernel_rfl, ?_⟩) hS ?_
    · intro w hw; clear hw; go_simp
    change wpAnyH _ _ _ _ _ _ _ (Act.put _ (some 33) _) _
    simp only [Act.put, List.setIfInBounds_toArray, List.set_cons_succ, List.set_cons_zero]
    refine wpAnyH_ready (rs := [18]) (by kernel_rfl) (by simp) ?_
    refine AllReadyH.cons rfl (fun K hK => ?_) AllReadyH.nil
    go_simp
    go_wp2_with (go_at_call 14; refine (live_any x.key x.ver x.asof x.ends now p x.val.length cx _).mono ?_; rintro en w10 ⟨rfl, B10⟩)
    have D10 := D9.trans (B10.mono D9.size)
    refine hK.out _ _ (⟨heap_stays hS.1 B10, heap_stays hS.2 B10⟩) (fun hS => ?_)
    clear hK K
    skip
    refine wpAnyH_ready (rs := [21]) (by kernel_rfl) (by simp) ?_
    refine AllReadyH.cons rfl (fun K hK => ?_) AllReadyH.nil
    go_simp
    go_wp2_with (go_at_call 15; refine (rlive_any x.key x.ver x.asof x.ends now p x.val.length cx _).mono ?_; rintro en w11 ⟨rfl, B11⟩)
    have D11 := D10.trans (B11.mono D10.size)
    refine hK.out _ _ (⟨heap_stays hS.1 B11, heap_stays hS.2 B11⟩) (fun hS => ?_)
    clear hK K
    skip
    refine wpAnyH_take (i := 22) (v := .bool true) rfl (by kernel_rfl) (by kernel_rfl) (by kernel_rfl) (fun _ _ _ h => h) (Or.inl ⟨by kernel_rfl, ?_⟩) hS ?_
    · intro w hw; clear hw; go_simp
    change wpAnyH _ _ _ _ _ _ _ (Act.put _ (some 35) _) _
    simp only [Act.put, List.setIfInBounds_toArray, List.set_cons_succ, List.set_cons_zero]
    refine wpAnyH_take (i := 23) (v := .bool true) rfl (by kernel_rfl) (by kernel_rfl) (by kernel_rfl) (fun _ _ _ h => h) (Or.inl ⟨by kernel_rfl, ?_⟩) hS ?_
    · intro w hw; clear hw; go_simp
    change wpAnyH _ _ _ _ _ _ _ (Act.put _ (some 36) _) _
    simp only [Act.put, List.setIfInBounds_toArray, List.set_cons_succ, List.set_cons_zero]
    refine wpAnyH_take (i := 24) (v := .bool true) rfl (by kernel_rfl) (by kernel_rfl) (by kernel_rfl) (fun _ _ _ h => h) (Or.inl ⟨by kernel_rfl, ?_⟩) hS ?_
    · intro w hw; clear hw; go_simp
    change wpAnyH _ _ _ _ _ _ _ (Act.put _ (some 37) _) _
    simp only [Act.put, List.setIfInBounds_toArray, List.set_cons_succ, List.set_cons_zero]
    refine wpAnyH_take (i := 25) (v := .agg #[.string x.key, .int .i64 x.ver, .int .i64 x.asof, .int .i64 x.ends, .slice p x.val.length cx]) rfl (by kernel_rfl) (by kernel_rfl) (by kernel_rfl) (fun _ _ _ h => h) (Or.inl ⟨by kernel_rfl, ?_⟩) hS ?_
    · intro w hw
      obtain ⟨s1, s2⟩ := hw
      obtain ⟨⟨e0, e1, e2, e3, e4⟩, _⟩ := five24 s1
      go_simp
    change wpAnyH _ _ _ _ _ _ _ (Act.put _ (some 38) _) _
    simp only [Act.put, List.setIfInBounds_toArray, List.set_cons_succ, List.set_cons_zero]
    refine wpAnyH_take (i := 27) (v := .agg #[.string x.key, .int .i64 x.ver, .int .i64 x.asof, .int .i64 x.ends, .slice p x.val.length cx]) rfl (by kernel_rfl) (by kernel_rfl) (by kernel_rfl) (fun _ _ _ h => h) (Or.inl ⟨by kernel_rfl, ?_⟩) hS ?_
    · intro w hw
      obtain ⟨s1, s2⟩ := hw
      obtain ⟨⟨e0, e1, e2, e3, e4⟩, _⟩ := five24 s1
      go_simp
    change wpAnyH _ _ _ _ _ _ _ (Act.put _ (some 40) _) _
    simp only [Act.put, List.setIfInBounds_toArray, List.set_cons_succ, List.set_cons_zero]
    refine wpAnyH_ready (rs := [26]) (by kernel_rfl) (by simp) ?_
    refine AllReadyH.cons rfl (fun K hK => ?_) AllReadyH.nil
    go_simp
    go_wp2_with (go_at_call 16; refine (copy_any x.key x.ver x.asof x.ends (HXV.out.stays D11) (by omega)).mono ?_; rintro en w12 ⟨pq, cq, rfl, hq, B12⟩)
    have D12 := D11.trans (B12.mono D11.size)
    refine hK.out _ _ (⟨heap_stays hS.1 B12, heap_stays hS.2 B12⟩) (fun hS => ?_)
    clear hK K
    skip
    refine wpAnyH_ready (rs := [28]) (by kernel_rfl) (by simp) ?_
    refine AllReadyH.cons rfl (fun K hK => ?_) AllReadyH.nil
    go_simp
    go_wp2_with (go_at_call 13; refine (rsame6_any x.key x.key x.ver x.asof x.ends x.ver x.asof x.ends hq (HXV.out.stays D12)).mono ?_; rintro en w13 ⟨rfl, B13⟩)
    rw [sameB_self]
    have D13 := D12.trans (B13.mono D12.size)
    refine hK.out _ _ (⟨heap_stays hS.1 B13, heap_stays hS.2 B13⟩) (fun hS => ?_)
    clear hK K
    skip
    refine wpAnyH_take (i := 29) (v := .bool true) rfl (by kernel_rfl) (by kernel_rfl) (by kernel_rfl) (fun _ _ _ h => h) (Or.inl ⟨by kernel_rfl, ?_⟩) hS ?_
    · intro w hw; clear hw; go_simp
    change wpAnyH _ _ _ _ _ _ _ (Act.put _ (some 42) _) _
    simp only [Act.put, List.setIfInBounds_toArray, List.set_cons_succ, List.set_cons_zero]
    refine wpAnyH_take (i := 30) (v := .bool true) rfl (by kernel_rfl) (by kernel_rfl) (by kernel_rfl) (fun _ _ _ h => h) (Or.inl ⟨by kernel_rfl, ?_⟩) hS ?_
    · intro w hw; clear hw; go_simp
    change wpAnyH _ _ _ _ _ _ _ (Act.put _ (some 43) _) _
    simp only [Act.put, List.setIfInBounds_toArray, List.set_cons_succ, List.set_cons_zero]
    refine wpAnyH_ready (rs := [31]) (by kernel_rfl) (by simp) ?_
    refine AllReadyH.cons rfl (fun K hK => ?_) AllReadyH.nil
    go_simp
    go_wp2_with (go_at_call 8; refine (works_any (HE.out.below D13)).mono ?_; rintro en w14 ⟨rfl, B14⟩)
    have D14 := D13.trans (B14.mono D13.size)
    refine hK.out _ _ (⟨heap_stays hS.1 B14, heap_stays hS.2 B14⟩) (fun hS => ?_)
    clear hK K
    skip
    refine wpAnyH_take (i := 32) (v := .bool true) rfl (by kernel_rfl) (by kernel_rfl) (by kernel_rfl) (fun _ _ _ h => h) (Or.inl ⟨by kernel_rfl, ?_⟩) hS ?_
    · intro w hw; clear hw; go_simp
    change wpAnyH _ _ _ _ _ _ _ (Act.put _ (some 45) _) _
    simp only [Act.put, List.setIfInBounds_toArray, List.set_cons_succ, List.set_cons_zero]
    refine wpAnyH_take (i := 33) (v := .bool true) rfl (by kernel_rfl) (by kernel_rfl) (by kernel_rfl) (fun _ _ _ h => h) (Or.inl ⟨by kernel_rfl, ?_⟩) hS ?_
    · intro w hw; clear hw; go_simp
    change wpAnyH _ _ _ _ _ _ _ (Act.put _ (some 6) _) _
    simp only [Act.put, List.setIfInBounds_toArray, List.set_cons_succ, List.set_cons_zero]
    refine wpAnyH_done (by kernel_rfl) ?_ _
    go_wp2
    go_ret
    exact ⟨rfl, HB2.out.trans (D14.mono HB2.out.size)⟩
  · have hlb' : lightB [x, y] = false := by simpa using hlb
    rw [lightI_no hlb'] at CL
    refine CL.mono ?_
    rintro en w3 ⟨rfl, hw⟩
    cases hw
    go_wp2_with fail
    refine (works_any (HE.out.below HX3.out)).mono ?_
    rintro en w4 ⟨rfl, B4⟩
    go_wp2
    go_ret
    exact ⟨rfl, HB2.out.trans ((HX3.out.trans (B4.mono HX3.out.size)).mono HB2.out.size)⟩
end Go.Proofs.YtibjhjojohjokaaDoor
