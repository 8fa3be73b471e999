/-
  The page of anything that it is to hold: the walk of that sentence.
-/
import Derived.Test.YtcdcdlofgeoonaaDoorApp
namespace Go.Proofs.YtcdcdlofgeoonaaDoor
open Go.RowKit Go.Extern.Stop Go.Stop Go.Extern

/-- What Put answers. -/
def putP (s k : Int) (l : List Nat) : List Nat × Int := if checkC s k l.length = 0 then (page s.toNat k.toNat l, 0) else ([], checkC s k l.length)
theorem put_any {w : World} {b : Nat} {p : Option Addr} {cap : Nat} {s k : Int} {l : List Nat} (h : SlAt w b (.slice p l.length cap) (U l)) (hby : Byt l) (hl : l.length ≤ 600) :
    Calls Tryd.prog 9 #[.agg #[.int .i64 s, .int .i64 k, .slice p l.length cap]] w fun e w' => ∃ b' p' cap' u, e = .returned (.tuple #[.slice p' (putP s k l).1.length cap', u]) ∧ SlAt w' b' (.slice p' (putP s k l).1.length cap') (U (putP s k l).1) ∧ Fault w' u (putP s k l).2 ∧ Below w.heap.size w w' := by
  unfold putP
  by_cases hc : checkC s k l.length = 0
  · rw [if_pos hc]
    have a := check_zero hc
    obtain ⟨s, rfl⟩ := Int.eq_ofNat_of_zero_le (show 0 ≤ s by omega)
    obtain ⟨k, rfl⟩ := Int.eq_ofNat_of_zero_le (show 0 ≤ k by omega)
    refine (put_good (s := s) (k := k) h hby (by omega) (by omega) (by omega) (by omega) (by omega)).mono ?_
    rintro e w' ⟨b', off, cap', he, hp, _, hb⟩
    rw [Int.toNat_natCast, Int.toNat_natCast]
    dsimp only
    rw [hp.len]
    exact ⟨b', _, cap', _, he, hp.sl, Fault.nil _, hb⟩
  · rw [if_neg hc]
    refine (put_bad w (by omega) hc).mono ?_
    rintro e w' ⟨u, he, hu, hb⟩
    exact ⟨0, none, 0, u, he, SlAt.nil _ _, hu, hb⟩
theorem rput_any {w : World} {b : Nat} {p : Option Addr} {cap : Nat} {s k : Int} {l : List Nat} (h : SlAt w b (.slice p l.length cap) (U l)) (hby : Byt l) :
    Calls Tryd.prog 10 #[.agg #[.int .i64 s, .int .i64 k, .slice p l.length cap]] w fun e w' => ∃ b' p' cap', e = .returned (.tuple #[.slice p' (putP s k l).1.length cap', .int .i64 (putP s k l).2]) ∧ SlAt w' b' (.slice p' (putP s k l).1.length cap') (U (putP s k l).1) ∧ Below w.heap.size w w' := by
  unfold putP
  by_cases hc : checkC s k l.length = 0
  · rw [if_pos hc]
    have a := check_zero hc
    obtain ⟨s, rfl⟩ := Int.eq_ofNat_of_zero_le (show 0 ≤ s by omega)
    obtain ⟨k, rfl⟩ := Int.eq_ofNat_of_zero_le (show 0 ≤ k by omega)
    refine (rput_good (s := s) (k := k) h hby (by omega) (by omega) (by omega) (by omega) (by omega)).mono ?_
    rintro e w' ⟨b', off, cap', he, hp, hb⟩
    rw [Int.toNat_natCast, Int.toNat_natCast]
    dsimp only
    rw [hp.len]
    exact ⟨b', _, cap', he, hp.sl, hb⟩
  · rw [if_neg hc]
    refine (rput_bad w hc).mono ?_
    rintro e w' ⟨he, hb⟩
    exact ⟨0, none, 0, he, SlAt.nil _ _, hb⟩

set_option maxHeartbeats 4000000 in
set_option maxRecDepth 10000 in
theorem puts_out {w : World} {p p' : Option Addr} {cap cap' n n' : Nat} {s k s' k' : Int} (hE : ErrT w) (hout : 600 < n ∨ 600 < n') :
    Calls Tryd.prog 3 #[.agg #[.int .i64 s, .int .i64 k, .slice p n cap], .agg #[.int .i64 s', .int .i64 k', .slice p' n' cap']] w fun e w' => e = .returned (.bool true) ∧ Below w.heap.size w w' := by
  have HE := hid2 hE
  have hb0 : Below w.heap.size w ((w.alloc (.cells #[.int .i64 s, .int .i64 k, .slice p n cap] 24)).alloc (.cells #[.int .i64 s', .int .i64 k', .slice p' n' cap'] 24)) := by go_grown
  have HB0 := hid2 hb0
  clear hE hb0
  by_cases h1 : 600 < n
  · have h1' : 600 < (n : Int) := by omega
    clear hout h1
    go_enter Tryd.func3, Tryd.ntmps3
    go_wp2_with fail
    refine (works_any _ (HE.out.below HB0.out)).mono ?_
    rintro e wz ⟨rfl, hbz⟩
    go_wp2
    go_ret
    exact ⟨rfl, HB0.out.trans (hbz.mono HB0.out.size)⟩
  · have h1' : ¬ 600 < (n : Int) := by omega
    have h2' : 600 < (n' : Int) := by omega
    clear hout h1
    go_enter Tryd.func3, Tryd.ntmps3
    go_wp2_with fail
    refine (works_any _ (HE.out.below HB0.out)).mono ?_
    rintro e wz ⟨rfl, hbz⟩
    go_wp2
    go_ret
    exact ⟨rfl, HB0.out.trans (hbz.mono HB0.out.size)⟩

set_option maxHeartbeats 8000000 in
set_option maxRecDepth 10000 in
theorem puts_good {w : World} {b b' : Nat} {p p' : Option Addr} {cap cap' : Nat} {s k s' k' : Int} {l l' : List Nat} (h : SlAt w b (.slice p l.length cap) (U l)) (h' : SlAt w b' (.slice p' l'.length cap') (U l')) (hby : Byt l) (hby' : Byt l') (hE : ErrT w) (hl : l.length ≤ 600) (hl' : l'.length ≤ 600) :
    Calls Tryd.prog 3 #[.agg #[.int .i64 s, .int .i64 k, .slice p l.length cap], .agg #[.int .i64 s', .int .i64 k', .slice p' l'.length cap']] w fun e w' => e = .returned (.bool true) ∧ Below w.heap.size w w' := by
  have HE := hid2 hE
  have hb0 : Below w.heap.size w ((w.alloc (.cells #[.int .i64 s, .int .i64 k, .slice p l.length cap] 24)).alloc (.cells #[.int .i64 s', .int .i64 k', .slice p' l'.length cap'] 24)) := by go_grown
  have hx0 : ((w.alloc (.cells #[.int .i64 s, .int .i64 k, .slice p l.length cap] 24)).alloc (.cells #[.int .i64 s', .int .i64 k', .slice p' l'.length cap'] 24)).heap[w.heap.size]? = some (.cells #[.int .i64 s, .int .i64 k, .slice p l.length cap] 24 (0, 0)) := by rw [Below.heap_alloc _ _ _ (by simp)]; exact heap_alloc_new w _
  have hy0 : ((w.alloc (.cells #[.int .i64 s, .int .i64 k, .slice p l.length cap] 24)).alloc (.cells #[.int .i64 s', .int .i64 k', .slice p' l'.length cap'] 24)).heap[w.heap.size + 1]? = some (.cells #[.int .i64 s', .int .i64 k', .slice p' l'.length cap'] 24 (0, 0)) := by have := heap_alloc_new (w.alloc (.cells #[.int .i64 s, .int .i64 k, .slice p l.length cap] 24)) (.cells #[.int .i64 s', .int .i64 k', .slice p' l'.length cap'] 24); rw [size_alloc] at this; exact this
  have HB0 := hid2 hb0
  have HX0 := hid2 hx0
  have HY0 := hid2 hy0
  clear hb0 hx0 hy0
  have HS := hid2 h
  have HS' := hid2 h'
  have HBY := hid2 hby
  have HBY' := hid2 hby'
  have HL := hid2 hl
  have hn1 : ¬ 600 < (l.length : Int) := by omega
  have hn2 : ¬ 600 < (l'.length : Int) := by omega
  clear h h' hby hby' hE hl'
  go_enter Tryd.func3, Tryd.ntmps3
  go_wp2_with fail
  refine (put_any (HS.out.stays HB0.out) HBY.out HL.out).mono ?_
  rintro e w3 ⟨b3, p3, c3, u3, rfl, hs3, hu3, hb3⟩
  have HB3 := hid2 (HB0.out.trans (hb3.mono HB0.out.size))
  have HX3 := hid2 (heap_stays HX0.out hb3)
  have HY3 := hid2 (heap_stays HY0.out hb3)
  obtain ⟨⟨x0, x1, x2⟩, _⟩ := three24 HX3.out
  have HS3 := hid2 hs3
  have HU3 := hid2 hu3
  clear hs3 hu3 hb3
  go_wp2_with fail
  refine (rput_any (HS.out.stays HB3.out) HBY.out).mono ?_
  rintro e w4 ⟨b4, p4, c4, rfl, hs4, hb4⟩
  have HB4 := hid2 (HB3.out.trans (hb4.mono HB3.out.size))
  have HX4 := hid2 (heap_stays HX3.out hb4)
  have HY4 := hid2 (heap_stays HY3.out hb4)
  have HU4 := hid2 (HU3.out.below hb4)
  have KS := same_any ((HS3.out.stays hb4).stays (Below.refl _ w4).drew) (hs4.stays (Below.refl _ w4).drew)
  rw [decide_eq_true rfl] at KS
  have HKS : Hid (Calls Tryd.prog 11 #[.slice p3 (putP s k l).1.length c3, .slice p4 (putP s k l).1.length c4] w4.drew fun e w' => e = .returned (.bool true) ∧ Below w4.drew.heap.size w4.drew w') := KS.mono fun e w' ⟨h1, m, h2⟩ => ⟨h1, by rw [h2]; exact below_drewN _ _ _⟩
  clear hs4 hb4 KS HX3 HY3 HX0 HY0 HB0 HB3 HS3 HU3
  generalize (putP s k l).2 = code at *
  generalize (putP s k l).1 = L at *
  go_wp2_with fail
  refine wp_region_held_drew (S := fun w' => w'.heap[w.heap.size]? = some (.cells #[.int .i64 s, .int .i64 k, .slice p l.length cap] 24 (0, 0)) ∧ w'.heap[w.heap.size + 1]? = some (.cells #[.int .i64 s', .int .i64 k', .slice p' l'.length cap'] 24 (0, 0))) (by kernel_rfl) (⟨HX4.out, HY4.out⟩) (fun hS => ?_)
  change wpAnyH _ _ _ _ _ _ _ _ (World.drew _)
  refine wpAnyH_take (i := 0) (v := .slice p3 L.length c3) rfl (by kernel_rfl) (by kernel_rfl) (by kernel_rfl) (fun _ _ _ h => h) (Or.inl ⟨by kernel_rfl, ?_⟩) hS ?_
  · intro w hw; clear hw; go_simp
  change wpAnyH _ _ _ _ _ _ _ (Act.put _ (some 30) _) _
  simp only [Act.put, List.setIfInBounds_toArray, List.set_cons_succ, List.set_cons_zero]
  refine wpAnyH_take (i := 1) (v := .slice p4 L.length c4) rfl (by kernel_rfl) (by kernel_rfl) (by kernel_rfl) (fun _ _ _ h => h) (Or.inl ⟨by kernel_rfl, ?_⟩) hS ?_
  · intro w hw; clear hw; go_simp
  change wpAnyH _ _ _ _ _ _ _ (Act.put _ (some 31) _) _
  simp only [Act.put, List.setIfInBounds_toArray, List.set_cons_succ, List.set_cons_zero]
  refine wpAnyH_ready (rs := [2]) (by kernel_rfl) (by simp) ?_
  refine AllReadyH.cons rfl (fun K hK => ?_) AllReadyH.nil
  go_simp
  go_wp2_with (go_at_call 11; refine (HKS.out).mono ?_; rintro e w5 ⟨rfl, hb5⟩)
  have HB5 := hid2 (HB4.out.drew.trans (hb5.mono HB4.out.size))
  have HU5 := hid2 (HU4.out.below ((Below.refl _ _).drew.trans hb5))
  refine hK.out _ _ (⟨heap_stays hS.1 hb5, heap_stays hS.2 hb5⟩) (fun hS => ?_)
  clear hK K
  skip
  refine wpAnyH_take (i := 3) (v := .bool true) rfl (by kernel_rfl) (by kernel_rfl) (by kernel_rfl) (fun _ _ _ h => h) (Or.inl ⟨by kernel_rfl, ?_⟩) hS ?_
  · intro w hw; clear hw; go_simp
  change wpAnyH _ _ _ _ _ _ _ (Act.put _ (some 33) _) _
  simp only [Act.put, List.setIfInBounds_toArray, List.set_cons_succ, List.set_cons_zero]
  refine wpAnyH_take (i := 4) (v := u3) rfl (by kernel_rfl) (by kernel_rfl) (by kernel_rfl) (fun _ _ _ h => h) (Or.inl ⟨by kernel_rfl, ?_⟩) hS ?_
  · intro w hw; clear hw; go_simp
  change wpAnyH _ _ _ _ _ _ _ (Act.put _ (some 34) _) _
  simp only [Act.put, List.setIfInBounds_toArray, List.set_cons_succ, List.set_cons_zero]
  refine wpAnyH_take (i := 6) (v := .int .i64 code) rfl (by kernel_rfl) (by kernel_rfl) (by kernel_rfl) (fun _ _ _ h => h) (Or.inl ⟨by kernel_rfl, ?_⟩) hS ?_
  · intro w hw; clear hw; go_simp
  change wpAnyH _ _ _ _ _ _ _ (Act.put _ (some 36) _) _
  simp only [Act.put, List.setIfInBounds_toArray, List.set_cons_succ, List.set_cons_zero]
  refine wpAnyH_ready (rs := [5]) (by kernel_rfl) (by simp) ?_
  refine AllReadyH.cons rfl (fun K hK => ?_) AllReadyH.nil
  go_simp
  go_wp2_with (go_at_call 12; refine (of_code (HE.out.below HB5.out) HU5.out).mono ?_; rintro e w6 ⟨rfl, hb6⟩)
  have HB6 := hid2 (HB5.out.trans (hb6.mono HB5.out.size))
  refine hK.out _ _ (⟨heap_stays hS.1 hb6, heap_stays hS.2 hb6⟩) (fun hS => ?_)
  clear hK K
  skip
  refine wpAnyH_take (i := 7) (v := .bool true) rfl (by kernel_rfl) (by kernel_rfl) (by kernel_rfl) (fun _ _ _ h => h) (Or.inl ⟨by kernel_rfl, ?_⟩) hS ?_
  · intro w hw; clear hw; go_simp
  change wpAnyH _ _ _ _ _ _ _ (Act.put _ (some 37) _) _
  simp only [Act.put, List.setIfInBounds_toArray, List.set_cons_succ, List.set_cons_zero]
  refine wpAnyH_take (i := 8) (v := .bool true) rfl (by kernel_rfl) (by kernel_rfl) (by kernel_rfl) (fun _ _ _ h => h) (Or.inl ⟨by kernel_rfl, ?_⟩) hS ?_
  · intro w hw; clear hw; go_simp
  change wpAnyH _ _ _ _ _ _ _ (Act.put _ (some 38) _) _
  simp only [Act.put, List.setIfInBounds_toArray, List.set_cons_succ, List.set_cons_zero]
  refine wpAnyH_take (i := 9) (v := .bool true) rfl (by kernel_rfl) (by kernel_rfl) (by kernel_rfl) (fun _ _ _ h => h) (Or.inl ⟨by kernel_rfl, ?_⟩) hS ?_
  · intro w hw; clear hw; go_simp
  change wpAnyH _ _ _ _ _ _ _ (Act.put _ (some 39) _) _
  simp only [Act.put, List.setIfInBounds_toArray, List.set_cons_succ, List.set_cons_zero]
  refine wpAnyH_take (i := 10) (v := .agg #[.int .i64 s, .int .i64 k, .slice p l.length cap]) rfl (by kernel_rfl) (by kernel_rfl) (by kernel_rfl) (fun _ _ _ h => h) (Or.inl ⟨by kernel_rfl, ?_⟩) hS ?_
  · intro W hw
    obtain ⟨⟨q0, q1, q2⟩, _⟩ := three24 hw.1
    go_simp
  change wpAnyH _ _ _ _ _ _ _ (Act.put _ (some 40) _) _
  simp only [Act.put, List.setIfInBounds_toArray, List.set_cons_succ, List.set_cons_zero]
  refine wpAnyH_take (i := 13) (v := .agg #[.int .i64 s, .int .i64 k, .slice p l.length cap]) rfl (by kernel_rfl) (by kernel_rfl) (by kernel_rfl) (fun _ _ _ h => h) (Or.inl ⟨by kernel_rfl, ?_⟩) hS ?_
  · intro W hw
    obtain ⟨⟨q0, q1, q2⟩, _⟩ := three24 hw.1
    go_simp
  change wpAnyH _ _ _ _ _ _ _ (Act.put _ (some 43) _) _
  simp only [Act.put, List.setIfInBounds_toArray, List.set_cons_succ, List.set_cons_zero]
  refine wpAnyH_ready (rs := [11]) (by kernel_rfl) (by simp) ?_
  refine AllReadyH.cons rfl (fun K hK => ?_) AllReadyH.nil
  go_simp
  go_wp2_with (go_at_call 13; refine (check_any s k p l.length cap _ (by omega)).mono ?_; rintro e w7 ⟨v7, rfl, hv7, hb7⟩)
  have HB7 := hid2 (HB6.out.trans (hb7.mono HB6.out.size))
  refine hK.out _ _ (⟨heap_stays hS.1 hb7, heap_stays hS.2 hb7⟩) (fun hS => ?_)
  clear hK K
  skip
  refine wpAnyH_ready (rs := [12]) (by kernel_rfl) (by simp) ?_
  refine AllReadyH.cons rfl (fun K hK => ?_) AllReadyH.nil
  go_simp
  go_wp2_with (go_at_call 12; refine (of_code (HE.out.below HB7.out) hv7.fault).mono ?_; rintro e w8x ⟨rfl, hb8x⟩)
  have HB8x := hid2 (HB7.out.trans (hb8x.mono HB7.out.size))
  refine hK.out _ _ (⟨heap_stays hS.1 hb8x, heap_stays hS.2 hb8x⟩) (fun hS => ?_)
  clear hK K
  skip
  refine wpAnyH_ready (rs := [14]) (by kernel_rfl) (by simp) ?_
  refine AllReadyH.cons rfl (fun K hK => ?_) AllReadyH.nil
  go_simp
  go_wp2_with (go_at_call 14; refine (rcheck_any s k p l.length cap _).mono ?_; rintro e w9 ⟨rfl, hb9⟩)
  have HB9 := hid2 (HB8x.out.trans (hb9.mono HB8x.out.size))
  refine hK.out _ _ (⟨heap_stays hS.1 hb9, heap_stays hS.2 hb9⟩) (fun hS => ?_)
  clear hK K
  skip
  refine wpAnyH_take (i := 15) (v := .bool true) rfl (by kernel_rfl) (by kernel_rfl) (by kernel_rfl) (fun _ _ _ h => h) (Or.inl ⟨by kernel_rfl, ?_⟩) hS ?_
  · intro w hw; clear hw; go_simp
  change wpAnyH _ _ _ _ _ _ _ (Act.put _ (some 45) _) _
  simp only [Act.put, List.setIfInBounds_toArray, List.set_cons_succ, List.set_cons_zero]
  refine wpAnyH_take (i := 16) (v := .bool true) rfl (by kernel_rfl) (by kernel_rfl) (by kernel_rfl) (fun _ _ _ h => h) (Or.inl ⟨by kernel_rfl, ?_⟩) hS ?_
  · intro w hw; clear hw; go_simp
  change wpAnyH _ _ _ _ _ _ _ (Act.put _ (some 46) _) _
  simp only [Act.put, List.setIfInBounds_toArray, List.set_cons_succ, List.set_cons_zero]
  refine wpAnyH_take (i := 17) (v := .bool true) rfl (by kernel_rfl) (by kernel_rfl) (by kernel_rfl) (fun _ _ _ h => h) (Or.inl ⟨by kernel_rfl, ?_⟩) hS ?_
  · intro w hw; clear hw; go_simp
  change wpAnyH _ _ _ _ _ _ _ (Act.put _ (some 47) _) _
  simp only [Act.put, List.setIfInBounds_toArray, List.set_cons_succ, List.set_cons_zero]
  refine wpAnyH_take (i := 18) (v := .agg #[.int .i64 s, .int .i64 k, .slice p l.length cap]) rfl (by kernel_rfl) (by kernel_rfl) (by kernel_rfl) (fun _ _ _ h => h) (Or.inl ⟨by kernel_rfl, ?_⟩) hS ?_
  · intro W hw
    obtain ⟨⟨q0, q1, q2⟩, _⟩ := three24 hw.1
    go_simp
  change wpAnyH _ _ _ _ _ _ _ (Act.put _ (some 48) _) _
  simp only [Act.put, List.setIfInBounds_toArray, List.set_cons_succ, List.set_cons_zero]
  refine wpAnyH_take (i := 19) (v := .agg #[.int .i64 s', .int .i64 k', .slice p' l'.length cap']) rfl (by kernel_rfl) (by kernel_rfl) (by kernel_rfl) (fun _ _ _ h => h) (Or.inl ⟨by kernel_rfl, ?_⟩) hS ?_
  · intro W hw
    obtain ⟨⟨q0, q1, q2⟩, _⟩ := three24 hw.2
    go_simp
  change wpAnyH _ _ _ _ _ _ _ (Act.put _ (some 49) _) _
  simp only [Act.put, List.setIfInBounds_toArray, List.set_cons_succ, List.set_cons_zero]
  refine wpAnyH_take (i := 21) (v := .agg #[.int .i64 s, .int .i64 k, .slice p l.length cap]) rfl (by kernel_rfl) (by kernel_rfl) (by kernel_rfl) (fun _ _ _ h => h) (Or.inl ⟨by kernel_rfl, ?_⟩) hS ?_
  · intro W hw
    obtain ⟨⟨q0, q1, q2⟩, _⟩ := three24 hw.1
    go_simp
  change wpAnyH _ _ _ _ _ _ _ (Act.put _ (some 51) _) _
  simp only [Act.put, List.setIfInBounds_toArray, List.set_cons_succ, List.set_cons_zero]
  refine wpAnyH_take (i := 22) (v := .agg #[.int .i64 s', .int .i64 k', .slice p' l'.length cap']) rfl (by kernel_rfl) (by kernel_rfl) (by kernel_rfl) (fun _ _ _ h => h) (Or.inl ⟨by kernel_rfl, ?_⟩) hS ?_
  · intro W hw
    obtain ⟨⟨q0, q1, q2⟩, _⟩ := three24 hw.2
    go_simp
  change wpAnyH _ _ _ _ _ _ _ (Act.put _ (some 52) _) _
  simp only [Act.put, List.setIfInBounds_toArray, List.set_cons_succ, List.set_cons_zero]
  refine wpAnyH_ready (rs := [20]) (by kernel_rfl) (by simp) ?_
  refine AllReadyH.cons rfl (fun K hK => ?_) AllReadyH.nil
  go_simp
  go_wp2_with (go_at_call 15; refine (lsame_any s k s' k' (HS.out.stays HB9.out) (HS'.out.stays HB9.out) HBY.out HBY'.out).mono ?_; rintro e w10 ⟨rfl, hb10⟩)
  have HB10 := hid2 (HB9.out.trans (hb10.mono HB9.out.size))
  refine hK.out _ _ (⟨heap_stays hS.1 hb10, heap_stays hS.2 hb10⟩) (fun hS => ?_)
  clear hK K
  skip
  refine wpAnyH_ready (rs := [23]) (by kernel_rfl) (by simp) ?_
  refine AllReadyH.cons rfl (fun K hK => ?_) AllReadyH.nil
  go_simp
  go_wp2_with (go_at_call 16; refine (rsame_any s k s' k' (HS.out.stays HB10.out) (HS'.out.stays HB10.out)).mono ?_; rintro e w11 ⟨rfl, hb11⟩)
  have HB11 := hid2 (HB10.out.trans (hb11.mono HB10.out.size))
  refine hK.out _ _ (⟨heap_stays hS.1 hb11, heap_stays hS.2 hb11⟩) (fun hS => ?_)
  clear hK K
  skip
  generalize (s == s' && k == k' && decide (l = l')) = D at *
  have hD : (D == D) = true := by simp
  refine wpAnyH_take (i := 24) (v := .bool true) rfl (by kernel_rfl) (by kernel_rfl) (by kernel_rfl) (fun _ _ _ h => h) (Or.inl ⟨by kernel_rfl, ?_⟩) hS ?_
  · intro w hw; clear hw; go_simp
  change wpAnyH _ _ _ _ _ _ _ (Act.put _ (some 54) _) _
  simp only [Act.put, List.setIfInBounds_toArray, List.set_cons_succ, List.set_cons_zero]
  refine wpAnyH_take (i := 25) (v := .bool true) rfl (by kernel_rfl) (by kernel_rfl) (by kernel_rfl) (fun _ _ _ h => h) (Or.inl ⟨by kernel_rfl, ?_⟩) hS ?_
  · intro w hw; clear hw; go_simp
  change wpAnyH _ _ _ _ _ _ _ (Act.put _ (some 55) _) _
  simp only [Act.put, List.setIfInBounds_toArray, List.set_cons_succ, List.set_cons_zero]
  refine wpAnyH_take (i := 26) (v := .bool true) rfl (by kernel_rfl) (by kernel_rfl) (by kernel_rfl) (fun _ _ _ h => h) (Or.inl ⟨by kernel_rfl, ?_⟩) hS ?_
  · intro w hw; clear hw; go_simp
  change wpAnyH _ _ _ _ _ _ _ (Act.put _ (some 56) _) _
  simp only [Act.put, List.setIfInBounds_toArray, List.set_cons_succ, List.set_cons_zero]
  refine wpAnyH_ready (rs := [27]) (by kernel_rfl) (by simp) ?_
  refine AllReadyH.cons rfl (fun K hK => ?_) AllReadyH.nil
  go_simp
  go_wp2_with (go_at_call 8; refine (works_any _ (HE.out.below HB11.out)).mono ?_; rintro e w12 ⟨rfl, hb12⟩)
  have HB12 := hid2 (HB11.out.trans (hb12.mono HB11.out.size))
  refine hK.out _ _ (⟨heap_stays hS.1 hb12, heap_stays hS.2 hb12⟩) (fun hS => ?_)
  clear hK K
  skip
  refine wpAnyH_take (i := 28) (v := .bool true) rfl (by kernel_rfl) (by kernel_rfl) (by kernel_rfl) (fun _ _ _ h => h) (Or.inl ⟨by kernel_rfl, ?_⟩) hS ?_
  · intro w hw; clear hw; go_simp
  change wpAnyH _ _ _ _ _ _ _ (Act.put _ (some 58) _) _
  simp only [Act.put, List.setIfInBounds_toArray, List.set_cons_succ, List.set_cons_zero]
  refine wpAnyH_take (i := 29) (v := .bool true) rfl (by kernel_rfl) (by kernel_rfl) (by kernel_rfl) (fun _ _ _ h => h) (Or.inl ⟨by kernel_rfl, ?_⟩) hS ?_
  · intro w hw; clear hw; go_simp
  change wpAnyH _ _ _ _ _ _ _ (Act.put _ (some 4) _) _
  simp only [Act.put, List.setIfInBounds_toArray, List.set_cons_succ, List.set_cons_zero]
  refine wpAnyH_done (by kernel_rfl) ?_ _
  go_wp2
  go_ret
  exact ⟨rfl, HB12.out⟩

/-- The sentence's function answers true, whatever comes in. -/
theorem puts_any {w : World} {b b' : Nat} {p p' : Option Addr} {cap cap' : Nat} {s k s' k' : Int} {l l' : List Nat} (h : SlAt w b (.slice p l.length cap) (U l)) (h' : SlAt w b' (.slice p' l'.length cap') (U l')) (hby : Byt l) (hby' : Byt l') (hE : ErrT w) :
    Calls Tryd.prog 3 #[.agg #[.int .i64 s, .int .i64 k, .slice p l.length cap], .agg #[.int .i64 s', .int .i64 k', .slice p' l'.length cap']] w fun e w' => e = .returned (.bool true) ∧ Below w.heap.size w w' := by
  by_cases h1 : 600 < l.length ∨ 600 < l'.length
  · exact puts_out hE h1
  · exact puts_good h h' hby hby' hE (by omega) (by omega)
end Go.Proofs.YtcdcdlofgeoonaaDoor
