/-
  Torn pages are told: the walk of that sentence.
-/
import Derived.Test.YtcdcdlofgeoonaaDoorApp
namespace Go.Proofs.YtcdcdlofgeoonaaDoor
open Go.RowKit Go.Extern.Stop Go.Stop Go.Extern

set_option maxHeartbeats 4000000 in
set_option maxRecDepth 10000 in
theorem torn_out {w : World} {p p' : Option Addr} {cap cap' cut : Nat} {s k s' k' : Int} {l l' : List Nat} (hE : ErrT w) (hout : checkC s k l.length ≠ 0 ∨ checkC s' k' l'.length ≠ 0 ∨ s = s') :
    Calls Tryd.prog 6 #[.agg #[.int .i64 s, .int .i64 k, .slice p l.length cap], .agg #[.int .i64 s', .int .i64 k', .slice p' l'.length cap'], .int .u16 (cut : Int)] w fun e w' => e = .returned (.bool true) ∧ Below w.heap.size w w' := by
  have HE := hid2 hE
  clear hE
  have hb0 : Below w.heap.size w ((w.alloc (.cells #[.int .i64 s, .int .i64 k, .slice p l.length cap] 24)).alloc (.cells #[.int .i64 s', .int .i64 k', .slice p' l'.length cap'] 24)) := by go_grown
  have hx0 : ((w.alloc (.cells #[.int .i64 s, .int .i64 k, .slice p l.length cap] 24)).alloc (.cells #[.int .i64 s', .int .i64 k', .slice p' l'.length cap'] 24)).heap[w.heap.size]? = some (.cells #[.int .i64 s, .int .i64 k, .slice p l.length cap] 24 (0, 0)) := by rw [Below.heap_alloc _ _ _ (by simp)]; exact heap_alloc_new w _
  have hy0 : ((w.alloc (.cells #[.int .i64 s, .int .i64 k, .slice p l.length cap] 24)).alloc (.cells #[.int .i64 s', .int .i64 k', .slice p' l'.length cap'] 24)).heap[w.heap.size + 1]? = some (.cells #[.int .i64 s', .int .i64 k', .slice p' l'.length cap'] 24 (0, 0)) := by have := heap_alloc_new (w.alloc (.cells #[.int .i64 s, .int .i64 k, .slice p l.length cap] 24)) (.cells #[.int .i64 s', .int .i64 k', .slice p' l'.length cap'] 24); rw [size_alloc] at this; exact this
  have HB0 := hid2 hb0
  have HX0 := hid2 hx0
  have HY0 := hid2 hy0
  clear hb0 hx0 hy0
  have HK0 := hid2 (rcheck_any s k p l.length cap ((w.alloc (.cells #[.int .i64 s, .int .i64 k, .slice p l.length cap] 24)).alloc (.cells #[.int .i64 s', .int .i64 k', .slice p' l'.length cap'] 24)))
  have HK1 := hid2 (fun w => rcheck_any s' k' p' l'.length cap' w)
  generalize checkC s k l.length = c0 at *
  generalize checkC s' k' l'.length = c1 at *
  by_cases h0 : c0 = 0
  · subst h0
    by_cases h1 : c1 = 0
    · subst h1
      have hs : s = s' := by simpa using hout
      have hss : (s == s') = true := by simpa using hs
      clear hout hs
      go_enter Tryd.func6, Tryd.ntmps6
      go_wp2_with fail
      refine (show Calls _ _ _ _ _ from HK0).mono ?_
      rintro e w1 ⟨rfl, hb1⟩
      have HB1 := hid2 (HB0.out.trans (hb1.mono HB0.out.size))
      have HX1 := hid2 (heap_stays HX0.out hb1)
      have HY1 := hid2 (heap_stays HY0.out hb1)
      obtain ⟨⟨x0, x1, x2⟩, _⟩ := three24 HX1.out
      obtain ⟨⟨y0, y1, y2⟩, _⟩ := three24 HY1.out
      clear hb1
      go_wp2_with fail
      refine (HK1.out _).mono ?_
      rintro e w2 ⟨rfl, hb2⟩
      have HB2 := hid2 (HB1.out.trans (hb2.mono HB1.out.size))
      obtain ⟨⟨x0, x1, x2⟩, _⟩ := three24 (heap_stays HX1.out hb2)
      obtain ⟨⟨y0, y1, y2⟩, _⟩ := three24 (heap_stays HY1.out hb2)
      clear hb2
      go_wp2_with fail
      refine (works_any _ (HE.out.below HB2.out)).mono ?_
      rintro e wz ⟨rfl, hbz⟩
      go_wp2
      go_ret
      exact ⟨rfl, HB2.out.trans (hbz.mono HB2.out.size)⟩
    · have hd : (c1 != 0) = true := by simpa using h1
      clear hout
      go_enter Tryd.func6, Tryd.ntmps6
      go_wp2_with fail
      refine (show Calls _ _ _ _ _ from HK0).mono ?_
      rintro e w1 ⟨rfl, hb1⟩
      have HB1 := hid2 (HB0.out.trans (hb1.mono HB0.out.size))
      have HY1 := hid2 (heap_stays HY0.out hb1)
      obtain ⟨⟨y0, y1, y2⟩, _⟩ := three24 HY1.out
      clear hb1
      go_wp2_with fail
      refine (HK1.out _).mono ?_
      rintro e w2 ⟨rfl, hb2⟩
      have HB2 := hid2 (HB1.out.trans (hb2.mono HB1.out.size))
      clear hb2
      go_wp2_with fail
      refine (works_any _ (HE.out.below HB2.out)).mono ?_
      rintro e wz ⟨rfl, hbz⟩
      go_wp2
      go_ret
      exact ⟨rfl, HB2.out.trans (hbz.mono HB2.out.size)⟩
  · have hd : (c0 != 0) = true := by simpa using h0
    clear hout
    go_enter Tryd.func6, Tryd.ntmps6
    go_wp2_with fail
    refine (show Calls _ _ _ _ _ from HK0).mono ?_
    rintro e w1 ⟨rfl, hb1⟩
    have HB1 := hid2 (HB0.out.trans (hb1.mono HB0.out.size))
    clear hb1
    go_wp2_with fail
    refine (works_any _ (HE.out.below HB1.out)).mono ?_
    rintro e wz ⟨rfl, hbz⟩
    go_wp2
    go_ret
    exact ⟨rfl, HB1.out.trans (hbz.mono HB1.out.size)⟩

set_option maxHeartbeats 8000000 in
set_option maxRecDepth 10000 in
theorem torn_good {w : World} {b b' : Nat} {p p' : Option Addr} {cap cap' cut s k s' k' : Nat} {l l' : List Nat} (h : SlAt w b (.slice p l.length cap) (U l)) (h' : SlAt w b' (.slice p' l'.length cap') (U l')) (hby : Byt l) (hby' : Byt l') (hcut : cut < 65536) (hE : ErrT w)
    (hc0 : checkC (s : Int) (k : Int) l.length = 0) (hc1 : checkC (s' : Int) (k' : Int) l'.length = 0) (hne : s ≠ s') :
    Calls Tryd.prog 6 #[.agg #[.int .i64 (s : Int), .int .i64 (k : Int), .slice p l.length cap], .agg #[.int .i64 (s' : Int), .int .i64 (k' : Int), .slice p' l'.length cap'], .int .u16 (cut : Int)] w fun e w' => e = .returned (.bool true) ∧ Below w.heap.size w w' := by
  have HE := hid2 hE
  have hb0 : Below w.heap.size w ((w.alloc (.cells #[.int .i64 (s : Int), .int .i64 (k : Int), .slice p l.length cap] 24)).alloc (.cells #[.int .i64 (s' : Int), .int .i64 (k' : Int), .slice p' l'.length cap'] 24)) := by go_grown
  have hx0 : ((w.alloc (.cells #[.int .i64 (s : Int), .int .i64 (k : Int), .slice p l.length cap] 24)).alloc (.cells #[.int .i64 (s' : Int), .int .i64 (k' : Int), .slice p' l'.length cap'] 24)).heap[w.heap.size]? = some (.cells #[.int .i64 (s : Int), .int .i64 (k : Int), .slice p l.length cap] 24 (0, 0)) := by rw [Below.heap_alloc _ _ _ (by simp)]; exact heap_alloc_new w _
  have hy0 : ((w.alloc (.cells #[.int .i64 (s : Int), .int .i64 (k : Int), .slice p l.length cap] 24)).alloc (.cells #[.int .i64 (s' : Int), .int .i64 (k' : Int), .slice p' l'.length cap'] 24)).heap[w.heap.size + 1]? = some (.cells #[.int .i64 (s' : Int), .int .i64 (k' : Int), .slice p' l'.length cap'] 24 (0, 0)) := by have := heap_alloc_new (w.alloc (.cells #[.int .i64 (s : Int), .int .i64 (k : Int), .slice p l.length cap] 24)) (.cells #[.int .i64 (s' : Int), .int .i64 (k' : Int), .slice p' l'.length cap'] 24); rw [size_alloc] at this; exact this
  have HB0 := hid2 hb0
  have HX0 := hid2 hx0
  have HY0 := hid2 hy0
  clear hb0 hx0 hy0
  have K0 := rcheck_any (s : Int) (k : Int) p l.length cap ((w.alloc (.cells #[.int .i64 (s : Int), .int .i64 (k : Int), .slice p l.length cap] 24)).alloc (.cells #[.int .i64 (s' : Int), .int .i64 (k' : Int), .slice p' l'.length cap'] 24))
  rw [hc0] at K0
  have HK0 := hid2 K0
  have K1 : ∀ w : World, _ := fun w => rcheck_any (s' : Int) (k' : Int) p' l'.length cap' w
  rw [hc1] at K1
  have HK1 := hid2 K1
  have hss : ((s : Int) == (s' : Int)) = false := by rw [beq_eq_false_iff_ne]; omega
  obtain ⟨s1, s2, k1, k2, hn⟩ := check_zero hc0
  obtain ⟨s1', s2', k1', k2', hn'⟩ := check_zero hc1
  have HS := hid2 h
  have HS' := hid2 h'
  have HBY := hid2 hby
  have HBY' := hid2 hby'
  have HN := hid2 hn
  have HN' := hid2 hn'
  have HSK : Hid (1 ≤ s ∧ s ≤ 1099511627776 ∧ 1 ≤ k ∧ k ≤ 5) := ⟨by omega, by omega, by omega, by omega⟩
  have HSK' : Hid (1 ≤ s' ∧ s' ≤ 1099511627776 ∧ 1 ≤ k' ∧ k' ≤ 5) := ⟨by omega, by omega, by omega, by omega⟩
  have HNE := hid2 hne
  obtain ⟨kk, hkk⟩ : ∃ kk, kk = cut % 257 := ⟨_, rfl⟩
  have hkl : kk ≤ 256 := by omega
  have hmod : (cut : Int) % 257 = (kk : Int) := by omega
  clear hkk h h' hby hby' K0 K1 hc0 hc1 s1 s2 k1 k2 s1' s2' k1' k2' hE hne
  go_enter Tryd.func6, Tryd.ntmps6
  go_wp2_with fail
  refine (show Calls _ _ _ _ _ from HK0).mono ?_
  rintro e w1 ⟨rfl, hb1⟩
  have HB1 := hid2 (HB0.out.trans (hb1.mono HB0.out.size))
  have HX1 := hid2 (heap_stays HX0.out hb1)
  have HY1 := hid2 (heap_stays HY0.out hb1)
  obtain ⟨⟨x0, x1, x2⟩, _⟩ := three24 HX1.out
  obtain ⟨⟨y0, y1, y2⟩, _⟩ := three24 HY1.out
  clear hb1
  go_wp2_with fail
  refine (HK1.out _).mono ?_
  rintro e w2 ⟨rfl, hb2⟩
  have HB2 := hid2 (HB1.out.trans (hb2.mono HB1.out.size))
  have HX2 := hid2 (heap_stays HX1.out hb2)
  have HY2 := hid2 (heap_stays HY1.out hb2)
  obtain ⟨⟨x0, x1, x2⟩, _⟩ := three24 HX2.out
  obtain ⟨⟨y0, y1, y2⟩, _⟩ := three24 HY2.out
  clear hb2
  go_wp2_with fail
  refine (put_good (HS.out.stays HB2.out) HBY.out HSK.out.1 HSK.out.2.1 HSK.out.2.2.1 HSK.out.2.2.2 HN.out).mono ?_
  rintro e w3 ⟨b3, o3, c3, rfl, hp3, _, hb3⟩
  have HP3 := hid2 hp3
  have HB3 := hid2 (HB2.out.trans (hb3.mono HB2.out.size))
  have HY3 := hid2 (heap_stays HY2.out hb3)
  obtain ⟨⟨y0, y1, y2⟩, _⟩ := three24 HY3.out
  clear hp3 hb3
  go_wp2_with fail
  refine (put_good (HS'.out.stays HB3.out) HBY'.out HSK'.out.1 HSK'.out.2.1 HSK'.out.2.2.1 HSK'.out.2.2.2 HN'.out).mono ?_
  rintro e w4 ⟨b4, o4, c4, rfl, hp4, _, hb4⟩
  have HPA4 := hid2 (HP3.out.below hb4)
  have HPB4 := hid2 hp4
  have HB4 := hid2 (HB3.out.trans (hb4.mono HB3.out.size))
  have c30 := HP3.out.cap0
  have c40 := hp4.cap0
  have c31 := HP3.out.cap1
  have c41 := hp4.cap1
  unfold maxLen at c31 c41
  have i1 : (kk : Int) ≤ (c3 : Int) := by omega
  have i2 : ¬ c3 < kk := by omega
  have i3 : (kk : Int) ≤ (c4 : Int) := by omega
  have i4 : (kk : Int) ≤ 256 := by omega
  have i5 : ¬ c4 < kk := by omega
  have i6 : (256 : Int) ≤ (c4 : Int) := by omega
  have hoe : (w4.drew.alloc (.cells #[] 5)).ownsRow w4.heap.size 5 1 (.slice (some ⟨w4.heap.size, 0, none⟩) 0 0) 0 [] := World.ownsRow_made w4.drew #[] 0 (Nat.le_refl _) (Nat.zero_le _) rfl
  have HOE := hid2 hoe
  have hbe : Below w4.heap.size w4 (w4.drew.alloc (.cells #[] 5)) := by go_grown
  have HBE := hid2 hbe
  have HSA := hid2 ((HPA4.out.below hbe).first (j := kk) hkl)
  have HT := hid2 (torn_told (k := k) (k' := k') HSK.out.2.1 HSK'.out.2.1 HNE.out HN.out HN'.out hkl)
  have HCB : Hid (Byt (cutAt (page s k l) (page s' k' l') kk)) := cut_byt (page_byt (by have := HSK.out; omega) HN.out HBY.out) (page_byt (by have := HSK'.out; omega) HN'.out HBY'.out) kk
  have HCL : Hid ((cutAt (page s k l) (page s' k' l') kk).length = 256) := cut_length (page_length HN.out) (page_length HN'.out) hkl
  have HCU : Hid (U ((page s k l).take kk ++ (page s' k' l').drop kk) = U (cutAt (page s k l) (page s' k' l') kk)) := rfl
  have hpl := page_length (s := s') (k := k') HN'.out
  clear hp4 hb4 hoe HP3 HX1 HY1 HX2 HY2 HY3 HB1 HB2 HB3 HX0 HY0 HB0 HK0 HK1
  generalize cutAt (page s k l) (page s' k' l') kk = C at *
  generalize page s k l = PA at *
  generalize page s' k' l' = PB at *
  go_wp2_with fail
  by_cases hcc : c4 = kk
  · have hk6 : kk = 256 := by omega
    have e1 : PB.drop kk = [] := List.drop_eq_nil_of_le (by omega)
    rw [e1] at HCU
    have HSB : Hid (SlAt w4 b4 (.slice (some ⟨b4, o4, none⟩) 0 0) (U [])) := .inr ⟨_, 0, rfl, Nat.le_refl _, Nat.zero_le _, .inl rfl⟩
    have hm6 : (cut : Int) % 257 = 256 := by omega
    rw [hm6]
    clear hbe hpl e1 hmod i1 i2 i3 i4 i5 i6
    subst hcc
    subst hk6
    have i1 : (256 : Int) ≤ (c3 : Int) := by omega
    have i2 : ¬ c3 < 256 := by omega
    refine wp_region_held_drew (S := fun _ => True) (by kernel_rfl) (trivial) (fun hS => ?_)
    change wpAnyH _ _ _ _ _ _ _ _ (World.drew _)
    refine wpAnyH_take (i := 1) (v := .slice (some ⟨b3, o3, none⟩) 256 c3) rfl (by kernel_rfl) (by kernel_rfl) (by kernel_rfl) (fun _ _ _ h => h) (Or.inl ⟨by kernel_rfl, ?_⟩) hS ?_
    · intro w hw; clear hw; go_simp
    change wpAnyH _ _ _ _ _ _ _ (Act.put _ (some 61) _) _
    simp only [Act.put, List.setIfInBounds_toArray, List.set_cons_succ, List.set_cons_zero]
    refine wpAnyH_take (i := 2) (v := .int .i64 256) rfl (by kernel_rfl) (by kernel_rfl) (by kernel_rfl) (fun _ _ _ h => h) (Or.inl ⟨by kernel_rfl, ?_⟩) hS ?_
    · intro w hw; clear hw; go_simp
    change wpAnyH _ _ _ _ _ _ _ (Act.put _ (some 62) _) _
    simp only [Act.put, List.setIfInBounds_toArray, List.set_cons_succ, List.set_cons_zero]
    refine wpAnyH_take (i := 3) (v := .slice (some ⟨b3, o3, none⟩) 256 c3) rfl (by kernel_rfl) (by kernel_rfl) (by kernel_rfl) (fun _ _ _ h => h) (Or.inl ⟨by kernel_rfl, ?_⟩) hS ?_
    · intro w hw; clear hw; go_simp
    change wpAnyH _ _ _ _ _ _ _ (Act.put _ (some 63) _) _
    simp only [Act.put, List.setIfInBounds_toArray, List.set_cons_succ, List.set_cons_zero]
    refine wpAnyH_take (i := 5) (v := .slice (some ⟨b4, o4, none⟩) 256 256) rfl (by kernel_rfl) (by kernel_rfl) (by kernel_rfl) (fun _ _ _ h => h) (Or.inl ⟨by kernel_rfl, ?_⟩) hS ?_
    · intro w hw; clear hw; go_simp
    change wpAnyH _ _ _ _ _ _ _ (Act.put _ (some 65) _) _
    simp only [Act.put, List.setIfInBounds_toArray, List.set_cons_succ, List.set_cons_zero]
    refine wpAnyH_take (i := 6) (v := .int .i64 256) rfl (by kernel_rfl) (by kernel_rfl) (by kernel_rfl) (fun _ _ _ h => h) (Or.inl ⟨by kernel_rfl, ?_⟩) hS ?_
    · intro w hw; clear hw; go_simp
    change wpAnyH _ _ _ _ _ _ _ (Act.put _ (some 66) _) _
    simp only [Act.put, List.setIfInBounds_toArray, List.set_cons_succ, List.set_cons_zero]
    refine wpAnyH_take (i := 7) (v := .slice (some ⟨b4, o4, none⟩) 0 0) rfl (by kernel_rfl) (by kernel_rfl) (by kernel_rfl) (fun _ _ _ h => h) (Or.inl ⟨by kernel_rfl, ?_⟩) hS ?_
    · intro w hw; clear hw; go_simp
    change wpAnyH _ _ _ _ _ _ _ (Act.put _ (some 67) _) _
    simp only [Act.put, List.setIfInBounds_toArray, List.set_cons_succ, List.set_cons_zero]
    refine wpAnyH_ready (rs := [0]) (by kernel_rfl) (by simp) ?_
    refine AllReadyH.cons rfl (fun K hK => ?_) AllReadyH.nil
    go_simp
    go_wp2_with fail
    refine hK.out _ _ (trivial) (fun hS => ?_)
    clear hK K
    skip
    refine wpAnyH_ready (rs := [4]) (by kernel_rfl) (by simp) ?_
    refine AllReadyH.cons rfl (fun K hK => ?_) AllReadyH.nil
    refine step_append_bytes rfl (.tmp 60) (.tmp 63) rfl w4.heap.size (.slice (some ⟨w4.heap.size, 0, none⟩) 0 0) 0 [] rfl HOE.out b3 o3 256 c3 _ rfl HSA.out (by omega) (by simp) ?_
    intro v5 w5 hown5 hgrow5
    rw [Nat.zero_add, List.nil_append] at hown5
    have hb5 := HBE.out.grown hgrow5 (by simp) (fun kk2 hkk2 => (HOE.out.lt kk2 hkk2).1)
    refine hK.out _ _ (trivial) (fun hS => ?_)
    clear hK K
    change wpAnyH _ _ _ _ _ _ _ (Act.put _ (some 64) _) _
    simp only [Act.put, List.setIfInBounds_toArray, List.set_cons_succ, List.set_cons_zero]
    refine wpAnyH_ready (rs := [8]) (by kernel_rfl) (by simp) ?_
    refine AllReadyH.cons rfl (fun K hK => ?_) AllReadyH.nil
    refine step_append_bytes rfl (.tmp 64) (.tmp 67) rfl w4.heap.size v5 _ _ rfl hown5 b4 o4 0 0 _ rfl (HSB.out.stays hb5) (by omega) hb5.size ?_
    intro v6 w6x hown6 hgrow6
    have hb6x := hb5.grown hgrow6 hb5.size (fun kk2 hkk2 => (hown5.lt kk2 hkk2).1)
    refine hK.out _ _ (trivial) (fun hS => ?_)
    clear hK K
    change wpAnyH _ _ _ _ _ _ _ (Act.put _ (some 68) _) _
    simp only [Act.put, List.setIfInBounds_toArray, List.set_cons_succ, List.set_cons_zero]
    refine wpAnyH_take (i := 9) (v := v6) rfl (by kernel_rfl) (by kernel_rfl) (by kernel_rfl) (fun _ _ _ h => h) (Or.inl ⟨by kernel_rfl, ?_⟩) hS ?_
    · intro w hw; clear hw; go_simp
    change wpAnyH _ _ _ _ _ _ _ (Act.put _ (some 12) _) _
    simp only [Act.put, List.setIfInBounds_toArray, List.set_cons_succ, List.set_cons_zero]
    refine wpAnyH_done (by kernel_rfl) ?_ _
    rw [← U_append, HCU.out] at hown6
    obtain ⟨b5, _, hs5⟩ := own_sl hown6
    have HSC := hid2 hs5
    have HB5 := hid2 (HB4.out.trans (hb6x.mono HB4.out.size))
    have HPA := hid2 (HPA4.out.below hb6x)
    have HPB := hid2 (HPB4.out.below hb6x)
    obtain ⟨pc, cc, hv5, _, _⟩ := hs5.form
    rw [U_length, HCL.out] at hv5
    subst hv5
    clear hown5 hgrow5 hb5 hown6 hgrow6 hb6x hs5 HOE HSA HSB HBE
    go_wp2_with fail
    refine (get_any HSC.out HCB.out).mono ?_
    rintro e w6 ⟨rv6, rfl, b6, p6, c6, u6, _, hrv6, hs6, hf6, hb6⟩
    subst hrv6
    have hb6a : Below w6.heap.size w6 (w6.alloc (.cells #[.int .i64 ((getP C).2.1 : Int), .int .i64 ((getP C).2.2.1 : Int), .slice p6 (getP C).2.2.2.length c6] 24)) := by go_grown
    have hb6b := hb6.trans (hb6a.mono hb6.size)
    have HF6 := hid2 (hf6.below hb6a)
    have HB6 := hid2 (HB5.out.trans (hb6b.mono HB5.out.size))
    have HSC6 := hid2 (HSC.out.stays hb6b)
    have HPA6 := hid2 ((HPA.out.below hb6b).sl)
    have HPB6 := hid2 ((HPB.out.below hb6b).sl)
    clear hs6 hf6 hb6 hb6a hb6b
    generalize (getP C).2.1 = t1 at *
    generalize (getP C).2.2.1 = t2 at *
    generalize (getP C).2.2.2.length = t3 at *
    generalize (getP C).1 = code at *
    by_cases h8 : code = 8
    · subst h8
      go_wp2_with fail
      refine (of_code (HE.out.below HB6.out) HF6.out).mono ?_
      rintro e w7 ⟨rfl, hb7⟩
      have HF7 := hid2 (HF6.out.below hb7)
      have HB7 := hid2 (HB6.out.trans (hb7.mono HB6.out.size))
      have HSC7 := hid2 (HSC6.out.stays hb7)

      clear hb7
      go_wp2_with fail
      refine (works_any _ (HE.out.below HB7.out)).mono ?_
      rintro e wz ⟨rfl, hbz⟩
      go_wp2
      go_ret
      exact ⟨rfl, HB7.out.trans (hbz.mono HB7.out.size)⟩
    · have e8 : (code == 8) = false := by simpa using h8
      have hor : C = PA ∨ C = PB := by
        rcases HT.out with h | h
        · exact absurd h h8
        · exact h
      clear h8
      go_wp2_with fail
      refine (of_code (HE.out.below HB6.out) HF6.out).mono ?_
      rintro e w7 ⟨rfl, hb7⟩
      have HF7 := hid2 (HF6.out.below hb7)
      have HB7 := hid2 (HB6.out.trans (hb7.mono HB6.out.size))
      have HSC7 := hid2 (HSC6.out.stays hb7)
      have HPA7 := hid2 (HPA6.out.stays hb7)
      have HPB7 := hid2 (HPB6.out.stays hb7)
      clear hb7
      by_cases hA : C = PA
      · have HKS : Hid (Calls Tryd.prog 11 #[.slice pc 256 cc, .slice (some ⟨b3, o3, none⟩) 256 c3] w7 fun e w' => e = .returned (.bool true) ∧ ∃ m, w' = w7.drewN m) := by
          have := same_any HSC7.out HPA7.out
          rw [decide_eq_true hA] at this
          exact this
        clear hor hA
        go_wp2_with fail
        refine (show Calls _ _ _ _ _ from HKS).mono ?_
        rintro e w9 ⟨rfl, m9, rfl⟩
        have HB9 : Hid (Below w.heap.size w (w7.drewN m9)) := HB7.out.trans (below_drewN _ _ _)
        go_wp2_with fail
        refine (works_any _ (HE.out.below HB9.out)).mono ?_
        rintro e wz ⟨rfl, hbz⟩
        go_wp2
        go_ret
        exact ⟨rfl, HB9.out.trans (hbz.mono HB9.out.size)⟩
      · have hB : C = PB := hor.resolve_left hA
        have HKS : Hid (Calls Tryd.prog 11 #[.slice pc 256 cc, .slice (some ⟨b3, o3, none⟩) 256 c3] w7 fun e w' => e = .returned (.bool false) ∧ ∃ m, w' = w7.drewN m) := by
          have := same_any HSC7.out HPA7.out
          rw [decide_eq_false hA] at this
          exact this
        have HKT : Hid (∀ m, Calls Tryd.prog 11 #[.slice pc 256 cc, .slice (some ⟨b4, o4, none⟩) 256 256] (w7.drewN m) fun e w' => e = .returned (.bool true) ∧ ∃ n, w' = (w7.drewN m).drewN n) := by
          intro m
          have := same_any (HSC7.out.stays (below_drewN w7 m _)) (HPB7.out.stays (below_drewN w7 m _))
          rw [decide_eq_true hB] at this
          exact this
        clear hor hA hB
        go_wp2_with fail
        refine (show Calls _ _ _ _ _ from HKS).mono ?_
        rintro e w9 ⟨rfl, m9, rfl⟩
        go_wp2_with fail
        refine (HKT.out m9).mono ?_
        rintro e w10 ⟨rfl, m10, rfl⟩
        have HB9 : Hid (Below w.heap.size w (w7.drewN (m9 + m10))) := HB7.out.trans (below_drewN _ _ _)
        go_wp2_with fail
        refine (works_any _ (HE.out.below HB9.out)).mono ?_
        rintro e wz ⟨rfl, hbz⟩
        go_wp2
        go_ret
        exact ⟨rfl, HB9.out.trans (hbz.mono HB9.out.size)⟩
  · have HSB : Hid (SlAt w4 b4 (.slice (some ⟨b4, o4 + kk, none⟩) (256 - kk) (c4 - kk)) (U (PB.drop kk))) := by
      have := HPB4.out.part (i := kk) (j := 256) (c := c4 - kk) hkl (by omega) (by omega) (by unfold maxLen; omega)
      rwa [List.take_of_length_le (by omega)] at this
    rw [hmod]
    clear hbe hpl
    refine wp_region_held_drew (S := fun _ => True) (by kernel_rfl) (trivial) (fun hS => ?_)
    change wpAnyH _ _ _ _ _ _ _ _ (World.drew _)
    refine wpAnyH_take (i := 1) (v := .slice (some ⟨b3, o3, none⟩) 256 c3) rfl (by kernel_rfl) (by kernel_rfl) (by kernel_rfl) (fun _ _ _ h => h) (Or.inl ⟨by kernel_rfl, ?_⟩) hS ?_
    · intro w hw; clear hw; go_simp
    change wpAnyH _ _ _ _ _ _ _ (Act.put _ (some 61) _) _
    simp only [Act.put, List.setIfInBounds_toArray, List.set_cons_succ, List.set_cons_zero]
    refine wpAnyH_take (i := 2) (v := .int .i64 (kk : Int)) rfl (by kernel_rfl) (by kernel_rfl) (by kernel_rfl) (fun _ _ _ h => h) (Or.inl ⟨by kernel_rfl, ?_⟩) hS ?_
    · intro w hw; clear hw; go_simp
    change wpAnyH _ _ _ _ _ _ _ (Act.put _ (some 62) _) _
    simp only [Act.put, List.setIfInBounds_toArray, List.set_cons_succ, List.set_cons_zero]
    refine wpAnyH_take (i := 3) (v := .slice (some ⟨b3, o3, none⟩) kk c3) rfl (by kernel_rfl) (by kernel_rfl) (by kernel_rfl) (fun _ _ _ h => h) (Or.inl ⟨by kernel_rfl, ?_⟩) hS ?_
    · intro w hw; clear hw; go_simp
    change wpAnyH _ _ _ _ _ _ _ (Act.put _ (some 63) _) _
    simp only [Act.put, List.setIfInBounds_toArray, List.set_cons_succ, List.set_cons_zero]
    refine wpAnyH_take (i := 5) (v := .slice (some ⟨b4, o4, none⟩) 256 c4) rfl (by kernel_rfl) (by kernel_rfl) (by kernel_rfl) (fun _ _ _ h => h) (Or.inl ⟨by kernel_rfl, ?_⟩) hS ?_
    · intro w hw; clear hw; go_simp
    change wpAnyH _ _ _ _ _ _ _ (Act.put _ (some 65) _) _
    simp only [Act.put, List.setIfInBounds_toArray, List.set_cons_succ, List.set_cons_zero]
    refine wpAnyH_take (i := 6) (v := .int .i64 (kk : Int)) rfl (by kernel_rfl) (by kernel_rfl) (by kernel_rfl) (fun _ _ _ h => h) (Or.inl ⟨by kernel_rfl, ?_⟩) hS ?_
    · intro w hw; clear hw; go_simp
    change wpAnyH _ _ _ _ _ _ _ (Act.put _ (some 66) _) _
    simp only [Act.put, List.setIfInBounds_toArray, List.set_cons_succ, List.set_cons_zero]
    refine wpAnyH_take (i := 7) (v := .slice (some ⟨b4, o4 + kk, none⟩) (256 - kk) (c4 - kk)) rfl (by kernel_rfl) (by kernel_rfl) (by kernel_rfl) (fun _ _ _ h => h) (Or.inl ⟨by kernel_rfl, ?_⟩) hS ?_
    · intro w hw; clear hw; go_simp
    change wpAnyH _ _ _ _ _ _ _ (Act.put _ (some 67) _) _
    simp only [Act.put, List.setIfInBounds_toArray, List.set_cons_succ, List.set_cons_zero]
    refine wpAnyH_ready (rs := [0]) (by kernel_rfl) (by simp) ?_
    refine AllReadyH.cons rfl (fun K hK => ?_) AllReadyH.nil
    go_simp
    go_wp2_with fail
    refine hK.out _ _ (trivial) (fun hS => ?_)
    clear hK K
    skip
    refine wpAnyH_ready (rs := [4]) (by kernel_rfl) (by simp) ?_
    refine AllReadyH.cons rfl (fun K hK => ?_) AllReadyH.nil
    refine step_append_bytes rfl (.tmp 60) (.tmp 63) rfl w4.heap.size (.slice (some ⟨w4.heap.size, 0, none⟩) 0 0) 0 [] rfl HOE.out b3 o3 kk c3 _ rfl HSA.out (by omega) (by simp) ?_
    intro v5 w5 hown5 hgrow5
    rw [Nat.zero_add, List.nil_append] at hown5
    have hb5 := HBE.out.grown hgrow5 (by simp) (fun kk2 hkk2 => (HOE.out.lt kk2 hkk2).1)
    refine hK.out _ _ (trivial) (fun hS => ?_)
    clear hK K
    change wpAnyH _ _ _ _ _ _ _ (Act.put _ (some 64) _) _
    simp only [Act.put, List.setIfInBounds_toArray, List.set_cons_succ, List.set_cons_zero]
    refine wpAnyH_ready (rs := [8]) (by kernel_rfl) (by simp) ?_
    refine AllReadyH.cons rfl (fun K hK => ?_) AllReadyH.nil
    refine step_append_bytes rfl (.tmp 64) (.tmp 67) rfl w4.heap.size v5 _ _ rfl hown5 b4 (o4 + kk) (256 - kk) (c4 - kk) _ rfl (HSB.out.stays hb5) (by omega) hb5.size ?_
    intro v6 w6x hown6 hgrow6
    have hb6x := hb5.grown hgrow6 hb5.size (fun kk2 hkk2 => (hown5.lt kk2 hkk2).1)
    refine hK.out _ _ (trivial) (fun hS => ?_)
    clear hK K
    change wpAnyH _ _ _ _ _ _ _ (Act.put _ (some 68) _) _
    simp only [Act.put, List.setIfInBounds_toArray, List.set_cons_succ, List.set_cons_zero]
    refine wpAnyH_take (i := 9) (v := v6) rfl (by kernel_rfl) (by kernel_rfl) (by kernel_rfl) (fun _ _ _ h => h) (Or.inl ⟨by kernel_rfl, ?_⟩) hS ?_
    · intro w hw; clear hw; go_simp
    change wpAnyH _ _ _ _ _ _ _ (Act.put _ (some 12) _) _
    simp only [Act.put, List.setIfInBounds_toArray, List.set_cons_succ, List.set_cons_zero]
    refine wpAnyH_done (by kernel_rfl) ?_ _
    rw [← U_append, HCU.out] at hown6
    obtain ⟨b5, _, hs5⟩ := own_sl hown6
    have HSC := hid2 hs5
    have HB5 := hid2 (HB4.out.trans (hb6x.mono HB4.out.size))
    have HPA := hid2 (HPA4.out.below hb6x)
    have HPB := hid2 (HPB4.out.below hb6x)
    obtain ⟨pc, cc, hv5, _, _⟩ := hs5.form
    rw [U_length, HCL.out] at hv5
    subst hv5
    clear hown5 hgrow5 hb5 hown6 hgrow6 hb6x hs5 HOE HSA HSB HBE
    go_wp2_with fail
    refine (get_any HSC.out HCB.out).mono ?_
    rintro e w6 ⟨rv6, rfl, b6, p6, c6, u6, _, hrv6, hs6, hf6, hb6⟩
    subst hrv6
    have hb6a : Below w6.heap.size w6 (w6.alloc (.cells #[.int .i64 ((getP C).2.1 : Int), .int .i64 ((getP C).2.2.1 : Int), .slice p6 (getP C).2.2.2.length c6] 24)) := by go_grown
    have hb6b := hb6.trans (hb6a.mono hb6.size)
    have HF6 := hid2 (hf6.below hb6a)
    have HB6 := hid2 (HB5.out.trans (hb6b.mono HB5.out.size))
    have HSC6 := hid2 (HSC.out.stays hb6b)
    have HPA6 := hid2 ((HPA.out.below hb6b).sl)
    have HPB6 := hid2 ((HPB.out.below hb6b).sl)
    clear hs6 hf6 hb6 hb6a hb6b
    generalize (getP C).2.1 = t1 at *
    generalize (getP C).2.2.1 = t2 at *
    generalize (getP C).2.2.2.length = t3 at *
    generalize (getP C).1 = code at *
    by_cases h8 : code = 8
    · subst h8
      go_wp2_with fail
      refine (of_code (HE.out.below HB6.out) HF6.out).mono ?_
      rintro e w7 ⟨rfl, hb7⟩
      have HF7 := hid2 (HF6.out.below hb7)
      have HB7 := hid2 (HB6.out.trans (hb7.mono HB6.out.size))
      have HSC7 := hid2 (HSC6.out.stays hb7)

      clear hb7
      go_wp2_with fail
      refine (works_any _ (HE.out.below HB7.out)).mono ?_
      rintro e wz ⟨rfl, hbz⟩
      go_wp2
      go_ret
      exact ⟨rfl, HB7.out.trans (hbz.mono HB7.out.size)⟩
    · have e8 : (code == 8) = false := by simpa using h8
      have hor : C = PA ∨ C = PB := by
        rcases HT.out with h | h
        · exact absurd h h8
        · exact h
      clear h8
      go_wp2_with fail
      refine (of_code (HE.out.below HB6.out) HF6.out).mono ?_
      rintro e w7 ⟨rfl, hb7⟩
      have HF7 := hid2 (HF6.out.below hb7)
      have HB7 := hid2 (HB6.out.trans (hb7.mono HB6.out.size))
      have HSC7 := hid2 (HSC6.out.stays hb7)
      have HPA7 := hid2 (HPA6.out.stays hb7)
      have HPB7 := hid2 (HPB6.out.stays hb7)
      clear hb7
      by_cases hA : C = PA
      · have HKS : Hid (Calls Tryd.prog 11 #[.slice pc 256 cc, .slice (some ⟨b3, o3, none⟩) 256 c3] w7 fun e w' => e = .returned (.bool true) ∧ ∃ m, w' = w7.drewN m) := by
          have := same_any HSC7.out HPA7.out
          rw [decide_eq_true hA] at this
          exact this
        clear hor hA
        go_wp2_with fail
        refine (show Calls _ _ _ _ _ from HKS).mono ?_
        rintro e w9 ⟨rfl, m9, rfl⟩
        have HB9 : Hid (Below w.heap.size w (w7.drewN m9)) := HB7.out.trans (below_drewN _ _ _)
        go_wp2_with fail
        refine (works_any _ (HE.out.below HB9.out)).mono ?_
        rintro e wz ⟨rfl, hbz⟩
        go_wp2
        go_ret
        exact ⟨rfl, HB9.out.trans (hbz.mono HB9.out.size)⟩
      · have hB : C = PB := hor.resolve_left hA
        have HKS : Hid (Calls Tryd.prog 11 #[.slice pc 256 cc, .slice (some ⟨b3, o3, none⟩) 256 c3] w7 fun e w' => e = .returned (.bool false) ∧ ∃ m, w' = w7.drewN m) := by
          have := same_any HSC7.out HPA7.out
          rw [decide_eq_false hA] at this
          exact this
        have HKT : Hid (∀ m, Calls Tryd.prog 11 #[.slice pc 256 cc, .slice (some ⟨b4, o4, none⟩) 256 c4] (w7.drewN m) fun e w' => e = .returned (.bool true) ∧ ∃ n, w' = (w7.drewN m).drewN n) := by
          intro m
          have := same_any (HSC7.out.stays (below_drewN w7 m _)) (HPB7.out.stays (below_drewN w7 m _))
          rw [decide_eq_true hB] at this
          exact this
        clear hor hA hB
        go_wp2_with fail
        refine (show Calls _ _ _ _ _ from HKS).mono ?_
        rintro e w9 ⟨rfl, m9, rfl⟩
        go_wp2_with fail
        refine (HKT.out m9).mono ?_
        rintro e w10 ⟨rfl, m10, rfl⟩
        have HB9 : Hid (Below w.heap.size w (w7.drewN (m9 + m10))) := HB7.out.trans (below_drewN _ _ _)
        go_wp2_with fail
        refine (works_any _ (HE.out.below HB9.out)).mono ?_
        rintro e wz ⟨rfl, hbz⟩
        go_wp2
        go_ret
        exact ⟨rfl, HB9.out.trans (hbz.mono HB9.out.size)⟩
/-- The sentence's function answers true, whatever comes in. -/
theorem torn_any {w : World} {b b' : Nat} {p p' : Option Addr} {cap cap' cut : Nat} {s k s' k' : Int} {l l' : List Nat} (h : SlAt w b (.slice p l.length cap) (U l)) (h' : SlAt w b' (.slice p' l'.length cap') (U l')) (hby : Byt l) (hby' : Byt l') (hcut : cut < 65536) (hE : ErrT w) :
    Calls Tryd.prog 6 #[.agg #[.int .i64 s, .int .i64 k, .slice p l.length cap], .agg #[.int .i64 s', .int .i64 k', .slice p' l'.length cap'], .int .u16 (cut : Int)] w fun e w' => e = .returned (.bool true) ∧ Below w.heap.size w w' := by
  by_cases h0 : checkC s k l.length = 0
  · by_cases h1 : checkC s' k' l'.length = 0
    · by_cases hs : s = s'
      · exact torn_out hE (.inr (.inr hs))
      · have a0 := check_zero h0
        have a1 := check_zero h1
        obtain ⟨s, rfl⟩ := Int.eq_ofNat_of_zero_le (show 0 ≤ s by omega)
        obtain ⟨k, rfl⟩ := Int.eq_ofNat_of_zero_le (show 0 ≤ k by omega)
        obtain ⟨s', rfl⟩ := Int.eq_ofNat_of_zero_le (show 0 ≤ s' by omega)
        obtain ⟨k', rfl⟩ := Int.eq_ofNat_of_zero_le (show 0 ≤ k' by omega)
        exact torn_good h h' hby hby' hcut hE h0 h1 (by omega)
    · exact torn_out hE (.inr (.inl h1))
  · exact torn_out hE (.inl h0)
end Go.Proofs.YtcdcdlofgeoonaaDoor
