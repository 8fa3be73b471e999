/-
  The walk of the law BloomHas.
-/
import Derived.Test.YtdoeneokblphnaaLawFilters
import Derived.Deep.RegionHeld3
namespace Go.Proofs.Ytdoeneokblphnaa
open Go.RowKit

theorem may_iff (f : Nat × Nat) (h : Nat) : mayF f h = true ↔ ∀ p ∈ places h, bitF f p = true := by unfold mayF; rw [List.all_eq_true]
theorem may_add {f : Nat × Nat} (n : Nat) {h : Nat} (hm : mayF f h = true) : mayF (addF f n) h = true := by
  rw [may_iff] at hm ⊢
  intro p hp
  unfold addF
  rw [bit_putAll, hm p hp, Bool.true_or]
theorem may_add_self (f : Nat × Nat) (n : Nat) : mayF (addF f n) n = true := by
  rw [may_iff]
  intro p hp
  unfold addF
  rw [bit_putAll]
  simp [hp]
theorem may_both_left {f g : Nat × Nat} {h : Nat} (hm : mayF f h = true) : mayF (bothF f g) h = true := by
  rw [may_iff] at hm ⊢
  intro p hp
  rw [bit_both, hm p hp, Bool.true_or]
theorem may_both_right {f g : Nat × Nat} {h : Nat} (hm : mayF g h = true) : mayF (bothF f g) h = true := by
  rw [may_iff] at hm ⊢
  intro p hp
  rw [bit_both, hm p hp, Bool.or_true]
theorem hs_mem {l : List ByteArray} {k : Nat} {x : ByteArray} (h : l[k]? = some x) : hash (bl x) ∈ hs l := List.mem_map.2 ⟨x, List.mem_of_getElem? h, rfl⟩

set_option maxHeartbeats 16000000 in
set_option maxRecDepth 10000 in
theorem has_any {w : World} {bl0 bm : Nat} {v u : Value} {l m : List ByteArray} (a : Nat) (ha : a < 256) (hl : SlAt w bl0 v (S l)) (hlk : ∀ k ∈ l, k.size ≤ maxLen) (hm : SlAt w bm u (S m)) (hmk : ∀ k ∈ m, k.size ≤ maxLen) :
    Calls Try.prog 5 #[v, u, .int .u8 (a : Int)] w fun e w' => e = .returned (.bool true) ∧ Below w.heap.size w w' := by
  have KW := hid2 (works_any w)
  have S1 := hid2 (short_any hl hlk)
  have S2 := hid2 (short_any hm hmk)
  obtain ⟨pl, cl, hul, hcl1, hcl2, hell⟩ := hl.each
  obtain ⟨pm, cm, hum, hcm1, hcm2, helm⟩ := hm.each
  rw [S_length] at hul hcl1 hum hcm1
  unfold maxLen at hcl2 hcm2
  subst hul
  subst hum
  cases h1 : shortB l
  · rw [h1] at S1
    clear h1
    go_enter Try.func5, Try.ntmps5
    go_wp2_with fail
    refine (show Calls _ _ _ _ _ from S1.out).mono ?_
    rintro e w1 ⟨rfl, hw⟩
    cases hw
    go_wp2_with fail
    refine (show Calls _ _ _ _ _ from KW.out).mono ?_
    rintro e w1 ⟨rfl, hw⟩
    go_wp2
    go_ret
    exact ⟨rfl, hw⟩
  · cases h2 : shortB m
    · rw [h1] at S1
      rw [h2] at S2
      clear h1 h2
      go_enter Try.func5, Try.ntmps5
      go_wp2_with fail
      refine (show Calls _ _ _ _ _ from S1.out).mono ?_
      rintro e w1 ⟨rfl, hw⟩
      cases hw
      go_wp2_with fail
      refine (show Calls _ _ _ _ _ from S2.out).mono ?_
      rintro e w1 ⟨rfl, hw⟩
      cases hw
      go_wp2_with fail
      refine (show Calls _ _ _ _ _ from KW.out).mono ?_
      rintro e w1 ⟨rfl, hw⟩
      go_wp2
      go_ret
      exact ⟨rfl, hw⟩
    · rcases Nat.eq_zero_or_pos l.length with h0 | h0
      · rw [h1] at S1
        rw [h2] at S2
        rw [h0] at S1 ⊢
        clear h1 h2
        go_enter Try.func5, Try.ntmps5
        go_wp2_with fail
        refine (show Calls _ _ _ _ _ from S1.out).mono ?_
        rintro e w1 ⟨rfl, hw⟩
        cases hw
        go_wp2_with fail
        refine (show Calls _ _ _ _ _ from S2.out).mono ?_
        rintro e w1 ⟨rfl, hw⟩
        cases hw
        go_wp2_with fail
        refine (show Calls _ _ _ _ _ from KW.out).mono ?_
        rintro e w1 ⟨rfl, hw⟩
        go_wp2
        go_ret
        exact ⟨rfl, hw⟩
      · have l60 := short_len h1
        have m60 := short_len h2
        have lk : Hid (∀ k ∈ l, k.size ≤ 200) := fun k hk => by
          obtain ⟨i, hi⟩ := List.mem_iff_getElem?.1 hk
          exact short_key h1 hi
        have mk : Hid (∀ k ∈ m, k.size ≤ 200) := fun k hk => by
          obtain ⟨i, hi⟩ := List.mem_iff_getElem?.1 hk
          exact short_key h2 hi
        rw [h1] at S1
        rw [h2] at S2
        have hlt : a % l.length < l.length := Nat.mod_lt _ h0
        obtain ⟨q, hq⟩ : ∃ q, q = a % l.length := ⟨_, rfl⟩
        have hqi : ((a : Int) % (l.length : Int)) = (q : Int) := by rw [hq]; rfl
        rw [← hq] at hlt
        obtain ⟨x, hx⟩ : ∃ x, l[q]? = some x := ⟨l[q], List.getElem?_eq_getElem hlt⟩
        obtain ⟨off, rfl, hlb, hce⟩ := hell q _ (S_at hx)
        have hx2 : x.size ≤ 1000 := Nat.le_trans (lk.out x (List.mem_of_getElem? hx)) (by omega)
        have hmem := hs_mem hx
        have KH0 := fun W => hash_any W x hx2
        have hh := hash_lt (bl x)
        generalize hash (bl x) = h at *
        have KH := hid2 KH0
        obtain ⟨fx, fy, hf⟩ := pair_split (ofF (hs l))
        obtain ⟨gx, gy, hg⟩ := pair_split (ofF (hs m))
        have wf := wide_ofF (hs l)
        have wg := wide_ofF (hs m)
        have mf := may_mem hmem
        rw [hf] at wf mf
        rw [hg] at wg
        have hf1 : fx < 18446744073709551616 := wf.1
        have hf2 : fy < 18446744073709551616 := wf.2
        have wb1 := wide_both wf wg
        have wb2 := wide_both wg wf
        have KM0 := fun W => may_any W fx fy h hf1 hf2 hh
        have KN10 := fun W => may_any W (fx ||| gx) (fy ||| gy) h wb1.1 wb1.2 hh
        have KN20 := fun W => may_any W (gx ||| fx) (gy ||| fy) h wb2.1 wb2.2 hh
        rw [mf] at KM0
        rw [show mayF (fx ||| gx, fy ||| gy) h = true from may_both_left (f := (fx, fy)) (g := (gx, gy)) mf] at KN10
        rw [show mayF (gx ||| fx, gy ||| fy) h = true from may_both_right (f := (gx, gy)) (g := (fx, fy)) mf] at KN20
        have KM := hid2 KM0
        have KN1 := hid2 KN10
        have KN2 := hid2 KN20
        have KB1 := hid2 (fun W => both_any W fx fy gx gy wf.1 wf.2 wg.1 wg.2)
        have KB2 := hid2 (fun W => both_any W gx gy fx fy wg.1 wg.2 wf.1 wf.2)
        generalize fx ||| gx = bx1 at *
        generalize fy ||| gy = by1 at *
        generalize gx ||| fx = bx2 at *
        generalize gy ||| fy = by2 at *
        have HMF := hid2 mf
        have KG := hid2 (fun W (h : SlAt W bm (.slice pm m.length cm) (S m)) => of_any h mk.out (by omega) hg)
        have KF := hid2 (of_any hl lk.out (by omega) hf)
        have HMW := hid2 hm
        have EM : Hid (∀ (k : Nat) (x : ByteArray), m[k]? = some x → ∃ off, pm = some ⟨bm, off, none⟩ ∧ bm < w.heap.size ∧ w.cell? ⟨bm, off + k, none⟩ = some (.string x)) := fun k x hx => helm k _ (S_at hx)
        have hle : ¬ ((l.length : Int) = 0) := by omega
        have hle2 : ((l.length : Int) == 0) = false := by rw [beq_eq_false_iff_ne]; omega
        clear h1 h2 hf hg hl hm KW hlk hmk hell helm wf wg wb1 wb2 mf KM0 KN10 KN20 KH0 hmem hx hq
        go_enter Try.func5, Try.ntmps5
        go_wp2_with fail
        refine (show Calls _ _ _ _ _ from S1.out).mono ?_
        rintro e w1 ⟨rfl, hw⟩
        cases hw
        go_wp2_with fail
        refine (show Calls _ _ _ _ _ from S2.out).mono ?_
        rintro e w1 ⟨rfl, hw⟩
        cases hw
        clear S1 S2
        go_wp2_with fail
        refine (show Calls _ _ _ _ _ from KH.out _).mono ?_
        rintro e w1 ⟨rfl, hw⟩
        cases hw
        go_wp2_with fail
        refine (show Calls _ _ _ _ _ from KF.out).mono ?_
        rintro e w2 ⟨rfl, B2⟩
        have A2 : Below w2.heap.size w2 (w2.alloc (.cells #[.int .u64 (fx : Int), .int .u64 (fy : Int)] 33)) := by go_grown
        have HB8 := hid2 (B2.trans (A2.mono B2.size))
        have HM := hid2 (HMW.out.stays HB8.out)
        have HZ := hid2 (heap_alloc_new w2 (.cells #[.int .u64 (fx : Int), .int .u64 (fy : Int)] 33))
        have HTB0 : Hid (w.heap.size ≤ w2.heap.size) := B2.size
        clear A2 B2 KF KH hce hlb hlt hqi
        go_wp2_with fail
        obtain ⟨w8, hw8⟩ : ∃ w8, w8 = w2.alloc (.cells #[.int .u64 (fx : Int), .int .u64 (fy : Int)] 33) := ⟨_, rfl⟩
        obtain ⟨tb, htb⟩ : ∃ tb, tb = w2.heap.size := ⟨_, rfl⟩
        rw [← hw8] at HB8 HM HZ ⊢
        have HTB : Hid (w.heap.size ≤ tb) := by show _ ≤ _; rw [htb]; exact HTB0.out
        rw [← htb] at HZ ⊢
        have HS8 : Hid (w8.drew.heap[tb]? = some (.cells #[.int .u64 (fx : Int), .int .u64 (fy : Int)] 33 (0, 0))) := HZ.out
        clear hw8 htb HZ HTB0
        refine wp_region_held_drew (S := fun W => W.heap[tb]? = some (.cells #[.int .u64 (fx : Int), .int .u64 (fy : Int)] 33 (0, 0))) (by kernel_rfl) (HS8.out) (fun hS => ?_)
        change wpAnyH _ _ _ _ _ _ _ _ (World.drew _)
        have D8 : Below w8.heap.size w8 (World.drew w8) := (Below.refl _ _).drew
        refine wpAnyH_take (i := 0) (v := .agg #[.int .u64 (fx : Int), .int .u64 (fy : Int)]) rfl (by kernel_rfl) (by kernel_rfl) (by kernel_rfl) (fun _ _ _ h => h) (Or.inl ⟨by kernel_rfl, ?_⟩) hS ?_
        · intro w hw
          obtain ⟨⟨e0, e1⟩, _⟩ := two33 hw
          have e2 := lt_of_block hw
          go_simp
        change wpAnyH _ _ _ _ _ _ _ (Act.put _ (some 35) _) _
        simp only [Act.put, List.setIfInBounds_toArray, List.set_cons_succ, List.set_cons_zero]
        refine wpAnyH_take (i := 1) (v := .int .u64 (h : Int)) rfl (by kernel_rfl) (by kernel_rfl) (by kernel_rfl) (fun _ _ _ h => h) (Or.inl ⟨by kernel_rfl, ?_⟩) hS ?_
        · intro w hw; clear hw; go_simp
        change wpAnyH _ _ _ _ _ _ _ (Act.put _ (some 36) _) _
        simp only [Act.put, List.setIfInBounds_toArray, List.set_cons_succ, List.set_cons_zero]
        refine wpAnyH_ready (rs := [2]) (by kernel_rfl) (by simp) ?_
        refine AllReadyH.cons rfl (fun K hK => ?_) AllReadyH.nil
        go_simp
        go_wp2_with (go_at_call 19; refine (show Calls _ _ _ _ _ from KM.out _).mono ?_; rintro en w9 ⟨rfl, B9⟩)
        have D9 := D8.trans (B9.mono D8.size)
        refine hK.out _ _ (heap_stays hS B9) (fun hS => ?_)
        clear hK K
        skip
        refine wpAnyH_take (i := 3) (v := .bool false) rfl (by kernel_rfl) (by kernel_rfl) (by kernel_rfl) (fun _ _ _ h => h) (Or.inl ⟨by kernel_rfl, ?_⟩) hS ?_
        · intro w hw; clear hw; go_simp
        change wpAnyH _ _ _ _ _ _ _ (Act.put _ (some 38) _) _
        simp only [Act.put, List.setIfInBounds_toArray, List.set_cons_succ, List.set_cons_zero]
        refine wpAnyH_take (i := 4) (v := .bool false) rfl (by kernel_rfl) (by kernel_rfl) (by kernel_rfl) (fun _ _ _ h => h) (Or.inl ⟨by kernel_rfl, ?_⟩) hS ?_
        · intro w hw; clear hw; go_simp
        change wpAnyH _ _ _ _ _ _ _ (Act.put _ (some 39) _) _
        simp only [Act.put, List.setIfInBounds_toArray, List.set_cons_succ, List.set_cons_zero]
        refine wpAnyH_take (i := 5) (v := .agg #[.int .u64 (fx : Int), .int .u64 (fy : Int)]) rfl (by kernel_rfl) (by kernel_rfl) (by kernel_rfl) (fun _ _ _ h => h) (Or.inl ⟨by kernel_rfl, ?_⟩) hS ?_
        · intro w hw
          obtain ⟨⟨e0, e1⟩, _⟩ := two33 hw
          have e2 := lt_of_block hw
          go_simp
        change wpAnyH _ _ _ _ _ _ _ (Act.put _ (some 40) _) _
        simp only [Act.put, List.setIfInBounds_toArray, List.set_cons_succ, List.set_cons_zero]
        refine wpAnyH_take (i := 6) (v := .slice pm m.length cm) rfl (by kernel_rfl) (by kernel_rfl) (by kernel_rfl) (fun _ _ _ h => h) (Or.inl ⟨by kernel_rfl, ?_⟩) hS ?_
        · intro w hw; clear hw; go_simp
        change wpAnyH _ _ _ _ _ _ _ (Act.put _ (some 41) _) _
        simp only [Act.put, List.setIfInBounds_toArray, List.set_cons_succ, List.set_cons_zero]
        refine wpAnyH_take (i := 9) (v := .int .u64 (h : Int)) rfl (by kernel_rfl) (by kernel_rfl) (by kernel_rfl) (fun _ _ _ h => h) (Or.inl ⟨by kernel_rfl, ?_⟩) hS ?_
        · intro w hw; clear hw; go_simp
        change wpAnyH _ _ _ _ _ _ _ (Act.put _ (some 44) _) _
        simp only [Act.put, List.setIfInBounds_toArray, List.set_cons_succ, List.set_cons_zero]
        refine wpAnyH_ready (rs := [7]) (by kernel_rfl) (by simp) ?_
        refine AllReadyH.cons rfl (fun K hK => ?_) AllReadyH.nil
        go_simp
        go_wp2_with (go_at_call 17; refine (show Calls _ _ _ _ _ from KG.out _ (HM.out.stays D9)).mono ?_; rintro en w10 ⟨rfl, B10⟩)
        have D10 := D9.trans (B10.mono D9.size)
        refine hK.out _ _ (heap_stays hS B10) (fun hS => ?_)
        clear hK K
        skip
        refine wpAnyH_ready (rs := [8]) (by kernel_rfl) (by simp) ?_
        refine AllReadyH.cons rfl (fun K hK => ?_) AllReadyH.nil
        go_simp
        go_wp2_with (go_at_call 18; refine (show Calls _ _ _ _ _ from KB1.out _).mono ?_; rintro en w11 ⟨rfl, B11⟩)
        have D11 := D10.trans (B11.mono D10.size)
        refine hK.out _ _ (heap_stays hS B11) (fun hS => ?_)
        clear hK K
        skip
        refine wpAnyH_ready (rs := [10]) (by kernel_rfl) (by simp) ?_
        refine AllReadyH.cons rfl (fun K hK => ?_) AllReadyH.nil
        go_simp
        go_wp2_with (go_at_call 19; refine (show Calls _ _ _ _ _ from KN1.out _).mono ?_; rintro en w12 ⟨rfl, B12⟩)
        have D12 := D11.trans (B12.mono D11.size)
        refine hK.out _ _ (heap_stays hS B12) (fun hS => ?_)
        clear hK K
        skip
        refine wpAnyH_take (i := 11) (v := .bool false) rfl (by kernel_rfl) (by kernel_rfl) (by kernel_rfl) (fun _ _ _ h => h) (Or.inl ⟨by kernel_rfl, ?_⟩) hS ?_
        · intro w hw; clear hw; go_simp
        change wpAnyH _ _ _ _ _ _ _ (Act.put _ (some 46) _) _
        simp only [Act.put, List.setIfInBounds_toArray, List.set_cons_succ, List.set_cons_zero]
        refine wpAnyH_take (i := 12) (v := .bool false) rfl (by kernel_rfl) (by kernel_rfl) (by kernel_rfl) (fun _ _ _ h => h) (Or.inl ⟨by kernel_rfl, ?_⟩) hS ?_
        · intro w hw; clear hw; go_simp
        change wpAnyH _ _ _ _ _ _ _ (Act.put _ (some 47) _) _
        simp only [Act.put, List.setIfInBounds_toArray, List.set_cons_succ, List.set_cons_zero]
        refine wpAnyH_take (i := 13) (v := .bool false) rfl (by kernel_rfl) (by kernel_rfl) (by kernel_rfl) (fun _ _ _ h => h) (Or.inl ⟨by kernel_rfl, ?_⟩) hS ?_
        · intro w hw; clear hw; go_simp
        change wpAnyH _ _ _ _ _ _ _ (Act.put _ (some 48) _) _
        simp only [Act.put, List.setIfInBounds_toArray, List.set_cons_succ, List.set_cons_zero]
        refine wpAnyH_take (i := 14) (v := .slice pm m.length cm) rfl (by kernel_rfl) (by kernel_rfl) (by kernel_rfl) (fun _ _ _ h => h) (Or.inl ⟨by kernel_rfl, ?_⟩) hS ?_
        · intro w hw; clear hw; go_simp
        change wpAnyH _ _ _ _ _ _ _ (Act.put _ (some 49) _) _
        simp only [Act.put, List.setIfInBounds_toArray, List.set_cons_succ, List.set_cons_zero]
        refine wpAnyH_take (i := 16) (v := .agg #[.int .u64 (fx : Int), .int .u64 (fy : Int)]) rfl (by kernel_rfl) (by kernel_rfl) (by kernel_rfl) (fun _ _ _ h => h) (Or.inl ⟨by kernel_rfl, ?_⟩) hS ?_
        · intro w hw
          obtain ⟨⟨e0, e1⟩, _⟩ := two33 hw
          have e2 := lt_of_block hw
          go_simp
        change wpAnyH _ _ _ _ _ _ _ (Act.put _ (some 51) _) _
        simp only [Act.put, List.setIfInBounds_toArray, List.set_cons_succ, List.set_cons_zero]
        refine wpAnyH_take (i := 18) (v := .int .u64 (h : Int)) rfl (by kernel_rfl) (by kernel_rfl) (by kernel_rfl) (fun _ _ _ h => h) (Or.inl ⟨by kernel_rfl, ?_⟩) hS ?_
        · intro w hw; clear hw; go_simp
        change wpAnyH _ _ _ _ _ _ _ (Act.put _ (some 53) _) _
        simp only [Act.put, List.setIfInBounds_toArray, List.set_cons_succ, List.set_cons_zero]
        refine wpAnyH_ready (rs := [15]) (by kernel_rfl) (by simp) ?_
        refine AllReadyH.cons rfl (fun K hK => ?_) AllReadyH.nil
        go_simp
        go_wp2_with (go_at_call 17; refine (show Calls _ _ _ _ _ from KG.out _ (HM.out.stays D12)).mono ?_; rintro en w13 ⟨rfl, B13⟩)
        have D13 := D12.trans (B13.mono D12.size)
        refine hK.out _ _ (heap_stays hS B13) (fun hS => ?_)
        clear hK K
        skip
        refine wpAnyH_ready (rs := [17]) (by kernel_rfl) (by simp) ?_
        refine AllReadyH.cons rfl (fun K hK => ?_) AllReadyH.nil
        go_simp
        go_wp2_with (go_at_call 18; refine (show Calls _ _ _ _ _ from KB2.out _).mono ?_; rintro en w14 ⟨rfl, B14⟩)
        have D14 := D13.trans (B14.mono D13.size)
        refine hK.out _ _ (heap_stays hS B14) (fun hS => ?_)
        clear hK K
        skip
        refine wpAnyH_ready (rs := [19]) (by kernel_rfl) (by simp) ?_
        refine AllReadyH.cons rfl (fun K hK => ?_) AllReadyH.nil
        go_simp
        go_wp2_with (go_at_call 19; refine (show Calls _ _ _ _ _ from KN2.out _).mono ?_; rintro en w15 ⟨rfl, B15⟩)
        have D15 := D14.trans (B15.mono D14.size)
        refine hK.out _ _ (heap_stays hS B15) (fun hS => ?_)
        clear hK K
        skip
        refine wpAnyH_take (i := 20) (v := .bool false) rfl (by kernel_rfl) (by kernel_rfl) (by kernel_rfl) (fun _ _ _ h => h) (Or.inl ⟨by kernel_rfl, ?_⟩) hS ?_
        · intro w hw; clear hw; go_simp
        change wpAnyH _ _ _ _ _ _ _ (Act.put _ (some 55) _) _
        simp only [Act.put, List.setIfInBounds_toArray, List.set_cons_succ, List.set_cons_zero]
        refine wpAnyH_take (i := 21) (v := .bool false) rfl (by kernel_rfl) (by kernel_rfl) (by kernel_rfl) (fun _ _ _ h => h) (Or.inl ⟨by kernel_rfl, ?_⟩) hS ?_
        · intro w hw; clear hw; go_simp
        change wpAnyH _ _ _ _ _ _ _ (Act.put _ (some 56) _) _
        simp only [Act.put, List.setIfInBounds_toArray, List.set_cons_succ, List.set_cons_zero]
        refine wpAnyH_done (by kernel_rfl) ?_ _
        have HZ9 := hid2 hS
        have HB9 := hid2 (HB8.out.trans (D15.mono HB8.out.size))
        have HW9 : Hid (w.heap.size ≤ tb) := HTB
        clear hS
        go_wp2_with fail
        go_loopg [9] m.length (fun gk i wr => ∃ k fx fy : Nat, k ≤ m.length ∧ gk = m.length - k ∧ i = .int .i64 k ∧ fx < 18446744073709551616 ∧ fy < 18446744073709551616 ∧ wr.heap[tb]? = some (.cells #[.int .u64 (fx : Int), .int .u64 (fy : Int)] 33 (0, 0)) ∧ mayF (fx, fy) h = true ∧ Below w.heap.size w wr)
        case atStart => exact ⟨0, fx, fy, Nat.zero_le _, rfl, rfl, hf1, hf2, HZ9.out, HMF.out, HB9.out⟩
        case round =>
          clear hf1 hf2
          obtain ⟨k, f', g', hk, hgk, rfl, hf, hg, h1, hmay, hbr⟩ := hrel
          have HG := hid2 hgk
          have H1 := hid2 h1
          have HBR := hid2 hbr
          clear hgk
          by_cases hlt : k < m.length
          · obtain ⟨x, hx⟩ : ∃ x, m[k]? = some x := ⟨m[k], List.getElem?_eq_getElem hlt⟩
            obtain ⟨off, rfl, hcl, hce⟩ := EM.out k x hx
            have hx2 : x.size ≤ 1000 := Nat.le_trans (mk.out x (List.mem_of_getElem? hx)) (by omega)
            have hce2 := (hbr.cell (p := ⟨bm, off + k, none⟩) hcl).trans hce
            have hcl2 : bm < wr.heap.size := Nat.lt_of_lt_of_le hcl hbr.size
            have HCE := hid2 hce
            have KX0 := fun W => hash_any W x hx2
            have hhx := hash_lt (bl x)
            generalize hash (bl x) = hx' at *
            obtain ⟨x1, y1, hA⟩ := addF_split (f', g') hx'
            have hw1 := wide_add (f := (f', g')) ⟨hf, hg⟩ hx'
            have hma := may_add (f := (f', g')) hx' hmay
            have hmb := may_add_self (f', g') hx'
            rw [hA] at hw1 hma hmb
            have KX := hid2 KX0
            have KAD := hid2 (fun W => add_any W f' g' hx' x1 y1 hf hg hhx hA)
            have KA10 := fun W => may_any W x1 y1 h hw1.1 hw1.2 hh
            have KA20 := fun W => may_any W x1 y1 hx' hw1.1 hw1.2 hhx
            rw [hma] at KA10
            rw [hmb] at KA20
            have KA1 := hid2 KA10
            have KA2 := hid2 KA20
            have HMA := hid2 hma
            obtain ⟨⟨q0, q1⟩, _⟩ := two33 h1
            have hlt1 := lt_of_block h1
            clear hA hx hce h1 hbr hmay hma hmb KX0 KA10 KA20
            go_wp2_with fail
            refine wp_region_any (by kernel_rfl) ?_
            change wpAny _ _ _ _ _ _ _ (World.drew _)
            refine wpAny_take (i := 1) (v := .slice (some ⟨bm, off, none⟩) m.length cm) rfl (by kernel_rfl) (by kernel_rfl) (by kernel_rfl) (fun _ _ _ h => h) (Or.inl ⟨by kernel_rfl, ?_⟩) ?_
            · intro w; go_simp
            change wpAny _ _ _ _ _ _ (Act.put _ (some 64) _) _
            simp only [Act.put, List.setIfInBounds_toArray, List.set_cons_succ, List.set_cons_zero]
            refine wpAny_take (i := 2) (v := .int .i64 (k : Int)) rfl (by kernel_rfl) (by kernel_rfl) (by kernel_rfl) (fun _ _ _ h => h) (Or.inl ⟨by kernel_rfl, ?_⟩) ?_
            · intro w; go_simp
            change wpAny _ _ _ _ _ _ (Act.put _ (some 65) _) _
            simp only [Act.put, List.setIfInBounds_toArray, List.set_cons_succ, List.set_cons_zero]
            refine wpAny_take (i := 3) (v := .pointer (some ⟨bm, off + k, none⟩)) rfl (by kernel_rfl) (by kernel_rfl) (by kernel_rfl) (fun _ _ _ h => h) (Or.inl ⟨by kernel_rfl, ?_⟩) ?_
            · intro w; go_simp
            change wpAny _ _ _ _ _ _ (Act.put _ (some 66) _) _
            simp only [Act.put, List.setIfInBounds_toArray, List.set_cons_succ, List.set_cons_zero]
            refine wpAny_ready (rs := [0, 4]) (by kernel_rfl) (by simp) ?_
            refine AllReady.cons rfl (fun K hK => ?_) (AllReady.cons rfl (fun K hK => ?_) AllReady.nil)
            · go_simp
              go_wp2_with (fail)
              refine wpAny_ready (rs := [4]) (by kernel_rfl) (by simp) ?_
              refine AllReady.cons rfl (fun K hK => ?_) AllReady.nil
              go_simp
              go_wp2_with (fail)
              refine wpAny_ready (rs := [5]) (by kernel_rfl) (by simp) ?_
              refine AllReady.cons rfl (fun K hK => ?_) AllReady.nil
              go_simp
              go_wp2_with (go_at_call 9; refine (show Calls _ _ _ _ _ from KX.out _).mono ?_; rintro e w2 ⟨rfl, hw2⟩; cases hw2)
              refine wpAny_ready (rs := [6]) (by kernel_rfl) (by simp) ?_
              refine AllReady.cons rfl (fun K hK => ?_) AllReady.nil
              go_simp
              go_wp2_with (go_at_call 23; refine (show Calls _ _ _ _ _ from KAD.out _).mono ?_; rintro e w3 ⟨rfl, B3⟩)
              have z3 := heap_stays (w := wr.drew) H1.out B3
              have D3 : Below w.heap.size w w3 := HBR.out.trans (((Below.refl wr.heap.size wr).drew.trans B3).mono HBR.out.size)
              refine wpAny_ready (rs := [7]) (by kernel_rfl) (by simp) ?_
              refine AllReady.cons rfl (fun K hK => ?_) AllReady.nil
              refine step_st33 rfl (.tmp 8) (.tmp 69) rfl tb rfl _ _ _ z3 rfl rfl ⟨rfl, rfl⟩ ?_
              intro w4 z4 g4
              refine hK _ _ ?_
              clear hK K
              simp only [Act.put]
              refine wpAny_done (by kernel_rfl) ?_ _
              have D4 := D3.grown g4 D3.size (fun k hk => by cases hk; exact HW9.out)
              have c4 := (D4.cell (p := ⟨bm, off + k, none⟩) hcl).trans HCE.out
              clear q0 q1 hlt1 hce2 z3 g4 D3 B3
              go_wp2_with fail
              refine wp_region_held_drew (S := fun W => W.heap[tb]? = some (.cells #[.int .u64 (x1 : Int), .int .u64 (y1 : Int)] 33 (0, 0)) ∧ W.cell? ⟨bm, off + k, none⟩ = some (.string x)) (by kernel_rfl) (⟨z4, c4⟩) (fun hS => ?_)
              change wpAnyH _ _ _ _ _ _ _ _ (World.drew _)
              have D20 : Below w4.heap.size w4 (World.drew w4) := (Below.refl _ _).drew
              refine wpAnyH_take (i := 0) (v := .agg #[.int .u64 (x1 : Int), .int .u64 (y1 : Int)]) rfl (by kernel_rfl) (by kernel_rfl) (by kernel_rfl) (fun _ _ _ h => h) (Or.inl ⟨by kernel_rfl, ?_⟩) hS ?_
              · intro w hw
                obtain ⟨s1, s2⟩ := hw
                obtain ⟨⟨e0, e1⟩, _⟩ := two33 s1
                have e2 := lt_of_block s1
                go_simp
              change wpAnyH _ _ _ _ _ _ _ (Act.put _ (some 70) _) _
              simp only [Act.put, List.setIfInBounds_toArray, List.set_cons_succ, List.set_cons_zero]
              refine wpAnyH_take (i := 1) (v := .int .u64 (h : Int)) rfl (by kernel_rfl) (by kernel_rfl) (by kernel_rfl) (fun _ _ _ h => h) (Or.inl ⟨by kernel_rfl, ?_⟩) hS ?_
              · intro w hw; clear hw; go_simp
              change wpAnyH _ _ _ _ _ _ _ (Act.put _ (some 71) _) _
              simp only [Act.put, List.setIfInBounds_toArray, List.set_cons_succ, List.set_cons_zero]
              refine wpAnyH_ready (rs := [2]) (by kernel_rfl) (by simp) ?_
              refine AllReadyH.cons rfl (fun K hK => ?_) AllReadyH.nil
              go_simp
              go_wp2_with (go_at_call 19; refine (show Calls _ _ _ _ _ from KA1.out _).mono ?_; rintro en w21 ⟨rfl, B21⟩)
              have D21 := D20.trans (B21.mono D20.size)
              refine hK.out _ _ (⟨heap_stays hS.1 B21, (B21.cell (World.block_lt_of_cell? _ _ hS.2)).trans hS.2⟩) (fun hS => ?_)
              clear hK K
              skip
              refine wpAnyH_take (i := 3) (v := .bool false) rfl (by kernel_rfl) (by kernel_rfl) (by kernel_rfl) (fun _ _ _ h => h) (Or.inl ⟨by kernel_rfl, ?_⟩) hS ?_
              · intro w hw; clear hw; go_simp
              change wpAnyH _ _ _ _ _ _ _ (Act.put _ (some 73) _) _
              simp only [Act.put, List.setIfInBounds_toArray, List.set_cons_succ, List.set_cons_zero]
              refine wpAnyH_take (i := 4) (v := .bool false) rfl (by kernel_rfl) (by kernel_rfl) (by kernel_rfl) (fun _ _ _ h => h) (Or.inl ⟨by kernel_rfl, ?_⟩) hS ?_
              · intro w hw; clear hw; go_simp
              change wpAnyH _ _ _ _ _ _ _ (Act.put _ (some 74) _) _
              simp only [Act.put, List.setIfInBounds_toArray, List.set_cons_succ, List.set_cons_zero]
              refine wpAnyH_take (i := 5) (v := .agg #[.int .u64 (x1 : Int), .int .u64 (y1 : Int)]) rfl (by kernel_rfl) (by kernel_rfl) (by kernel_rfl) (fun _ _ _ h => h) (Or.inl ⟨by kernel_rfl, ?_⟩) hS ?_
              · intro w hw
                obtain ⟨s1, s2⟩ := hw
                obtain ⟨⟨e0, e1⟩, _⟩ := two33 s1
                have e2 := lt_of_block s1
                go_simp
              change wpAnyH _ _ _ _ _ _ _ (Act.put _ (some 75) _) _
              simp only [Act.put, List.setIfInBounds_toArray, List.set_cons_succ, List.set_cons_zero]
              refine wpAnyH_take (i := 6) (v := .slice (some ⟨bm, off, none⟩) m.length cm) rfl (by kernel_rfl) (by kernel_rfl) (by kernel_rfl) (fun _ _ _ h => h) (Or.inl ⟨by kernel_rfl, ?_⟩) hS ?_
              · intro w hw; clear hw; go_simp
              change wpAnyH _ _ _ _ _ _ _ (Act.put _ (some 76) _) _
              simp only [Act.put, List.setIfInBounds_toArray, List.set_cons_succ, List.set_cons_zero]
              refine wpAnyH_take (i := 7) (v := .int .i64 (k : Int)) rfl (by kernel_rfl) (by kernel_rfl) (by kernel_rfl) (fun _ _ _ h => h) (Or.inl ⟨by kernel_rfl, ?_⟩) hS ?_
              · intro w hw; clear hw; go_simp
              change wpAnyH _ _ _ _ _ _ _ (Act.put _ (some 77) _) _
              simp only [Act.put, List.setIfInBounds_toArray, List.set_cons_succ, List.set_cons_zero]
              refine wpAnyH_take (i := 8) (v := .pointer (some ⟨bm, off + k, none⟩)) rfl (by kernel_rfl) (by kernel_rfl) (by kernel_rfl) (fun _ _ _ h => h) (Or.inl ⟨by kernel_rfl, ?_⟩) hS ?_
              · intro w hw; clear hw; go_simp
              change wpAnyH _ _ _ _ _ _ _ (Act.put _ (some 78) _) _
              simp only [Act.put, List.setIfInBounds_toArray, List.set_cons_succ, List.set_cons_zero]
              refine wpAnyH_take (i := 9) (v := .string x) rfl (by kernel_rfl) (by kernel_rfl) (by kernel_rfl) (fun _ _ _ h => h) (Or.inl ⟨by kernel_rfl, ?_⟩) hS ?_
              · intro w hw
                obtain ⟨s1, s2⟩ := hw
                go_simp
              change wpAnyH _ _ _ _ _ _ _ (Act.put _ (some 79) _) _
              simp only [Act.put, List.setIfInBounds_toArray, List.set_cons_succ, List.set_cons_zero]
              refine wpAnyH_ready (rs := [10]) (by kernel_rfl) (by simp) ?_
              refine AllReadyH.cons rfl (fun K hK => ?_) AllReadyH.nil
              go_simp
              go_wp2_with (go_at_call 9; refine (show Calls _ _ _ _ _ from KX.out _).mono ?_; rintro en wx ⟨rfl, hwx⟩; cases hwx)
              refine hK.out _ _ (hS) (fun hS => ?_)
              clear hK K
              skip
              refine wpAnyH_ready (rs := [11]) (by kernel_rfl) (by simp) ?_
              refine AllReadyH.cons rfl (fun K hK => ?_) AllReadyH.nil
              go_simp
              go_wp2_with (go_at_call 19; refine (show Calls _ _ _ _ _ from KA2.out _).mono ?_; rintro en w22 ⟨rfl, B22⟩)
              have D22 := D21.trans (B22.mono D21.size)
              refine hK.out _ _ (⟨heap_stays hS.1 B22, (B22.cell (World.block_lt_of_cell? _ _ hS.2)).trans hS.2⟩) (fun hS => ?_)
              clear hK K
              skip
              refine wpAnyH_take (i := 12) (v := .bool false) rfl (by kernel_rfl) (by kernel_rfl) (by kernel_rfl) (fun _ _ _ h => h) (Or.inl ⟨by kernel_rfl, ?_⟩) hS ?_
              · intro w hw; clear hw; go_simp
              change wpAnyH _ _ _ _ _ _ _ (Act.put _ (some 82) _) _
              simp only [Act.put, List.setIfInBounds_toArray, List.set_cons_succ, List.set_cons_zero]
              refine wpAnyH_take (i := 13) (v := .bool false) rfl (by kernel_rfl) (by kernel_rfl) (by kernel_rfl) (fun _ _ _ h => h) (Or.inl ⟨by kernel_rfl, ?_⟩) hS ?_
              · intro w hw; clear hw; go_simp
              change wpAnyH _ _ _ _ _ _ _ (Act.put _ (some 83) _) _
              simp only [Act.put, List.setIfInBounds_toArray, List.set_cons_succ, List.set_cons_zero]
              refine wpAnyH_done (by kernel_rfl) ?_ _
              go_wp2
              go_roundg (m.length - (k + 1))
              case measure => rw [HG.out]; omega
              case rel => exact ⟨k + 1, x1, y1, by omega, rfl, by go_num, hw1.1, hw1.2, hS.1, HMA.out, D4.trans (D22.mono D4.size)⟩
            · go_simp
              go_wp2_with (fail)
              refine wpAny_ready (rs := [0, 5]) (by kernel_rfl) (by simp) ?_
              refine AllReady.cons rfl (fun K hK => ?_) (AllReady.cons rfl (fun K hK => ?_) AllReady.nil)
              · go_simp
                go_wp2_with (fail)
                refine wpAny_ready (rs := [5]) (by kernel_rfl) (by simp) ?_
                refine AllReady.cons rfl (fun K hK => ?_) AllReady.nil
                go_simp
                go_wp2_with (go_at_call 9; refine (show Calls _ _ _ _ _ from KX.out _).mono ?_; rintro e w2 ⟨rfl, hw2⟩; cases hw2)
                refine wpAny_ready (rs := [6]) (by kernel_rfl) (by simp) ?_
                refine AllReady.cons rfl (fun K hK => ?_) AllReady.nil
                go_simp
                go_wp2_with (go_at_call 23; refine (show Calls _ _ _ _ _ from KAD.out _).mono ?_; rintro e w3 ⟨rfl, B3⟩)
                have z3 := heap_stays (w := wr.drew) H1.out B3
                have D3 : Below w.heap.size w w3 := HBR.out.trans (((Below.refl wr.heap.size wr).drew.trans B3).mono HBR.out.size)
                refine wpAny_ready (rs := [7]) (by kernel_rfl) (by simp) ?_
                refine AllReady.cons rfl (fun K hK => ?_) AllReady.nil
                refine step_st33 rfl (.tmp 8) (.tmp 69) rfl tb rfl _ _ _ z3 rfl rfl ⟨rfl, rfl⟩ ?_
                intro w4 z4 g4
                refine hK _ _ ?_
                clear hK K
                simp only [Act.put]
                refine wpAny_done (by kernel_rfl) ?_ _
                have D4 := D3.grown g4 D3.size (fun k hk => by cases hk; exact HW9.out)
                have c4 := (D4.cell (p := ⟨bm, off + k, none⟩) hcl).trans HCE.out
                clear q0 q1 hlt1 hce2 z3 g4 D3 B3
                go_wp2_with fail
                refine wp_region_held_drew (S := fun W => W.heap[tb]? = some (.cells #[.int .u64 (x1 : Int), .int .u64 (y1 : Int)] 33 (0, 0)) ∧ W.cell? ⟨bm, off + k, none⟩ = some (.string x)) (by kernel_rfl) (⟨z4, c4⟩) (fun hS => ?_)
                change wpAnyH _ _ _ _ _ _ _ _ (World.drew _)
                have D20 : Below w4.heap.size w4 (World.drew w4) := (Below.refl _ _).drew
                refine wpAnyH_take (i := 0) (v := .agg #[.int .u64 (x1 : Int), .int .u64 (y1 : Int)]) rfl (by kernel_rfl) (by kernel_rfl) (by kernel_rfl) (fun _ _ _ h => h) (Or.inl ⟨by kernel_rfl, ?_⟩) hS ?_
                · intro w hw
                  obtain ⟨s1, s2⟩ := hw
                  obtain ⟨⟨e0, e1⟩, _⟩ := two33 s1
                  have e2 := lt_of_block s1
                  go_simp
                change wpAnyH _ _ _ _ _ _ _ (Act.put _ (some 70) _) _
                simp only [Act.put, List.setIfInBounds_toArray, List.set_cons_succ, List.set_cons_zero]
                refine wpAnyH_take (i := 1) (v := .int .u64 (h : Int)) rfl (by kernel_rfl) (by kernel_rfl) (by kernel_rfl) (fun _ _ _ h => h) (Or.inl ⟨by kernel_rfl, ?_⟩) hS ?_
                · intro w hw; clear hw; go_simp
                change wpAnyH _ _ _ _ _ _ _ (Act.put _ (some 71) _) _
                simp only [Act.put, List.setIfInBounds_toArray, List.set_cons_succ, List.set_cons_zero]
                refine wpAnyH_ready (rs := [2]) (by kernel_rfl) (by simp) ?_
                refine AllReadyH.cons rfl (fun K hK => ?_) AllReadyH.nil
                go_simp
                go_wp2_with (go_at_call 19; refine (show Calls _ _ _ _ _ from KA1.out _).mono ?_; rintro en w21 ⟨rfl, B21⟩)
                have D21 := D20.trans (B21.mono D20.size)
                refine hK.out _ _ (⟨heap_stays hS.1 B21, (B21.cell (World.block_lt_of_cell? _ _ hS.2)).trans hS.2⟩) (fun hS => ?_)
                clear hK K
                skip
                refine wpAnyH_take (i := 3) (v := .bool false) rfl (by kernel_rfl) (by kernel_rfl) (by kernel_rfl) (fun _ _ _ h => h) (Or.inl ⟨by kernel_rfl, ?_⟩) hS ?_
                · intro w hw; clear hw; go_simp
                change wpAnyH _ _ _ _ _ _ _ (Act.put _ (some 73) _) _
                simp only [Act.put, List.setIfInBounds_toArray, List.set_cons_succ, List.set_cons_zero]
                refine wpAnyH_take (i := 4) (v := .bool false) rfl (by kernel_rfl) (by kernel_rfl) (by kernel_rfl) (fun _ _ _ h => h) (Or.inl ⟨by kernel_rfl, ?_⟩) hS ?_
                · intro w hw; clear hw; go_simp
                change wpAnyH _ _ _ _ _ _ _ (Act.put _ (some 74) _) _
                simp only [Act.put, List.setIfInBounds_toArray, List.set_cons_succ, List.set_cons_zero]
                refine wpAnyH_take (i := 5) (v := .agg #[.int .u64 (x1 : Int), .int .u64 (y1 : Int)]) rfl (by kernel_rfl) (by kernel_rfl) (by kernel_rfl) (fun _ _ _ h => h) (Or.inl ⟨by kernel_rfl, ?_⟩) hS ?_
                · intro w hw
                  obtain ⟨s1, s2⟩ := hw
                  obtain ⟨⟨e0, e1⟩, _⟩ := two33 s1
                  have e2 := lt_of_block s1
                  go_simp
                change wpAnyH _ _ _ _ _ _ _ (Act.put _ (some 75) _) _
                simp only [Act.put, List.setIfInBounds_toArray, List.set_cons_succ, List.set_cons_zero]
                refine wpAnyH_take (i := 6) (v := .slice (some ⟨bm, off, none⟩) m.length cm) rfl (by kernel_rfl) (by kernel_rfl) (by kernel_rfl) (fun _ _ _ h => h) (Or.inl ⟨by kernel_rfl, ?_⟩) hS ?_
                · intro w hw; clear hw; go_simp
                change wpAnyH _ _ _ _ _ _ _ (Act.put _ (some 76) _) _
                simp only [Act.put, List.setIfInBounds_toArray, List.set_cons_succ, List.set_cons_zero]
                refine wpAnyH_take (i := 7) (v := .int .i64 (k : Int)) rfl (by kernel_rfl) (by kernel_rfl) (by kernel_rfl) (fun _ _ _ h => h) (Or.inl ⟨by kernel_rfl, ?_⟩) hS ?_
                · intro w hw; clear hw; go_simp
                change wpAnyH _ _ _ _ _ _ _ (Act.put _ (some 77) _) _
                simp only [Act.put, List.setIfInBounds_toArray, List.set_cons_succ, List.set_cons_zero]
                refine wpAnyH_take (i := 8) (v := .pointer (some ⟨bm, off + k, none⟩)) rfl (by kernel_rfl) (by kernel_rfl) (by kernel_rfl) (fun _ _ _ h => h) (Or.inl ⟨by kernel_rfl, ?_⟩) hS ?_
                · intro w hw; clear hw; go_simp
                change wpAnyH _ _ _ _ _ _ _ (Act.put _ (some 78) _) _
                simp only [Act.put, List.setIfInBounds_toArray, List.set_cons_succ, List.set_cons_zero]
                refine wpAnyH_take (i := 9) (v := .string x) rfl (by kernel_rfl) (by kernel_rfl) (by kernel_rfl) (fun _ _ _ h => h) (Or.inl ⟨by kernel_rfl, ?_⟩) hS ?_
                · intro w hw
                  obtain ⟨s1, s2⟩ := hw
                  go_simp
                change wpAnyH _ _ _ _ _ _ _ (Act.put _ (some 79) _) _
                simp only [Act.put, List.setIfInBounds_toArray, List.set_cons_succ, List.set_cons_zero]
                refine wpAnyH_ready (rs := [10]) (by kernel_rfl) (by simp) ?_
                refine AllReadyH.cons rfl (fun K hK => ?_) AllReadyH.nil
                go_simp
                go_wp2_with (go_at_call 9; refine (show Calls _ _ _ _ _ from KX.out _).mono ?_; rintro en wx ⟨rfl, hwx⟩; cases hwx)
                refine hK.out _ _ (hS) (fun hS => ?_)
                clear hK K
                skip
                refine wpAnyH_ready (rs := [11]) (by kernel_rfl) (by simp) ?_
                refine AllReadyH.cons rfl (fun K hK => ?_) AllReadyH.nil
                go_simp
                go_wp2_with (go_at_call 19; refine (show Calls _ _ _ _ _ from KA2.out _).mono ?_; rintro en w22 ⟨rfl, B22⟩)
                have D22 := D21.trans (B22.mono D21.size)
                refine hK.out _ _ (⟨heap_stays hS.1 B22, (B22.cell (World.block_lt_of_cell? _ _ hS.2)).trans hS.2⟩) (fun hS => ?_)
                clear hK K
                skip
                refine wpAnyH_take (i := 12) (v := .bool false) rfl (by kernel_rfl) (by kernel_rfl) (by kernel_rfl) (fun _ _ _ h => h) (Or.inl ⟨by kernel_rfl, ?_⟩) hS ?_
                · intro w hw; clear hw; go_simp
                change wpAnyH _ _ _ _ _ _ _ (Act.put _ (some 82) _) _
                simp only [Act.put, List.setIfInBounds_toArray, List.set_cons_succ, List.set_cons_zero]
                refine wpAnyH_take (i := 13) (v := .bool false) rfl (by kernel_rfl) (by kernel_rfl) (by kernel_rfl) (fun _ _ _ h => h) (Or.inl ⟨by kernel_rfl, ?_⟩) hS ?_
                · intro w hw; clear hw; go_simp
                change wpAnyH _ _ _ _ _ _ _ (Act.put _ (some 83) _) _
                simp only [Act.put, List.setIfInBounds_toArray, List.set_cons_succ, List.set_cons_zero]
                refine wpAnyH_done (by kernel_rfl) ?_ _
                go_wp2
                go_roundg (m.length - (k + 1))
                case measure => rw [HG.out]; omega
                case rel => exact ⟨k + 1, x1, y1, by omega, rfl, by go_num, hw1.1, hw1.2, hS.1, HMA.out, D4.trans (D22.mono D4.size)⟩
              · go_simp
                go_wp2_with (go_at_call 9; refine (show Calls _ _ _ _ _ from KX.out _).mono ?_; rintro e w2 ⟨rfl, hw2⟩; cases hw2)
                refine wpAny_ready (rs := [0]) (by kernel_rfl) (by simp) ?_
                refine AllReady.cons rfl (fun K hK => ?_) AllReady.nil
                go_simp
                go_wp2_with (fail)
                refine wpAny_ready (rs := [6]) (by kernel_rfl) (by simp) ?_
                refine AllReady.cons rfl (fun K hK => ?_) AllReady.nil
                go_simp
                go_wp2_with (go_at_call 23; refine (show Calls _ _ _ _ _ from KAD.out _).mono ?_; rintro e w3 ⟨rfl, B3⟩)
                have z3 := heap_stays (w := wr.drew) H1.out B3
                have D3 : Below w.heap.size w w3 := HBR.out.trans (((Below.refl wr.heap.size wr).drew.trans B3).mono HBR.out.size)
                refine wpAny_ready (rs := [7]) (by kernel_rfl) (by simp) ?_
                refine AllReady.cons rfl (fun K hK => ?_) AllReady.nil
                refine step_st33 rfl (.tmp 8) (.tmp 69) rfl tb rfl _ _ _ z3 rfl rfl ⟨rfl, rfl⟩ ?_
                intro w4 z4 g4
                refine hK _ _ ?_
                clear hK K
                simp only [Act.put]
                refine wpAny_done (by kernel_rfl) ?_ _
                have D4 := D3.grown g4 D3.size (fun k hk => by cases hk; exact HW9.out)
                have c4 := (D4.cell (p := ⟨bm, off + k, none⟩) hcl).trans HCE.out
                clear q0 q1 hlt1 hce2 z3 g4 D3 B3
                go_wp2_with fail
                refine wp_region_held_drew (S := fun W => W.heap[tb]? = some (.cells #[.int .u64 (x1 : Int), .int .u64 (y1 : Int)] 33 (0, 0)) ∧ W.cell? ⟨bm, off + k, none⟩ = some (.string x)) (by kernel_rfl) (⟨z4, c4⟩) (fun hS => ?_)
                change wpAnyH _ _ _ _ _ _ _ _ (World.drew _)
                have D20 : Below w4.heap.size w4 (World.drew w4) := (Below.refl _ _).drew
                refine wpAnyH_take (i := 0) (v := .agg #[.int .u64 (x1 : Int), .int .u64 (y1 : Int)]) rfl (by kernel_rfl) (by kernel_rfl) (by kernel_rfl) (fun _ _ _ h => h) (Or.inl ⟨by kernel_rfl, ?_⟩) hS ?_
                · intro w hw
                  obtain ⟨s1, s2⟩ := hw
                  obtain ⟨⟨e0, e1⟩, _⟩ := two33 s1
                  have e2 := lt_of_block s1
                  go_simp
                change wpAnyH _ _ _ _ _ _ _ (Act.put _ (some 70) _) _
                simp only [Act.put, List.setIfInBounds_toArray, List.set_cons_succ, List.set_cons_zero]
                refine wpAnyH_take (i := 1) (v := .int .u64 (h : Int)) rfl (by kernel_rfl) (by kernel_rfl) (by kernel_rfl) (fun _ _ _ h => h) (Or.inl ⟨by kernel_rfl, ?_⟩) hS ?_
                · intro w hw; clear hw; go_simp
                change wpAnyH _ _ _ _ _ _ _ (Act.put _ (some 71) _) _
                simp only [Act.put, List.setIfInBounds_toArray, List.set_cons_succ, List.set_cons_zero]
                refine wpAnyH_ready (rs := [2]) (by kernel_rfl) (by simp) ?_
                refine AllReadyH.cons rfl (fun K hK => ?_) AllReadyH.nil
                go_simp
                go_wp2_with (go_at_call 19; refine (show Calls _ _ _ _ _ from KA1.out _).mono ?_; rintro en w21 ⟨rfl, B21⟩)
                have D21 := D20.trans (B21.mono D20.size)
                refine hK.out _ _ (⟨heap_stays hS.1 B21, (B21.cell (World.block_lt_of_cell? _ _ hS.2)).trans hS.2⟩) (fun hS => ?_)
                clear hK K
                skip
                refine wpAnyH_take (i := 3) (v := .bool false) rfl (by kernel_rfl) (by kernel_rfl) (by kernel_rfl) (fun _ _ _ h => h) (Or.inl ⟨by kernel_rfl, ?_⟩) hS ?_
                · intro w hw; clear hw; go_simp
                change wpAnyH _ _ _ _ _ _ _ (Act.put _ (some 73) _) _
                simp only [Act.put, List.setIfInBounds_toArray, List.set_cons_succ, List.set_cons_zero]
                refine wpAnyH_take (i := 4) (v := .bool false) rfl (by kernel_rfl) (by kernel_rfl) (by kernel_rfl) (fun _ _ _ h => h) (Or.inl ⟨by kernel_rfl, ?_⟩) hS ?_
                · intro w hw; clear hw; go_simp
                change wpAnyH _ _ _ _ _ _ _ (Act.put _ (some 74) _) _
                simp only [Act.put, List.setIfInBounds_toArray, List.set_cons_succ, List.set_cons_zero]
                refine wpAnyH_take (i := 5) (v := .agg #[.int .u64 (x1 : Int), .int .u64 (y1 : Int)]) rfl (by kernel_rfl) (by kernel_rfl) (by kernel_rfl) (fun _ _ _ h => h) (Or.inl ⟨by kernel_rfl, ?_⟩) hS ?_
                · intro w hw
                  obtain ⟨s1, s2⟩ := hw
                  obtain ⟨⟨e0, e1⟩, _⟩ := two33 s1
                  have e2 := lt_of_block s1
                  go_simp
                change wpAnyH _ _ _ _ _ _ _ (Act.put _ (some 75) _) _
                simp only [Act.put, List.setIfInBounds_toArray, List.set_cons_succ, List.set_cons_zero]
                refine wpAnyH_take (i := 6) (v := .slice (some ⟨bm, off, none⟩) m.length cm) rfl (by kernel_rfl) (by kernel_rfl) (by kernel_rfl) (fun _ _ _ h => h) (Or.inl ⟨by kernel_rfl, ?_⟩) hS ?_
                · intro w hw; clear hw; go_simp
                change wpAnyH _ _ _ _ _ _ _ (Act.put _ (some 76) _) _
                simp only [Act.put, List.setIfInBounds_toArray, List.set_cons_succ, List.set_cons_zero]
                refine wpAnyH_take (i := 7) (v := .int .i64 (k : Int)) rfl (by kernel_rfl) (by kernel_rfl) (by kernel_rfl) (fun _ _ _ h => h) (Or.inl ⟨by kernel_rfl, ?_⟩) hS ?_
                · intro w hw; clear hw; go_simp
                change wpAnyH _ _ _ _ _ _ _ (Act.put _ (some 77) _) _
                simp only [Act.put, List.setIfInBounds_toArray, List.set_cons_succ, List.set_cons_zero]
                refine wpAnyH_take (i := 8) (v := .pointer (some ⟨bm, off + k, none⟩)) rfl (by kernel_rfl) (by kernel_rfl) (by kernel_rfl) (fun _ _ _ h => h) (Or.inl ⟨by kernel_rfl, ?_⟩) hS ?_
                · intro w hw; clear hw; go_simp
                change wpAnyH _ _ _ _ _ _ _ (Act.put _ (some 78) _) _
                simp only [Act.put, List.setIfInBounds_toArray, List.set_cons_succ, List.set_cons_zero]
                refine wpAnyH_take (i := 9) (v := .string x) rfl (by kernel_rfl) (by kernel_rfl) (by kernel_rfl) (fun _ _ _ h => h) (Or.inl ⟨by kernel_rfl, ?_⟩) hS ?_
                · intro w hw
                  obtain ⟨s1, s2⟩ := hw
                  go_simp
                change wpAnyH _ _ _ _ _ _ _ (Act.put _ (some 79) _) _
                simp only [Act.put, List.setIfInBounds_toArray, List.set_cons_succ, List.set_cons_zero]
                refine wpAnyH_ready (rs := [10]) (by kernel_rfl) (by simp) ?_
                refine AllReadyH.cons rfl (fun K hK => ?_) AllReadyH.nil
                go_simp
                go_wp2_with (go_at_call 9; refine (show Calls _ _ _ _ _ from KX.out _).mono ?_; rintro en wx ⟨rfl, hwx⟩; cases hwx)
                refine hK.out _ _ (hS) (fun hS => ?_)
                clear hK K
                skip
                refine wpAnyH_ready (rs := [11]) (by kernel_rfl) (by simp) ?_
                refine AllReadyH.cons rfl (fun K hK => ?_) AllReadyH.nil
                go_simp
                go_wp2_with (go_at_call 19; refine (show Calls _ _ _ _ _ from KA2.out _).mono ?_; rintro en w22 ⟨rfl, B22⟩)
                have D22 := D21.trans (B22.mono D21.size)
                refine hK.out _ _ (⟨heap_stays hS.1 B22, (B22.cell (World.block_lt_of_cell? _ _ hS.2)).trans hS.2⟩) (fun hS => ?_)
                clear hK K
                skip
                refine wpAnyH_take (i := 12) (v := .bool false) rfl (by kernel_rfl) (by kernel_rfl) (by kernel_rfl) (fun _ _ _ h => h) (Or.inl ⟨by kernel_rfl, ?_⟩) hS ?_
                · intro w hw; clear hw; go_simp
                change wpAnyH _ _ _ _ _ _ _ (Act.put _ (some 82) _) _
                simp only [Act.put, List.setIfInBounds_toArray, List.set_cons_succ, List.set_cons_zero]
                refine wpAnyH_take (i := 13) (v := .bool false) rfl (by kernel_rfl) (by kernel_rfl) (by kernel_rfl) (fun _ _ _ h => h) (Or.inl ⟨by kernel_rfl, ?_⟩) hS ?_
                · intro w hw; clear hw; go_simp
                change wpAnyH _ _ _ _ _ _ _ (Act.put _ (some 83) _) _
                simp only [Act.put, List.setIfInBounds_toArray, List.set_cons_succ, List.set_cons_zero]
                refine wpAnyH_done (by kernel_rfl) ?_ _
                go_wp2
                go_roundg (m.length - (k + 1))
                case measure => rw [HG.out]; omega
                case rel => exact ⟨k + 1, x1, y1, by omega, rfl, by go_num, hw1.1, hw1.2, hS.1, HMA.out, D4.trans (D22.mono D4.size)⟩
          · go_wp2_with fail
            refine (works_any wr).mono ?_
            rintro e w9 ⟨rfl, B9⟩
            go_wp2
            go_ret
            exact ⟨rfl, HBR.out.trans (B9.mono HBR.out.size)⟩
end Go.Proofs.Ytdoeneokblphnaa
