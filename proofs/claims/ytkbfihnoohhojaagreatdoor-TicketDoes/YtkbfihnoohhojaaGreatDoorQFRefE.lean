/-
  The document's side: settle.
-/
import Derived.Test.YtkbfihnoohhojaaGreatDoorQFRefD
import Derived.Deep.RegionHeld3
namespace Go.Proofs.YtkbfihnoohhojaaGreatDoor.Fla
open Go.RowKit

set_option maxHeartbeats 1000000 in
set_option maxRecDepth 10000 in
theorem settle_not {w : World} {cv bv : Value} {cs : List Cl} {c : Chg} (hC : CellsAt w cv cs) (hN : NilOk cv) (hb : BAt w bv c.p) (keep : Int) (ht : c.trim = true) (hk : keep < 256) :
    Calls Tryz.prog 47 #[cv, .agg #[.int .i64 c.at_, bv, .bool c.trim], .int .i64 keep] w fun e w' => ∃ v cs', e = .returned v ∧ CellsAt w' v cs' ∧ NilOk v ∧ plainC cs' = rsettle (plainC cs) c keep ∧ cs'.length ≤ cs.length + 1 ∧ Below w.heap.size w w' := by
  obtain ⟨bp, bcap, rfl, _, _⟩ := hb.form
  obtain ⟨cp, ccap, rfl, _, _, _⟩ := hC.each
  have HT : Hid (c.trim = true) := ht
  rw [ht]
  have e0 : decide (keep < 256) = true := by simpa using hk
  clear ht
  go_enter Tryz.func47, Tryz.ntmps47
  go_wp2
  go_ret
  exact ⟨_, cs, rfl, hC.below (by go_grown), hN, by unfold rsettle; rw [if_pos HT.out, if_pos hk], by omega, by go_grown⟩

set_option maxHeartbeats 2000000 in
set_option maxRecDepth 10000 in
theorem settle_trim {w : World} {cv bv : Value} {cs : List Cl} {c : Chg} (hC : CellsAt w cv cs) (hN : NilOk cv) (hb : BAt w bv c.p) (hl : cs.length ≤ 5000) (keep : Int) (ht : c.trim = true) (hk : ¬ keep < 256) :
    Calls Tryz.prog 47 #[cv, .agg #[.int .i64 c.at_, bv, .bool c.trim], .int .i64 keep] w fun e w' => ∃ v cs', e = .returned v ∧ CellsAt w' v cs' ∧ NilOk v ∧ plainC cs' = rsettle (plainC cs) c keep ∧ cs'.length ≤ cs.length + 1 ∧ Below w.heap.size w w' := by
  obtain ⟨bp, bcap, rfl, _, _⟩ := hb.form
  obtain ⟨cp, ccap, rfl, _, _, _⟩ := hC.each
  have HT : Hid (c.trim = true) := ht
  rw [ht]
  have e0 : decide (keep < 256) = false := by simpa using hk
  have hmk := Tryz.make46
  have HX1 : Hid ((w.alloc (.cells #[.int .i64 c.at_, .slice bp c.p.length bcap, .bool true] 105)).drew.heap[w.heap.size]? = some (.cells #[.int .i64 c.at_, .slice bp c.p.length bcap, .bool true] 105 (0, 0))) := heap_alloc_last w _
  have HX2 : Hid (((w.alloc (.cells #[.int .i64 c.at_, .slice bp c.p.length bcap, .bool true] 105)).alloc (.cells (pgV zeros) 5)).drew.heap[w.heap.size]? = some (.cells #[.int .i64 c.at_, .slice bp c.p.length bcap, .bool true] 105 (0, 0))) := heap_alloc_old (heap_alloc_last w _) _
  have HB2 : Hid (Below w.heap.size w ((w.alloc (.cells #[.int .i64 c.at_, .slice bp c.p.length bcap, .bool true] 105)).alloc (.cells (pgV zeros) 5)).drew) := by show Below _ _ _; go_grown
  have HC2 : Hid (CellsAt ((w.alloc (.cells #[.int .i64 c.at_, .slice bp c.p.length bcap, .bool true] 105)).alloc (.cells (pgV zeros) 5)).drew (.slice cp cs.length ccap) cs) := hC.below HB2.out
  have HZ2 : Hid (BAt ((w.alloc (.cells #[.int .i64 c.at_, .slice bp c.p.length bcap, .bool true] 105)).alloc (.cells (pgV zeros) 5)).drew (.slice (some ⟨w.heap.size + 1, 0, none⟩) 256 256) zeros) := zeros_row (by have := heap_alloc_last (w.alloc (.cells #[.int .i64 c.at_, .slice bp c.p.length bcap, .bool true] 105)) (.cells (pgV zeros) 5); show ((w.alloc (.cells #[.int .i64 c.at_, .slice bp c.p.length bcap, .bool true] 105)).alloc (.cells (pgV zeros) 5)).heap[w.heap.size + 1]? = _; simpa using this)
  clear ht hC
  go_enter Tryz.func47, Tryz.ntmps47
  go_wp2_with fail
  refine wp_region_held_drew (S := fun w' => w'.heap[w.heap.size]? = some (.cells #[.int .i64 c.at_, .slice bp c.p.length bcap, .bool true] 105 (0, 0))) (by kernel_rfl) (HX1.out) (fun hS => ?_)
  change wpAnyH _ _ _ _ _ _ _ _ (World.drew _)
  refine wpAnyH_take (i := 0) (v := .slice cp cs.length ccap) rfl (by kernel_rfl) (by kernel_rfl) (by kernel_rfl) (fun _ _ _ h => h) (Or.inl ⟨by kernel_rfl, ?_⟩) hS ?_
  · intro w hw; clear hw; go_simp
  change wpAnyH _ _ _ _ _ _ _ (Act.put _ (some 15) _) _
  simp only [Act.put, List.setIfInBounds_toArray, List.set_cons_succ, List.set_cons_zero]
  refine wpAnyH_take (i := 1) (v := .pointer (some ⟨w.heap.size, 0, none⟩)) rfl (by kernel_rfl) (by kernel_rfl) (by kernel_rfl) (fun _ _ _ h => h) (Or.inl ⟨by kernel_rfl, ?_⟩) hS ?_
  · intro w hw; clear hw; go_simp
  change wpAnyH _ _ _ _ _ _ _ (Act.put _ (some 16) _) _
  simp only [Act.put, List.setIfInBounds_toArray, List.set_cons_succ, List.set_cons_zero]
  refine wpAnyH_take (i := 2) (v := .int .i64 c.at_) rfl (by kernel_rfl) (by kernel_rfl) (by kernel_rfl) (fun _ _ _ h => h) (Or.inl ⟨by kernel_rfl, ?_⟩) hS ?_
  · intro W hw
    have q0 : W.cell? ⟨w.heap.size, 0, none⟩ = some (.int .i64 c.at_) := by simp [World.cell?, hw]
    clear hw
    go_simp
  change wpAnyH _ _ _ _ _ _ _ (Act.put _ (some 17) _) _
  simp only [Act.put, List.setIfInBounds_toArray, List.set_cons_succ, List.set_cons_zero]
  refine wpAnyH_ready (rs := [3]) (by kernel_rfl) (by simp) ?_
  refine AllReadyH.cons rfl (fun K hK => ?_) AllReadyH.nil
  go_simp
  refine hK.out _ _ (heap_alloc_old hS _) (fun hS => ?_)
  clear hK K
  skip
  refine wpAnyH_ready (rs := [4]) (by kernel_rfl) (by simp) ?_
  refine AllReadyH.cons rfl (fun K hK => ?_) AllReadyH.nil
  go_simp
  go_wp2_with (go_at_call 72; refine (put_any HC2.out hN HZ2.out hl c.at_).mono ?_; rintro e w3 ⟨v, cs2, rfl, k1, k2, k3, k4, k5⟩)
  refine hK.out _ _ (heap_stays HX2.out k5) (fun hS => ?_)
  clear hK K
  skip
  refine wpAnyH_take (i := 5) (v := v) rfl (by kernel_rfl) (by kernel_rfl) (by kernel_rfl) (fun _ _ _ h => h) (Or.inl ⟨by kernel_rfl, ?_⟩) hS ?_
  · intro w hw; clear hw; go_simp
  change wpAnyH _ _ _ _ _ _ _ (Act.put _ (some 6) _) _
  simp only [Act.put, List.setIfInBounds_toArray, List.set_cons_succ, List.set_cons_zero]
  refine wpAnyH_done (by kernel_rfl) ?_ _
  go_wp2
  go_ret
  refine ⟨_, cs2, rfl, k1, k2, ?_, k4, ?_⟩
  · rw [k3]; unfold rsettle; rw [if_pos HT.out, if_neg (by omega)]
  · exact HB2.out.trans (k5.mono HB2.out.size)

theorem mix_at {a b : List Nat} (ha : a.length = 256) (_hb : b.length = 256) (n : Int) {k : Nat} (hk : k < 256) : (mix a b n)[k]? = if (k : Int) < n then a[k]? else b[k]? := by
  have hc := clamp_le n
  unfold mix
  by_cases h : (k : Int) < n
  · have : k < clamp n := by unfold clamp; omega
    rw [if_pos h, List.getElem?_append_left (by rw [List.length_take]; omega), List.getElem?_take, if_pos this]
  · have : clamp n ≤ k := by unfold clamp; omega
    have hl : (a.take (clamp n)).length = clamp n := by rw [List.length_take]; omega
    rw [if_neg h, List.getElem?_append_right (by omega), hl, List.getElem?_drop]
    congr 1
    omega
theorem cell_one_new' (w : World) (x : Value) (e : TypeId) : ∀ j u, [x][j]? = some u → (w.alloc (.cells #[x] e)).cell? ((⟨w.heap.size, 0, none⟩ : Addr).add j) = some u := by
  intro j u hu
  rcases j with _ | j <;> simp_all [Addr.add]
theorem three {w : World} {g : Nat} {t : TypeId} {x0 x1 x2 : Value} (h : w.heap[g]? = some (.cells #[x0, x1, x2] t (0, 0))) :
    w.cell? ⟨g, 0, none⟩ = some x0 ∧ w.cell? ⟨g, 1, none⟩ = some x1 ∧ w.cell? ⟨g, 2, none⟩ = some x2 := by
  refine ⟨?_, ?_, ?_⟩ <;> simp [World.cell?, h]

set_option maxHeartbeats 2000000 in
set_option maxRecDepth 10000 in
theorem settle_write {w : World} {cv bv : Value} {cs : List Cl} {c : Chg} (hC : CellsAt w cv cs) (hN : NilOk cv) (hb : BAt w bv c.p) (hl : cs.length ≤ 5000) (keep : Int) (ht : c.trim = false) (hp : c.p.length = 256) (hW : (rsafe (plainC cs) c.at_).length = 256) :
    Calls Tryz.prog 47 #[cv, .agg #[.int .i64 c.at_, bv, .bool c.trim], .int .i64 keep] w fun e w' => ∃ v cs', e = .returned v ∧ CellsAt w' v cs' ∧ NilOk v ∧ plainC cs' = rsettle (plainC cs) c keep ∧ cs'.length ≤ cs.length + 1 ∧ Below w.heap.size w w' := by
  obtain ⟨bp, bcap, rfl, b2, b3⟩ := hb.form
  obtain ⟨cp, ccap, rfl, _, _, _⟩ := hC.each
  obtain ⟨i0, hi, hz0, hz1, hz2⟩ := info_of Tryz.info5m
  have HT : Hid (rsettle (plainC cs) c keep = rput (plainC cs) c.at_ (mix c.p (rsafe (plainC cs) c.at_) keep)) := by show _ = _; unfold rsettle; rw [ht]; simp
  have KS := safe_any (hC.below (w' := w.alloc (.cells #[.int .i64 c.at_, .slice bp c.p.length bcap, .bool false] 105)) (by go_grown)) c.at_
  rw [ht]
  generalize rsafe (plainC cs) c.at_ = W at *
  have HKS : Hid (Calls Tryz.prog 73 #[.slice cp cs.length ccap, .int .i64 c.at_] (w.alloc (.cells #[.int .i64 c.at_, .slice bp c.p.length bcap, .bool false] 105)) _) := KS
  have HC : Hid (CellsAt w (.slice cp cs.length ccap) cs) := hC
  have HP : Hid (c.p.length = 256) := hp
  have HW : Hid (W.length = 256) := hW
  have HBV : Hid (BAt w (.slice bp c.p.length bcap) c.p) := hb
  have HX1 : Hid ((w.alloc (.cells #[.int .i64 c.at_, .slice bp c.p.length bcap, .bool false] 105)).heap[w.heap.size]? = some (.cells #[.int .i64 c.at_, .slice bp c.p.length bcap, .bool false] 105 (0, 0))) := heap_alloc_last w _
  have hp1 : ((c.p.length : Nat) : Int) = 256 := by omega
  unfold maxLen at b3
  clear ht hC hb hp hW KS
  go_enter Tryz.func47, Tryz.ntmps47
  go_wp2_with (go_at_call 73; refine (show Calls _ _ _ _ _ from HKS).mono ?_; rintro e w2 ⟨u, rfl, hu, hb2⟩)
  have HX2 : Hid (w2.heap[w.heap.size]? = some (.cells #[.int .i64 c.at_, .slice bp c.p.length bcap, .bool false] 105 (0, 0))) := heap_stays HX1.out hb2
  have HB2 : Hid (Below w.heap.size w w2) := Below.trans (by go_grown) (hb2.mono (by simp))
  obtain ⟨up, ucap, hue, _, uc⟩ := hu.form
  subst hue
  have HU : Hid (BAt w2 (.slice up W.length ucap) W) := hu
  unfold maxLen at uc
  clear hb2 hu
  go_loopw [7, 9] (fun o i wr => ∃ k : Nat, i = .int .i64 (k : Int) ∧ k ≤ 256 ∧ wr.ownsRow w2.heap.size 5 1 o k (U ((mix c.p W keep).take k)) ∧ Below w2.heap.size w2 wr) (fun _ i _ => 256 - (intOf i).toNat)
  case atStart => exact ⟨0, rfl, by omega, World.ownsRow_nil _ _ _ _, Below.refl _ _⟩
  case round =>
    obtain ⟨k, rfl, hk, hown, hbr⟩ := hrel
    obtain ⟨c0, c1, c2⟩ := three (heap_stays HX2.out hbr)
    have hbx : w.heap.size < wr.heap.size := (Array.getElem?_eq_some_iff.1 (heap_stays HX2.out hbr)).1
    have HBR : Hid (Below w2.heap.size w2 wr) := hbr
    have HO : Hid (wr.ownsRow w2.heap.size 5 1 u7 k (U ((mix c.p W keep).take k))) := hown
    have HSA : Hid (∀ o, w2.heap.size ≤ (wr.alloc o).heap.size) := fun o => by rw [World.size_alloc]; have := hbr.size; omega
    have hbs := hbr.size
    have HBW : Hid (Below w.heap.size w wr) := HB2.out.trans (hbr.mono HB2.out.size)
    clear hown hbr
    by_cases hlt : k < 256
    · have hmx := mix_at HP.out HW.out keep hlt
      by_cases hkk : (k : Int) < keep
      · obtain ⟨x, hx⟩ : ∃ x, c.p[k]? = some x := ⟨_, List.getElem?_eq_getElem (by have := HP.out; omega)⟩
        have HMX : Hid ((mix c.p W keep)[k]? = some x) := by show _ = _; rw [hmx, if_pos hkk]; exact hx
        obtain ⟨p', cap', e', _, _, _, hel⟩ := (HBV.out.below HBW.out).each
        cases e'
        obtain ⟨bb, off, rfl, hbb, hcx⟩ := hel k _ (U_at hx)
        have HO2 : Hid ((wr.alloc (.cells #[.int .u8 (x : Int)] 5)).ownsRow w2.heap.size 5 1 u7 k (U ((mix c.p W keep).take k))) := HO.out.alloc _
        have HNW : Hid (∀ j u, [Value.int .u8 (x : Int)][j]? = some u → (wr.alloc (.cells #[.int .u8 (x : Int)] 5)).cell? ((⟨wr.heap.size, 0, none⟩ : Addr).add j) = some u) := cell_one_new' wr _ _
        have hpl : k < c.p.length := by have := HP.out; omega
        have hpi : (k : Int) < (c.p.length : Int) := by omega
        clear hel hx hmx
        go_wp2_with (at_builtin; refine wpList_append_own _ rfl (.tmp 31) (.tmp 37) 42 rfl w2.heap.size 5 i0 (.int .u8 0) 1 1 Tryz.underlying42 hi hz0 hz1 hz2 rfl (by decide) u7 k (U ((mix c.p W keep).take k)) rfl HO2.out ⟨wr.heap.size, 0, none⟩ 1 1 [.int .u8 (x : Int)] rfl rfl HNW.out (by intro y hy; simp at hy; subst hy; rfl) (by unfold maxLen; omega) (by omega) (HSA.out _) ?_; intro v3 w3 hown3 hgrow3 hnil3)
        have HB3 : Hid (Below w2.heap.size w2 w3) := (HBR.out.alloc HBR.out.size _).grown hgrow3 (HSA.out _) (fun k hk => (HO2.out.lt k hk).1)
        have HO3 : Hid (w3.ownsRow w2.heap.size 5 1 v3 (k + 1) (U ((mix c.p W keep).take k) ++ [.int .u8 (x : Int)])) := hown3
        clear hown3 hgrow3 hnil3
        go_wp2
        go_roundw
        case rel => exact ⟨k + 1, by go_num, by omega, by rw [take_snoc' HMX.out, U_append]; exact HO3.out, HB3.out⟩
        case measure => simp [intOf]; omega
      · obtain ⟨x, hx⟩ : ∃ x, W[k]? = some x := ⟨_, List.getElem?_eq_getElem (by have := HW.out; omega)⟩
        have HMX : Hid ((mix c.p W keep)[k]? = some x) := by show _ = _; rw [hmx, if_neg hkk]; exact hx
        obtain ⟨p', cap', e', _, _, _, hel⟩ := (HU.out.below HBR.out).each
        cases e'
        obtain ⟨bb, off, rfl, hbb, hcx⟩ := hel k _ (U_at hx)
        have hkd : decide ((k : Int) < keep) = false := by simpa using hkk
        have HO2 : Hid ((wr.alloc (.cells #[.int .u8 (x : Int)] 5)).ownsRow w2.heap.size 5 1 u7 k (U ((mix c.p W keep).take k))) := HO.out.alloc _
        have HNW : Hid (∀ j u, [Value.int .u8 (x : Int)][j]? = some u → (wr.alloc (.cells #[.int .u8 (x : Int)] 5)).cell? ((⟨wr.heap.size, 0, none⟩ : Addr).add j) = some u) := cell_one_new' wr _ _
        have hpl : k < W.length := by have := HW.out; omega
        have hpi : (k : Int) < (W.length : Int) := by omega
        clear hel hx hmx
        go_wp2_with (at_builtin; refine wpList_append_own _ rfl (.tmp 39) (.tmp 44) 42 rfl w2.heap.size 5 i0 (.int .u8 0) 1 1 Tryz.underlying42 hi hz0 hz1 hz2 rfl (by decide) u7 k (U ((mix c.p W keep).take k)) rfl HO2.out ⟨wr.heap.size, 0, none⟩ 1 1 [.int .u8 (x : Int)] rfl rfl HNW.out (by intro y hy; simp at hy; subst hy; rfl) (by unfold maxLen; omega) (by omega) (HSA.out _) ?_; intro v3 w3 hown3 hgrow3 hnil3)
        have HB3 : Hid (Below w2.heap.size w2 w3) := (HBR.out.alloc HBR.out.size _).grown hgrow3 (HSA.out _) (fun k hk => (HO2.out.lt k hk).1)
        have HO3 : Hid (w3.ownsRow w2.heap.size 5 1 v3 (k + 1) (U ((mix c.p W keep).take k) ++ [.int .u8 (x : Int)])) := hown3
        clear hown3 hgrow3 hnil3
        go_wp2
        go_roundw
        case rel => exact ⟨k + 1, by go_num, by omega, by rw [take_snoc' HMX.out, U_append]; exact HO3.out, HB3.out⟩
        case measure => simp [intOf]; omega
    · obtain rfl : k = 256 := by omega
      have HM : Hid (BAt wr u7 (mix c.p W keep)) := by
        have hml := mix_length HP.out HW.out keep
        have := own_row HO.out (by decide) (by decide)
        rw [List.take_of_length_le (by omega)] at this
        show RowAt _ _ _ _ _
        rw [hml]
        exact this
      have HCR : Hid (CellsAt wr (.slice cp cs.length ccap) cs) := HC.out.below HBW.out
      go_wp2_with (go_at_call 72; refine (put_any HCR.out hN HM.out hl c.at_).mono ?_; rintro e w3 ⟨v, cs2, rfl, k1, k2, k3, k4, k5⟩)
      go_ret
      exact ⟨_, cs2, rfl, k1, k2, by rw [HT.out, k3], k4, HBW.out.trans (k5.mono HBW.out.size)⟩

theorem settle_any {w : World} {cv bv : Value} {cs : List Cl} {c : Chg} (hC : CellsAt w cv cs) (hN : NilOk cv) (hb : BAt w bv c.p) (hl : cs.length ≤ 5000) (keep : Int) (hp : c.trim = false → c.p.length = 256) (hW : (rsafe (plainC cs) c.at_).length = 256) :
    Calls Tryz.prog 47 #[cv, .agg #[.int .i64 c.at_, bv, .bool c.trim], .int .i64 keep] w fun e w' => ∃ v cs', e = .returned v ∧ CellsAt w' v cs' ∧ NilOk v ∧ plainC cs' = rsettle (plainC cs) c keep ∧ cs'.length ≤ cs.length + 1 ∧ Below w.heap.size w w' := by
  cases ht : c.trim
  · have := settle_write hC hN hb hl keep ht (hp ht) hW
    rw [ht] at this
    exact this
  · by_cases hk : keep < 256
    · have := settle_not hC hN hb keep ht hk
      rw [ht] at this
      exact this
    · have := settle_trim hC hN hb hl keep ht hk
      rw [ht] at this
      exact this
end Go.Proofs.YtkbfihnoohhojaaGreatDoor.Fla
