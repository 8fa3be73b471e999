/-
  The example that each law of this layer asks for.
-/
import Derived.Test.YtdoeneokblphnaaRMay
import Derived.Test.YtdoeneokblphnaaCount
import Derived.Deep.RegionHeld3
import Derived.Laws.StructEq
namespace Go.Proofs.Ytdoeneokblphnaa
open Go.RowKit

/-- Whether two filters are the same. -/
theorem eq33 (a b a' b' : Int) (w : World) : (Op.equalIn 10000 33 (.agg #[.int .u64 a, .int .u64 b]) (.agg #[.int .u64 a', .int .u64 b'])).run Try.prog w = .ok (a == a' && b == b') w := by
  have u22 := Try.underlying22
  have a22 := Try.isAgg22
  have z22 := Try.sizeOf22
  rw [show (10000 : Nat) = 9999 + 1 from rfl, Op.equalIn]
  simp only [Sem.run_bind, run_underlying Try.underlying33, Result.andThen_ok]
  simp only [Std.Legacy.Range.forIn_eq_forIn_range', Std.Legacy.Range.size, Nat.sub_zero, Nat.add_sub_cancel, Nat.div_one, List.range'_succ, List.range'_zero, List.forIn_cons, List.forIn_nil]
  go_simp
  by_cases h1 : a = a'
  · by_cases h2 : b = b' <;> simp [h1, h2]
  · simp [h1]

theorem pair_split (f : Nat × Nat) : ∃ x y, f = (x, y) := ⟨_, _, rfl⟩
/-- The example's keys. -/
def exK : List ByteArray := [⟨#[97]⟩, ⟨#[98]⟩]
theorem ex_count : 3 ≤ countF (ofF (hs exK)) ∧ countF (ofF (hs exK)) ≤ 6 := by
  have e : countF (ofF (hs exK)) = 6 := by kernel_rfl
  rw [e]; decide
theorem ex_may : mayF (ofF (hs exK)) (hash [97]) = true := may_mem (by simp [hs, exK, bl])
theorem sl_two_new (w : World) : SlAt (w.alloc (.cells #[.string ⟨#[97]⟩, .string ⟨#[98]⟩] 9)) w.heap.size (.slice (some ⟨w.heap.size, 0, none⟩) 2 2) (S exK) := by
  refine .inr ⟨_, 2, rfl, by simp [S, exK], by unfold maxLen; omega, .inr ⟨0, rfl, by simp, fun k u hk => ?_⟩⟩
  rw [World.cell?_alloc_at _ _ _ _ rfl, Nat.zero_add]
  rcases k with _ | _ | k
  · simp [S, exK] at hk ⊢; exact hk
  · simp [S, exK] at hk ⊢; exact hk
  · simp [S, exK] at hk

set_option maxHeartbeats 4000000 in
set_option maxRecDepth 10000 in
theorem works_any (w : World) : Calls Try.prog 8 #[] w fun e w' => e = .returned (.bool true) ∧ Below w.heap.size w w' := by
  obtain ⟨x, y, hxy⟩ := pair_split (ofF (hs exK))
  have hwd := wide_ofF (hs exK)
  rw [hxy] at hwd
  have hx : x < 18446744073709551616 := hwd.1
  have hy : y < 18446744073709551616 := hwd.2
  have hm := ex_may
  have hcn := ex_count
  rw [hxy] at hm hcn
  have CO := of_any (sl_two_new w) (by intro k hk; simp [exK] at hk; rcases hk with rfl | rfl <;> decide) (by decide) hxy
  have KO := hid2 CO
  have KH0 := fun W => hash_any W ⟨#[97]⟩ (by decide)
  have hal0 := hash_lt [97]
  rw [show bl ⟨#[97]⟩ = [97] from rfl] at KH0
  obtain ⟨ha, hha⟩ : ∃ ha, ha = hash [97] := ⟨_, rfl⟩
  rw [← hha] at KH0 hm hal0
  have hal : ha < 18446744073709551616 := hal0
  have KH := hid2 KH0
  have HM := hid2 hm
  have KC0 := fun W => count_any W x y hx hy
  obtain ⟨cn, hcn0⟩ : ∃ cn, cn = pop x + pop y := ⟨_, rfl⟩
  rw [← hcn0] at KC0
  have c3 : (3 : Int) ≤ (cn : Int) := by rw [hcn0]; exact_mod_cast hcn.1
  have c6 : (cn : Int) ≤ 6 := by rw [hcn0]; exact_mod_cast hcn.2
  have KC := hid2 KC0
  have KZ0 := fun W => may_any W 0 0 7 (by decide) (by decide) (by decide)
  rw [show mayF (0, 0) 7 = false by decide] at KZ0
  have KZ := hid2 KZ0
  have KS0 := fun W => slot_any W 10 7 (by decide) (by decide) (by decide)
  rw [show slotN 10 7 = 3 by decide] at KS0
  have KS := hid2 KS0
  have K10 := fun W => mix_any W 1 (by decide)
  have K20 := fun W => mix_any W 2 (by decide)
  have hm12 : mix 1 ≠ mix 2 := fun e => absurd (mix_inj (by decide) (by decide) e) (by decide)
  generalize mix 1 = m1 at *
  generalize mix 2 = m2 at *
  have hne : ((m1 : Int) != (m2 : Int)) = true := by simp; omega
  have K1 := hid2 K10
  have K2 := hid2 K20
  have KB0 := fun W => both_any W x y 0 0 hx hy (by decide) (by decide)
  rw [Nat.or_zero, Nat.or_zero] at KB0
  have KB := hid2 KB0
  have he := eq33 (x : Int) (y : Int) (x : Int) (y : Int)
  rw [show (((x : Int) == (x : Int)) && ((y : Int) == (y : Int))) = true by simp] at he
  clear hxy hwd hm hcn CO KH0 hal0 hha KC0 hcn0 KZ0 KS0 K10 K20 hm12 KB0
  go_enter Try.func8, Try.ntmps8
  go_wp2_with fail
  refine (show Calls _ _ _ _ _ from KO).mono ?_
  rintro e w1 ⟨rfl, B1⟩
  have B01 : Below w.heap.size w w1 := ((Below.refl _ _).alloc (Nat.le_refl _) _).trans (B1.mono (by simp))
  have HB01 := hid2 B01
  clear KO B1 B01
  go_wp2_with (refine st33 rfl (.tmp 1) (.tmp 3) rfl w1.heap.size rfl _ _ _ (heap_alloc_new w1 _) rfl rfl ⟨rfl, rfl⟩ ?_; intro w8 z8 g8)
  have X8 : Below w1.heap.size w1 w8 := ((Below.refl _ _).alloc (Nat.le_refl _) _).grown g8 (by simp) (fun k hk => by cases hk; exact Nat.le_refl _)
  have HB8 := hid2 (HB01.out.trans (X8.mono HB01.out.size))
  obtain ⟨tb, htb⟩ : ∃ tb, tb = w1.heap.size := ⟨_, rfl⟩
  rw [← htb] at z8 ⊢
  have HS8 : Hid (w8.drew.heap[tb]? = some (.cells #[.int .u64 (x : Int), .int .u64 (y : Int)] 33 (0, 0))) := z8
  clear z8 g8 X8 htb HB01
  refine wp_region_held_drew (S := fun W => W.heap[tb]? = some (.cells #[.int .u64 (x : Int), .int .u64 (y : Int)] 33 (0, 0))) (by kernel_rfl) (HS8.out) (fun hS => ?_)
  change wpAnyH _ _ _ _ _ _ _ _ (World.drew _)
  have D8 : Below w8.heap.size w8 (World.drew w8) := (Below.refl _ _).drew
  refine wpAnyH_take (i := 0) (v := .agg #[.int .u64 (x : Int), .int .u64 (y : Int)]) rfl (by kernel_rfl) (by kernel_rfl) (by kernel_rfl) (fun _ _ _ h => h) (Or.inl ⟨by kernel_rfl, ?_⟩) hS ?_
  · intro w hw
    obtain ⟨⟨e0, e1⟩, _⟩ := two33 hw
    have e2 := lt_of_block hw
    go_simp
  change wpAnyH _ _ _ _ _ _ _ (Act.put _ (some 4) _) _
  simp only [Act.put, List.setIfInBounds_toArray, List.set_cons_succ, List.set_cons_zero]
  refine wpAnyH_ready (rs := [1]) (by kernel_rfl) (by simp) ?_
  refine AllReadyH.cons rfl (fun K hK => ?_) AllReadyH.nil
  go_simp
  go_wp2_with (go_at_call 9; refine (show Calls _ _ _ _ _ from KH.out _).mono ?_; rintro en wx ⟨rfl, hwx⟩; cases hwx)
  refine hK.out _ _ (hS) (fun hS => ?_)
  clear hK K
  skip
  refine wpAnyH_ready (rs := [2]) (by kernel_rfl) (by simp) ?_
  refine AllReadyH.cons rfl (fun K hK => ?_) AllReadyH.nil
  go_simp
  go_wp2_with (go_at_call 19; refine (may_any _ x y ha hx hy hal).mono ?_; rintro en w9 ⟨rfl, B9⟩)
  rw [HM.out]
  have D9 := D8.trans (B9.mono D8.size)
  refine hK.out _ _ (heap_stays hS B9) (fun hS => ?_)
  clear hK K
  skip
  refine wpAnyH_take (i := 3) (v := .bool true) rfl (by kernel_rfl) (by kernel_rfl) (by kernel_rfl) (fun _ _ _ h => h) (Or.inl ⟨by kernel_rfl, ?_⟩) hS ?_
  · intro w hw; clear hw; go_simp
  change wpAnyH _ _ _ _ _ _ _ (Act.put _ (some 7) _) _
  simp only [Act.put, List.setIfInBounds_toArray, List.set_cons_succ, List.set_cons_zero]
  refine wpAnyH_take (i := 4) (v := .agg #[.int .u64 (x : Int), .int .u64 (y : Int)]) rfl (by kernel_rfl) (by kernel_rfl) (by kernel_rfl) (fun _ _ _ h => h) (Or.inl ⟨by kernel_rfl, ?_⟩) hS ?_
  · intro w hw
    obtain ⟨⟨e0, e1⟩, _⟩ := two33 hw
    have e2 := lt_of_block hw
    go_simp
  change wpAnyH _ _ _ _ _ _ _ (Act.put _ (some 8) _) _
  simp only [Act.put, List.setIfInBounds_toArray, List.set_cons_succ, List.set_cons_zero]
  refine wpAnyH_ready (rs := [5]) (by kernel_rfl) (by simp) ?_
  refine AllReadyH.cons rfl (fun K hK => ?_) AllReadyH.nil
  go_simp
  go_wp2_with (go_at_call 21; refine (show Calls _ _ _ _ _ from KC.out _).mono ?_; rintro en w10 ⟨rfl, B10⟩)
  have D10 := D9.trans (B10.mono D9.size)
  refine hK.out _ _ (heap_stays hS B10) (fun hS => ?_)
  clear hK K
  skip
  refine wpAnyH_take (i := 6) (v := .bool true) rfl (by kernel_rfl) (by kernel_rfl) (by kernel_rfl) (fun _ _ _ h => h) (Or.inl ⟨by kernel_rfl, ?_⟩) hS ?_
  · intro w hw; clear hw; go_simp
  change wpAnyH _ _ _ _ _ _ _ (Act.put _ (some 10) _) _
  simp only [Act.put, List.setIfInBounds_toArray, List.set_cons_succ, List.set_cons_zero]
  refine wpAnyH_take (i := 7) (v := .bool true) rfl (by kernel_rfl) (by kernel_rfl) (by kernel_rfl) (fun _ _ _ h => h) (Or.inl ⟨by kernel_rfl, ?_⟩) hS ?_
  · intro w hw; clear hw; go_simp
  change wpAnyH _ _ _ _ _ _ _ (Act.put _ (some 11) _) _
  simp only [Act.put, List.setIfInBounds_toArray, List.set_cons_succ, List.set_cons_zero]
  refine wpAnyH_take (i := 8) (v := .bool true) rfl (by kernel_rfl) (by kernel_rfl) (by kernel_rfl) (fun _ _ _ h => h) (Or.inl ⟨by kernel_rfl, ?_⟩) hS ?_
  · intro w hw; clear hw; go_simp
  change wpAnyH _ _ _ _ _ _ _ (Act.put _ (some 12) _) _
  simp only [Act.put, List.setIfInBounds_toArray, List.set_cons_succ, List.set_cons_zero]
  refine wpAnyH_take (i := 9) (v := .agg #[.int .u64 (x : Int), .int .u64 (y : Int)]) rfl (by kernel_rfl) (by kernel_rfl) (by kernel_rfl) (fun _ _ _ h => h) (Or.inl ⟨by kernel_rfl, ?_⟩) hS ?_
  · intro w hw
    obtain ⟨⟨e0, e1⟩, _⟩ := two33 hw
    have e2 := lt_of_block hw
    go_simp
  change wpAnyH _ _ _ _ _ _ _ (Act.put _ (some 13) _) _
  simp only [Act.put, List.setIfInBounds_toArray, List.set_cons_succ, List.set_cons_zero]
  refine wpAnyH_ready (rs := [10]) (by kernel_rfl) (by simp) ?_
  refine AllReadyH.cons rfl (fun K hK => ?_) AllReadyH.nil
  go_simp
  go_wp2_with (go_at_call 21; refine (show Calls _ _ _ _ _ from KC.out _).mono ?_; rintro en w11 ⟨rfl, B11⟩)
  have D11 := D10.trans (B11.mono D10.size)
  refine hK.out _ _ (heap_stays hS B11) (fun hS => ?_)
  clear hK K
  skip
  refine wpAnyH_take (i := 11) (v := .bool true) rfl (by kernel_rfl) (by kernel_rfl) (by kernel_rfl) (fun _ _ _ h => h) (Or.inl ⟨by kernel_rfl, ?_⟩) hS ?_
  · intro w hw; clear hw; go_simp
  change wpAnyH _ _ _ _ _ _ _ (Act.put _ (some 15) _) _
  simp only [Act.put, List.setIfInBounds_toArray, List.set_cons_succ, List.set_cons_zero]
  refine wpAnyH_take (i := 12) (v := .bool true) rfl (by kernel_rfl) (by kernel_rfl) (by kernel_rfl) (fun _ _ _ h => h) (Or.inl ⟨by kernel_rfl, ?_⟩) hS ?_
  · intro w hw; clear hw; go_simp
  change wpAnyH _ _ _ _ _ _ _ (Act.put _ (some 16) _) _
  simp only [Act.put, List.setIfInBounds_toArray, List.set_cons_succ, List.set_cons_zero]
  refine wpAnyH_take (i := 13) (v := .bool true) rfl (by kernel_rfl) (by kernel_rfl) (by kernel_rfl) (fun _ _ _ h => h) (Or.inl ⟨by kernel_rfl, ?_⟩) hS ?_
  · intro w hw; clear hw; go_simp
  change wpAnyH _ _ _ _ _ _ _ (Act.put _ (some 17) _) _
  simp only [Act.put, List.setIfInBounds_toArray, List.set_cons_succ, List.set_cons_zero]
  refine wpAnyH_take (i := 14) (v := .agg #[.int .u64 0, .int .u64 0]) rfl (by kernel_rfl) (by kernel_rfl) (by kernel_rfl) (fun _ _ _ h => h) (Or.inl ⟨by kernel_rfl, ?_⟩) hS ?_
  · intro w hw; clear hw; go_simp
  change wpAnyH _ _ _ _ _ _ _ (Act.put _ (some 18) _) _
  simp only [Act.put, List.setIfInBounds_toArray, List.set_cons_succ, List.set_cons_zero]
  refine wpAnyH_ready (rs := [15]) (by kernel_rfl) (by simp) ?_
  refine AllReadyH.cons rfl (fun K hK => ?_) AllReadyH.nil
  go_simp
  go_wp2_with (go_at_call 19; refine (show Calls _ _ _ _ _ from KZ.out _).mono ?_; rintro en w12 ⟨rfl, B12⟩)
  have D12 := D11.trans (B12.mono D11.size)
  refine hK.out _ _ (heap_stays hS B12) (fun hS => ?_)
  clear hK K
  skip
  refine wpAnyH_take (i := 16) (v := .bool true) rfl (by kernel_rfl) (by kernel_rfl) (by kernel_rfl) (fun _ _ _ h => h) (Or.inl ⟨by kernel_rfl, ?_⟩) hS ?_
  · intro w hw; clear hw; go_simp
  change wpAnyH _ _ _ _ _ _ _ (Act.put _ (some 20) _) _
  simp only [Act.put, List.setIfInBounds_toArray, List.set_cons_succ, List.set_cons_zero]
  refine wpAnyH_take (i := 17) (v := .bool true) rfl (by kernel_rfl) (by kernel_rfl) (by kernel_rfl) (fun _ _ _ h => h) (Or.inl ⟨by kernel_rfl, ?_⟩) hS ?_
  · intro w hw; clear hw; go_simp
  change wpAnyH _ _ _ _ _ _ _ (Act.put _ (some 21) _) _
  simp only [Act.put, List.setIfInBounds_toArray, List.set_cons_succ, List.set_cons_zero]
  refine wpAnyH_take (i := 18) (v := .bool true) rfl (by kernel_rfl) (by kernel_rfl) (by kernel_rfl) (fun _ _ _ h => h) (Or.inl ⟨by kernel_rfl, ?_⟩) hS ?_
  · intro w hw; clear hw; go_simp
  change wpAnyH _ _ _ _ _ _ _ (Act.put _ (some 22) _) _
  simp only [Act.put, List.setIfInBounds_toArray, List.set_cons_succ, List.set_cons_zero]
  refine wpAnyH_ready (rs := [19]) (by kernel_rfl) (by simp) ?_
  refine AllReadyH.cons rfl (fun K hK => ?_) AllReadyH.nil
  go_simp
  go_wp2_with (go_at_call 13; refine (show Calls _ _ _ _ _ from KS.out _).mono ?_; rintro en wx ⟨rfl, hwx⟩; cases hwx)
  refine hK.out _ _ (hS) (fun hS => ?_)
  clear hK K
  skip
  refine wpAnyH_take (i := 20) (v := .bool true) rfl (by kernel_rfl) (by kernel_rfl) (by kernel_rfl) (fun _ _ _ h => h) (Or.inl ⟨by kernel_rfl, ?_⟩) hS ?_
  · intro w hw; clear hw; go_simp
  change wpAnyH _ _ _ _ _ _ _ (Act.put _ (some 24) _) _
  simp only [Act.put, List.setIfInBounds_toArray, List.set_cons_succ, List.set_cons_zero]
  refine wpAnyH_take (i := 21) (v := .bool true) rfl (by kernel_rfl) (by kernel_rfl) (by kernel_rfl) (fun _ _ _ h => h) (Or.inl ⟨by kernel_rfl, ?_⟩) hS ?_
  · intro w hw; clear hw; go_simp
  change wpAnyH _ _ _ _ _ _ _ (Act.put _ (some 25) _) _
  simp only [Act.put, List.setIfInBounds_toArray, List.set_cons_succ, List.set_cons_zero]
  refine wpAnyH_take (i := 22) (v := .bool true) rfl (by kernel_rfl) (by kernel_rfl) (by kernel_rfl) (fun _ _ _ h => h) (Or.inl ⟨by kernel_rfl, ?_⟩) hS ?_
  · intro w hw; clear hw; go_simp
  change wpAnyH _ _ _ _ _ _ _ (Act.put _ (some 26) _) _
  simp only [Act.put, List.setIfInBounds_toArray, List.set_cons_succ, List.set_cons_zero]
  refine wpAnyH_ready (rs := [23]) (by kernel_rfl) (by simp) ?_
  refine AllReadyH.cons rfl (fun K hK => ?_) AllReadyH.nil
  go_simp
  go_wp2_with (go_at_call 11; refine (show Calls _ _ _ _ _ from K1.out _).mono ?_; rintro en wx ⟨rfl, hwx⟩; cases hwx)
  refine hK.out _ _ (hS) (fun hS => ?_)
  clear hK K
  skip
  refine wpAnyH_ready (rs := [24]) (by kernel_rfl) (by simp) ?_
  refine AllReadyH.cons rfl (fun K hK => ?_) AllReadyH.nil
  go_simp
  go_wp2_with (go_at_call 11; refine (show Calls _ _ _ _ _ from K2.out _).mono ?_; rintro en wx ⟨rfl, hwx⟩; cases hwx)
  refine hK.out _ _ (hS) (fun hS => ?_)
  clear hK K
  skip
  refine wpAnyH_take (i := 25) (v := .bool true) rfl (by kernel_rfl) (by kernel_rfl) (by kernel_rfl) (fun _ _ _ h => h) (Or.inl ⟨by kernel_rfl, ?_⟩) hS ?_
  · intro w hw; clear hw; go_simp
  change wpAnyH _ _ _ _ _ _ _ (Act.put _ (some 29) _) _
  simp only [Act.put, List.setIfInBounds_toArray, List.set_cons_succ, List.set_cons_zero]
  refine wpAnyH_take (i := 26) (v := .bool true) rfl (by kernel_rfl) (by kernel_rfl) (by kernel_rfl) (fun _ _ _ h => h) (Or.inl ⟨by kernel_rfl, ?_⟩) hS ?_
  · intro w hw; clear hw; go_simp
  change wpAnyH _ _ _ _ _ _ _ (Act.put _ (some 30) _) _
  simp only [Act.put, List.setIfInBounds_toArray, List.set_cons_succ, List.set_cons_zero]
  refine wpAnyH_take (i := 27) (v := .bool true) rfl (by kernel_rfl) (by kernel_rfl) (by kernel_rfl) (fun _ _ _ h => h) (Or.inl ⟨by kernel_rfl, ?_⟩) hS ?_
  · intro w hw; clear hw; go_simp
  change wpAnyH _ _ _ _ _ _ _ (Act.put _ (some 31) _) _
  simp only [Act.put, List.setIfInBounds_toArray, List.set_cons_succ, List.set_cons_zero]
  refine wpAnyH_take (i := 28) (v := .agg #[.int .u64 (x : Int), .int .u64 (y : Int)]) rfl (by kernel_rfl) (by kernel_rfl) (by kernel_rfl) (fun _ _ _ h => h) (Or.inl ⟨by kernel_rfl, ?_⟩) hS ?_
  · intro w hw
    obtain ⟨⟨e0, e1⟩, _⟩ := two33 hw
    have e2 := lt_of_block hw
    go_simp
  change wpAnyH _ _ _ _ _ _ _ (Act.put _ (some 32) _) _
  simp only [Act.put, List.setIfInBounds_toArray, List.set_cons_succ, List.set_cons_zero]
  refine wpAnyH_take (i := 29) (v := .agg #[.int .u64 0, .int .u64 0]) rfl (by kernel_rfl) (by kernel_rfl) (by kernel_rfl) (fun _ _ _ h => h) (Or.inl ⟨by kernel_rfl, ?_⟩) hS ?_
  · intro w hw; clear hw; go_simp
  change wpAnyH _ _ _ _ _ _ _ (Act.put _ (some 33) _) _
  simp only [Act.put, List.setIfInBounds_toArray, List.set_cons_succ, List.set_cons_zero]
  refine wpAnyH_take (i := 31) (v := .agg #[.int .u64 (x : Int), .int .u64 (y : Int)]) rfl (by kernel_rfl) (by kernel_rfl) (by kernel_rfl) (fun _ _ _ h => h) (Or.inl ⟨by kernel_rfl, ?_⟩) hS ?_
  · intro w hw
    obtain ⟨⟨e0, e1⟩, _⟩ := two33 hw
    have e2 := lt_of_block hw
    go_simp
  change wpAnyH _ _ _ _ _ _ _ (Act.put _ (some 35) _) _
  simp only [Act.put, List.setIfInBounds_toArray, List.set_cons_succ, List.set_cons_zero]
  refine wpAnyH_ready (rs := [30]) (by kernel_rfl) (by simp) ?_
  refine AllReadyH.cons rfl (fun K hK => ?_) AllReadyH.nil
  go_simp
  go_wp2_with (go_at_call 18; refine (show Calls _ _ _ _ _ from KB.out _).mono ?_; rintro en w13 ⟨rfl, B13⟩)
  have D13 := D12.trans (B13.mono D12.size)
  refine hK.out _ _ (heap_stays hS B13) (fun hS => ?_)
  clear hK K
  skip
  refine wpAnyH_take (i := 32) (v := .bool true) rfl (by kernel_rfl) (by kernel_rfl) (by kernel_rfl) (fun _ _ _ h => h) (Or.inl ⟨by kernel_rfl, ?_⟩) hS ?_
  · intro w hw; clear hw; go_simp
  change wpAnyH _ _ _ _ _ _ _ (Act.put _ (some 36) _) _
  simp only [Act.put, List.setIfInBounds_toArray, List.set_cons_succ, List.set_cons_zero]
  refine wpAnyH_take (i := 33) (v := .bool true) rfl (by kernel_rfl) (by kernel_rfl) (by kernel_rfl) (fun _ _ _ h => h) (Or.inl ⟨by kernel_rfl, ?_⟩) hS ?_
  · intro w hw; clear hw; go_simp
  change wpAnyH _ _ _ _ _ _ _ (Act.put _ (some 37) _) _
  simp only [Act.put, List.setIfInBounds_toArray, List.set_cons_succ, List.set_cons_zero]
  refine wpAnyH_take (i := 34) (v := .bool true) rfl (by kernel_rfl) (by kernel_rfl) (by kernel_rfl) (fun _ _ _ h => h) (Or.inl ⟨by kernel_rfl, ?_⟩) hS ?_
  · intro w hw; clear hw; go_simp
  change wpAnyH _ _ _ _ _ _ _ (Act.put _ (some 0) _) _
  simp only [Act.put, List.setIfInBounds_toArray, List.set_cons_zero]
  refine wpAnyH_done (by kernel_rfl) ?_ _
  go_wp2
  go_ret
  exact ⟨rfl, HB8.out.trans (D13.mono HB8.out.size)⟩
end Go.Proofs.Ytdoeneokblphnaa
