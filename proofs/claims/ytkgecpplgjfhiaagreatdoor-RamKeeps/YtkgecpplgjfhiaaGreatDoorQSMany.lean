/-
  New, Fits, Many, Fill and Drain of the program.
-/
import Derived.Test.YtkgecpplgjfhiaaGreatDoorQSBg
import Derived.Defers
import Derived.Recover
namespace Go.Proofs.YtkgecpplgjfhiaaGreatDoor.Sla
open Go.RowKit

theorem grown0 {w w' : World} (h : Below w.heap.size w w') (row : Option Nat) : w.grownBy w' row := ⟨h.os, h.tape, h.output, h.size, fun k hk _ => h.block k hk⟩

theorem grown_set {w W : World} {g : Nat} (h : w.grownBy W (some g)) (o : Nat) (v : Value) : w.grownBy (W.setCell ⟨g, o, none⟩ v) (some g) := by
  obtain ⟨h1, h2, h3, h4, h5⟩ := h
  refine ⟨h1, h2, h3, by simpa using h4, fun k hk hne => ?_⟩
  rw [← h5 k hk hne]
  simp only [World.setCell, Array.getElem?_modify]
  rw [if_neg (fun e => hne (by rw [e]))]
theorem grown_drew {w W : World} {row : Option Nat} (h : w.grownBy W row) : w.grownBy W.drew row := ⟨h.os, h.tape, h.output, h.size, h.block⟩

/-- What is wrong with a class. -/
theorem refuses_any (w : World) (c : Int) : Calls Tryz.prog 93 #[.int .i64 c] w fun e w' => ∃ v, e = .returned v ∧ Fault1 w' v (if c < 0 ∨ 8 < c then 2 else 0) ∧ Below w.heap.size w w' := by
  have KS := hid2 (size_any w c)
  by_cases hc : c < 0 ∨ 8 < c
  · rw [if_pos hc]
    rw [sz_out hc] at KS
    clear hc
    go_enter Tryz.func93, Tryz.ntmps93
    go_wp2_with fail
    refine (show Calls _ _ _ _ _ from KS.out).mono ?_
    rintro e w1 ⟨rfl, hw⟩
    cases hw
    go_wp2_with fail
    refine (new_code1 _ _ _ _).mono ?_
    rintro e w1 ⟨v, rfl, hf, hb⟩
    go_wp2
    go_ret
    exact ⟨_, rfl, hf, hb⟩
  · rw [if_neg hc]
    have hs := sz_in (c := c) (by omega) (by omega)
    generalize sz c = s at *
    have hs0 : ¬ s = 0 := by omega
    clear hc
    go_enter Tryz.func93, Tryz.ntmps93
    go_wp2_with fail
    refine (show Calls _ _ _ _ _ from KS.out).mono ?_
    rintro e w1 ⟨rfl, hw⟩
    cases hw
    go_wp2
    go_ret
    exact ⟨_, rfl, .inl ⟨rfl, rfl⟩, Below.refl _ _⟩

/-- Take as a plain function: the things behind it, and what is wrong. -/
def takeP (lim : Int) (l : List Int) (c : Int) : List Int × Int := if c < 0 ∨ 8 < c then (l, 2) else if sz c > lim - used l then (l, 4) else (l ++ [c], 0)
/-- Give as a plain function. -/
def giveP (l : List Int) (c : Int) : List Int × Int := if c < 0 ∨ 8 < c then (l, 2) else if cnt l c = 0 then (l, 9) else (l.erase c, 0)
theorem BudOk.take {lim : Int} {l : List Int} (h : BudOk lim l) (c : Int) : BudOk lim (takeP lim l c).1 := by
  obtain ⟨h1, h2, h3⟩ := h
  unfold takeP
  split
  · exact ⟨h1, h2, h3⟩
  · split
    · exact ⟨h1, h2, h3⟩
    · exact ⟨h1, h2, Bud.take h3 (by omega) (by omega) (by omega)⟩
theorem BudOk.give {lim : Int} {l : List Int} (h : BudOk lim l) (c : Int) : BudOk lim (giveP l c).1 := by
  obtain ⟨h1, h2, h3⟩ := h
  unfold giveP
  split
  · exact ⟨h1, h2, h3⟩
  · split
    · exact ⟨h1, h2, h3⟩
    · exact ⟨h1, h2, Bud.give h3 (cnt_pos.1 (by omega))⟩
/-- A budget in which one number, and what is taken, is written. -/
theorem Bg.wrote {w : World} {g : Nat} {lim : Int} {l m : List Int} (h : Bg w g lim l) {k : Nat} (hk : k ≤ 8) (hm : ∀ d, d ≠ (k : Int) → cnt m d = cnt l d) :
    Bg ((w.setCell ⟨g, 1, none⟩ (.int .i64 (used m))).setCell ⟨g, 2 + k, none⟩ (.int .i64 (cnt m k : Int))) g lim m := by
  unfold Bg at h ⊢
  have e1 : (w.setCell ⟨g, 1, none⟩ (.int .i64 (used m))).heap[g]? = some (.cells (#[.int .i64 lim, .int .i64 (used m), .int .i64 (cnt l 0 : Int), .int .i64 (cnt l 1 : Int), .int .i64 (cnt l 2 : Int), .int .i64 (cnt l 3 : Int), .int .i64 (cnt l 4 : Int), .int .i64 (cnt l 5 : Int), .int .i64 (cnt l 6 : Int), .int .i64 (cnt l 7 : Int), .int .i64 (cnt l 8 : Int)]) 112 (0, 0)) := by
    simp [World.setCell, Array.getElem?_modify, h, bud]
  generalize w.setCell ⟨g, 1, none⟩ (.int .i64 (used m)) = W at *
  rcases (by omega : k = 0 ∨ k = 1 ∨ k = 2 ∨ k = 3 ∨ k = 4 ∨ k = 5 ∨ k = 6 ∨ k = 7 ∨ k = 8) with rfl | rfl | rfl | rfl | rfl | rfl | rfl | rfl | rfl <;>
    simp [World.setCell, Array.getElem?_modify, e1, bud, hm]

set_option maxHeartbeats 1000000 in
theorem take_bg {w : World} {g : Nat} {lim : Int} {l : List Int} (h : Bg w g lim l) (ho : BudOk lim l) (c : Int) :
    Calls Tryz.prog 80 #[.pointer (some ⟨g, 0, none⟩), .int .i64 c] w fun e w' => ∃ v, e = .returned v ∧ Fault1 w' v (takeP lim l c).2 ∧ Bg w' g lim (takeP lim l c).1 ∧ w.grownBy w' (some g) := by
  have KR := refuses_any w c
  unfold takeP
  by_cases hc : c < 0 ∨ 8 < c
  · rw [if_pos hc] at KR ⊢
    have HK := hid2 KR
    have HH := hid2 h
    clear hc KR h ho
    go_enter Tryz.func80, Tryz.ntmps80
    go_wp2_with fail
    refine (show Calls _ _ _ _ _ from HK.out).mono ?_
    rintro e w1 ⟨v, rfl, hf, hb⟩
    obtain ⟨p, rfl⟩ := hf.fault.some (by omega)
    have HF := hid2 hf
    have HB := hid2 hb
    clear hf hb
    go_wp2
    go_ret
    exact ⟨_, rfl, HF.out, HH.out.stays HB.out, grown0 HB.out _⟩
  · rw [if_neg hc] at KR ⊢
    obtain ⟨n, rfl⟩ := Int.eq_ofNat_of_zero_le (show 0 ≤ c by omega)
    have hn : n ≤ 8 := by omega
    by_cases hr : sz (n : Int) > lim - used l
    · rw [if_pos hr]
      have HR := hid2 KR
      have HH := hid2 h
      have HO := hid2 ho
      have hs := sz_in (c := (n : Int)) (by omega) (by omega)
      have HKS := hid2 (fun W => size_any W (n : Int))
      have HKL := hid2 (fun W (k : Bg W g lim l) => left_bg k ho)
      generalize sz (n : Int) = s at *
      generalize hx : lim - used l = x at *
      clear hc KR h ho hx
      go_enter Tryz.func80, Tryz.ntmps80
      go_wp2_with fail
      refine (show Calls _ _ _ _ _ from HR.out).mono ?_
      rintro e w1 ⟨v, rfl, hf, hb⟩
      obtain rfl := hf.fault.none
      have HG1 := hid2 (HH.out.stays hb)
      have HB1 := hid2 hb
      clear hf hb
      go_wp2_with fail
      refine (show Calls _ _ _ _ _ from HKS.out _).mono ?_
      rintro e w2 ⟨rfl, hw⟩
      cases hw
      go_wp2_with fail
      refine (show Calls _ _ _ _ _ from HKL.out _ HG1.out).mono ?_
      rintro e w2 ⟨rfl, hb2⟩
      have HG2 := hid2 (HG1.out.stays hb2)
      have HB2 := hid2 (HB1.out.trans (hb2.mono HB1.out.size))
      clear hb2
      go_wp2_with fail
      refine (new_code1 _ _ _ _).mono ?_
      rintro e w3 ⟨v, rfl, hf, hb3⟩
      have HG3 := hid2 (HG2.out.stays hb3)
      have HB3 := hid2 (HB2.out.trans (hb3.mono HB2.out.size))
      have HF := hid2 hf
      clear hf hb3
      go_wp2
      go_ret
      exact ⟨_, rfl, HF.out, HG3.out, grown0 HB3.out _⟩
    · rw [if_neg hr]
      have HR := hid2 KR
      have HH := hid2 h
      have HO := hid2 ho
      have hs := sz_in (c := (n : Int)) (by omega) (by omega)
      have hu := used_nonneg l
      obtain ⟨o1, o2, o3, o4⟩ := ho
      have hcn := cnt_le o3 (c := (n : Int)) (by omega) (by omega)
      have HKS := hid2 (fun W => size_any W (n : Int))
      have HKL := hid2 (fun W (k : Bg W g lim l) => left_bg k HO.out)
      have HU := hid2 (used_snoc l (n : Int))
      have HCL : Hid ((cnt (l ++ [(n : Int)]) (n : Int) : Int) = (cnt l (n : Int) : Int) + 1) := by show _ = _; rw [cnt_snoc, if_pos rfl]; omega
      have HCO : Hid (∀ d, d ≠ (n : Int) → cnt (l ++ [(n : Int)]) d = cnt l d) := fun d hd => by rw [cnt_snoc, if_neg hd]; rfl
      have HCE : Hid (∀ W, Bg W g lim l → W.cell? ⟨g, 2 + n, none⟩ = some (.int .i64 (cnt l (n : Int) : Int))) := fun W k => k.count hn
      have HCC : Hid (∀ W, Bg W g lim l → g < W.heap.size ∧ W.cell? ⟨g, 0, none⟩ = some (.int .i64 lim) ∧ W.cell? ⟨g, 1, none⟩ = some (.int .i64 (used l)) ∧ ∀ o, W.frozen? ⟨g, o, none⟩ = false) := fun W k => k.cells
      generalize sz (n : Int) = s at *
      generalize cnt l (n : Int) = m at *
      generalize used l = u at *
      clear hc KR h o3
      go_enter Tryz.func80, Tryz.ntmps80
      go_wp2_with fail
      refine (show Calls _ _ _ _ _ from HR.out).mono ?_
      rintro e w1 ⟨v, rfl, hf, hb⟩
      obtain rfl := hf.fault.none
      have HG1 := hid2 (HH.out.stays hb)
      have HB1 := hid2 hb
      clear hf hb
      go_wp2_with fail
      refine (show Calls _ _ _ _ _ from HKS.out _).mono ?_
      rintro e w2 ⟨rfl, hw⟩
      cases hw
      go_wp2_with fail
      refine (show Calls _ _ _ _ _ from HKL.out _ HG1.out).mono ?_
      rintro e w2 ⟨rfl, hb2⟩
      have HG2 := hid2 (HG1.out.stays hb2)
      have HB2 := hid2 (HB1.out.trans (hb2.mono HB1.out.size))
      clear hb2
      obtain ⟨q1, q2, q3, q4⟩ := HCC.out _ HG2.out
      have q5 := HCE.out _ HG2.out
      go_wp2_with fail
      obtain ⟨w3, hw3⟩ : ∃ w3, w3 = w2.setCell ⟨g, 1, none⟩ (.int .i64 (u + s)) := ⟨_, rfl⟩
      have r5 : w3.cell? ⟨g, 2 + n, none⟩ = some (.int .i64 (m : Int)) := by rw [hw3, World.cell?_setCell_other _ _ _ _ (by simp)]; exact q5
      have r4 : ∀ o, w3.frozen? ⟨g, o, none⟩ = false := fun o => by rw [hw3, World.frozen?_setCell]; exact q4 o
      have r1 : g < w3.heap.size := by rw [hw3]; simpa using q1
      rw [← hw3]
      have HW3 := hid2 hw3
      clear hw3 q1 q2 q3 q4 q5
      go_region
      go_wp2
      go_ret
      have hz := HG2.out.wrote (m := l ++ [(n : Int)]) hn HCO.out
      rw [HU.out, HCL.out, ← HW3.out] at hz
      exact ⟨_, rfl, .inl ⟨rfl, rfl⟩, hz, grown_drew (grown_set (HW3.out ▸ grown_set (grown0 HB2.out _) _ _) _ _)⟩

set_option maxHeartbeats 1000000 in
theorem give_bg {w : World} {g : Nat} {lim : Int} {l : List Int} (h : Bg w g lim l) (ho : BudOk lim l) (c : Int) :
    Calls Tryz.prog 85 #[.pointer (some ⟨g, 0, none⟩), .int .i64 c] w fun e w' => ∃ v, e = .returned v ∧ Fault1 w' v (giveP l c).2 ∧ Bg w' g lim (giveP l c).1 ∧ w.grownBy w' (some g) := by
  have KR := refuses_any w c
  unfold giveP
  by_cases hc : c < 0 ∨ 8 < c
  · rw [if_pos hc] at KR ⊢
    have HK := hid2 KR
    have HH := hid2 h
    clear hc KR h ho
    go_enter Tryz.func85, Tryz.ntmps85
    go_wp2_with fail
    refine (show Calls _ _ _ _ _ from HK.out).mono ?_
    rintro e w1 ⟨v, rfl, hf, hb⟩
    obtain ⟨p, rfl⟩ := hf.fault.some (by omega)
    have HF := hid2 hf
    have HB := hid2 hb
    clear hf hb
    go_wp2
    go_ret
    exact ⟨_, rfl, HF.out, HH.out.stays HB.out, grown0 HB.out _⟩
  · rw [if_neg hc] at KR ⊢
    obtain ⟨n, rfl⟩ := Int.eq_ofNat_of_zero_le (show 0 ≤ c by omega)
    have hn : n ≤ 8 := by omega
    have HCE : Hid (∀ W, Bg W g lim l → W.cell? ⟨g, 2 + n, none⟩ = some (.int .i64 (cnt l (n : Int) : Int))) := fun W k => k.count hn
    have HCC : Hid (∀ W, Bg W g lim l → g < W.heap.size ∧ W.cell? ⟨g, 0, none⟩ = some (.int .i64 lim) ∧ W.cell? ⟨g, 1, none⟩ = some (.int .i64 (used l)) ∧ ∀ o, W.frozen? ⟨g, o, none⟩ = false) := fun W k => k.cells
    have HR := hid2 KR
    have HH := hid2 h
    have HO := hid2 ho
    by_cases hr : cnt l (n : Int) = 0
    · rw [if_pos hr]
      rw [hr] at HCE
      clear hc KR h ho hr
      go_enter Tryz.func85, Tryz.ntmps85
      go_wp2_with fail
      refine (show Calls _ _ _ _ _ from HR.out).mono ?_
      rintro e w1 ⟨v, rfl, hf, hb⟩
      obtain rfl := hf.fault.none
      have HG1 := hid2 (HH.out.stays hb)
      have HB1 := hid2 hb
      clear hf hb
      obtain ⟨q1, q2, q3, q4⟩ := HCC.out _ HG1.out
      have q5 := HCE.out _ HG1.out
      go_wp2_with fail
      refine (new_code1 _ _ _ _).mono ?_
      rintro e w3 ⟨v, rfl, hf, hb3⟩
      have HG3 := hid2 (HG1.out.stays hb3)
      have HB3 := hid2 (HB1.out.trans (hb3.mono HB1.out.size))
      have HF := hid2 hf
      clear hf hb3
      go_wp2
      go_ret
      exact ⟨_, rfl, HF.out, HG3.out, grown0 HB3.out _⟩
    · rw [if_neg hr]
      have hs := sz_in (c := (n : Int)) (by omega) (by omega)
      have hu := used_nonneg l
      obtain ⟨o1, o2, o3, o4⟩ := ho
      have hmem := cnt_pos.1 (Nat.pos_of_ne_zero hr)
      have hcn := cnt_le o3 (c := (n : Int)) (by omega) (by omega)
      have HKS := hid2 (fun W => size_any W (n : Int))
      have HU := hid2 (used_erase hmem)
      have hun := used_nonneg (l.erase (n : Int))
      rw [HU.out] at hun
      have HCL : Hid ((cnt (l.erase (n : Int)) (n : Int) : Int) = (cnt l (n : Int) : Int) - 1) := by show _ = _; rw [cnt_erase, if_pos rfl]; omega
      have HCO : Hid (∀ d, d ≠ (n : Int) → cnt (l.erase (n : Int)) d = cnt l d) := fun d hd => by rw [cnt_erase, if_neg hd]; rfl
      generalize sz (n : Int) = s at *
      generalize cnt l (n : Int) = m at *
      generalize used l = u at *
      have hm0 : ¬ (m : Int) = 0 := by omega
      clear hc KR h o3 hmem
      go_enter Tryz.func85, Tryz.ntmps85
      go_wp2_with fail
      refine (show Calls _ _ _ _ _ from HR.out).mono ?_
      rintro e w1 ⟨v, rfl, hf, hb⟩
      obtain rfl := hf.fault.none
      have HG1 := hid2 (HH.out.stays hb)
      have HB1 := hid2 hb
      clear hf hb
      obtain ⟨q1, q2, q3, q4⟩ := HCC.out _ HG1.out
      have q5 := HCE.out _ HG1.out
      have hwr : IntKind.i64.wrap (u - s) = u - s := by rw [IntKind.wrap_i64]; omega
      go_wp2_with fail
      refine wp_region_any (by kernel_rfl) ?_
      change wpAny _ _ _ _ _ _ _ (World.drew _)
      refine wpAny_take (i := 0) (v := .pointer (some ⟨g, 0, none⟩)) rfl (by kernel_rfl) (by kernel_rfl) (by kernel_rfl) (fun _ _ _ h => h) (Or.inl ⟨by kernel_rfl, ?_⟩) ?_
      · intro w; go_simp
      change wpAny _ _ _ _ _ _ (Act.put _ (some 20) _) _
      simp only [Act.put, List.setIfInBounds_toArray, List.set_cons_succ, List.set_cons_zero]
      refine wpAny_take (i := 1) (v := .pointer (some ⟨g, 0, none⟩)) rfl (by kernel_rfl) (by kernel_rfl) (by kernel_rfl) (fun _ _ _ h => h) (Or.inl ⟨by kernel_rfl, ?_⟩) ?_
      · intro w; go_simp
      change wpAny _ _ _ _ _ _ (Act.put _ (some 21) _) _
      simp only [Act.put, List.setIfInBounds_toArray, List.set_cons_succ, List.set_cons_zero]
      refine wpAny_take (i := 2) (v := .pointer (some ⟨g, 1, none⟩)) rfl (by kernel_rfl) (by kernel_rfl) (by kernel_rfl) (fun _ _ _ h => h) (Or.inl ⟨by kernel_rfl, ?_⟩) ?_
      · intro w; go_simp
      change wpAny _ _ _ _ _ _ (Act.put _ (some 22) _) _
      simp only [Act.put, List.setIfInBounds_toArray, List.set_cons_succ, List.set_cons_zero]
      refine wpAny_take (i := 4) (v := .int .i64 (n : Int)) rfl (by kernel_rfl) (by kernel_rfl) (by kernel_rfl) (fun _ _ _ h => h) (Or.inl ⟨by kernel_rfl, ?_⟩) ?_
      · intro w; go_simp
      change wpAny _ _ _ _ _ _ (Act.put _ (some 24) _) _
      simp only [Act.put, List.setIfInBounds_toArray, List.set_cons_succ, List.set_cons_zero]
      refine wpAny_ready (rs := [3, 5]) (by kernel_rfl) (by simp) ?_
      refine AllReady.cons rfl (fun K hK => ?_) (AllReady.cons rfl (fun K hK => ?_) AllReady.nil)
      · go_simp
        go_wp2_with (fail)
        refine wpAny_ready (rs := [5]) (by kernel_rfl) (by simp) ?_
        refine AllReady.cons rfl (fun K hK => ?_) AllReady.nil
        go_simp
        go_wp2_with (go_at_call 56; refine (show Calls _ _ _ _ _ from HKS.out _).mono ?_; rintro en wx ⟨rfl, hwx⟩; cases hwx)
        refine wpAny_take (i := 6) (v := .int .i64 (u - s)) rfl (by kernel_rfl) (by kernel_rfl) (by kernel_rfl) (fun _ _ _ h => h) (Or.inl ⟨by kernel_rfl, ?_⟩) ?_
        · intro w; go_simp
        change wpAny _ _ _ _ _ _ (Act.put _ (some 26) _) _
        simp only [Act.put, List.setIfInBounds_toArray, List.set_cons_succ, List.set_cons_zero]
        refine wpAny_take (i := 7) (v := .pointer (some ⟨g, 0, none⟩)) rfl (by kernel_rfl) (by kernel_rfl) (by kernel_rfl) (fun _ _ _ h => h) (Or.inl ⟨by kernel_rfl, ?_⟩) ?_
        · intro w; go_simp
        change wpAny _ _ _ _ _ _ (Act.put _ (some 27) _) _
        simp only [Act.put, List.setIfInBounds_toArray, List.set_cons_succ, List.set_cons_zero]
        refine wpAny_take (i := 8) (v := .pointer (some ⟨g, 1, none⟩)) rfl (by kernel_rfl) (by kernel_rfl) (by kernel_rfl) (fun _ _ _ h => h) (Or.inl ⟨by kernel_rfl, ?_⟩) ?_
        · intro w; go_simp
        change wpAny _ _ _ _ _ _ (Act.put _ (some 28) _) _
        simp only [Act.put, List.setIfInBounds_toArray, List.set_cons_succ, List.set_cons_zero]
        refine wpAny_ready (rs := [9]) (by kernel_rfl) (by simp) ?_
        refine AllReady.cons rfl (fun K hK => ?_) AllReady.nil
        go_simp
        go_wp2_with (fail)
        refine wpAny_done (by kernel_rfl) ?_ _
        obtain ⟨w3, hw3⟩ : ∃ w3, w3 = w1.setCell ⟨g, 1, none⟩ (.int .i64 (u - s)) := ⟨_, rfl⟩
        have r5 : w3.drew.cell? ⟨g, 2 + n, none⟩ = some (.int .i64 (m : Int)) := by rw [hw3]; show (w1.setCell _ _).cell? _ = _; rw [World.cell?_setCell_other _ _ _ _ (by simp)]; exact q5
        have r4 : ∀ o, w3.drew.frozen? ⟨g, o, none⟩ = false := fun o => by rw [hw3]; show (w1.setCell _ _).frozen? _ = _; rw [World.frozen?_setCell]; exact q4 o
        have r1 : g < w3.drew.heap.size := by rw [hw3]; show g < (w1.setCell _ _).heap.size; simpa using q1
        rw [← hw3]
        have HW3 := hid2 hw3
        clear hw3 q1 q2 q3 q4 q5
        obtain ⟨w4, hw4⟩ : ∃ w4, w4 = w3.drew := ⟨_, rfl⟩
        rw [← hw4] at r5 r4 r1 ⊢
        have HW4 := hid2 hw4
        clear hw4
        go_wp2_with fail
        go_region
        go_wp2
        go_ret
        have hz := HG1.out.wrote (m := l.erase (n : Int)) hn HCO.out
        rw [HU.out, HCL.out, ← HW3.out] at hz
        have hx := grown_drew (grown_set (HW4.out ▸ grown_drew (HW3.out ▸ grown_set (grown0 HB1.out _) 1 (.int .i64 (u - s)))) (2 + n) (.int .i64 ((m : Int) - 1)))
        exact ⟨_, rfl, .inl ⟨rfl, rfl⟩, by rw [HW4.out]; exact hz, hx⟩
      · go_simp
        go_wp2_with (go_at_call 56; refine (show Calls _ _ _ _ _ from HKS.out _).mono ?_; rintro en wx ⟨rfl, hwx⟩; cases hwx)
        refine wpAny_ready (rs := [3]) (by kernel_rfl) (by simp) ?_
        refine AllReady.cons rfl (fun K hK => ?_) AllReady.nil
        go_simp
        go_wp2_with (fail)
        refine wpAny_take (i := 6) (v := .int .i64 (u - s)) rfl (by kernel_rfl) (by kernel_rfl) (by kernel_rfl) (fun _ _ _ h => h) (Or.inl ⟨by kernel_rfl, ?_⟩) ?_
        · intro w; go_simp
        change wpAny _ _ _ _ _ _ (Act.put _ (some 26) _) _
        simp only [Act.put, List.setIfInBounds_toArray, List.set_cons_succ, List.set_cons_zero]
        refine wpAny_take (i := 7) (v := .pointer (some ⟨g, 0, none⟩)) rfl (by kernel_rfl) (by kernel_rfl) (by kernel_rfl) (fun _ _ _ h => h) (Or.inl ⟨by kernel_rfl, ?_⟩) ?_
        · intro w; go_simp
        change wpAny _ _ _ _ _ _ (Act.put _ (some 27) _) _
        simp only [Act.put, List.setIfInBounds_toArray, List.set_cons_succ, List.set_cons_zero]
        refine wpAny_take (i := 8) (v := .pointer (some ⟨g, 1, none⟩)) rfl (by kernel_rfl) (by kernel_rfl) (by kernel_rfl) (fun _ _ _ h => h) (Or.inl ⟨by kernel_rfl, ?_⟩) ?_
        · intro w; go_simp
        change wpAny _ _ _ _ _ _ (Act.put _ (some 28) _) _
        simp only [Act.put, List.setIfInBounds_toArray, List.set_cons_succ, List.set_cons_zero]
        refine wpAny_ready (rs := [9]) (by kernel_rfl) (by simp) ?_
        refine AllReady.cons rfl (fun K hK => ?_) AllReady.nil
        go_simp
        go_wp2_with (fail)
        refine wpAny_done (by kernel_rfl) ?_ _
        obtain ⟨w3, hw3⟩ : ∃ w3, w3 = w1.setCell ⟨g, 1, none⟩ (.int .i64 (u - s)) := ⟨_, rfl⟩
        have r5 : w3.drew.cell? ⟨g, 2 + n, none⟩ = some (.int .i64 (m : Int)) := by rw [hw3]; show (w1.setCell _ _).cell? _ = _; rw [World.cell?_setCell_other _ _ _ _ (by simp)]; exact q5
        have r4 : ∀ o, w3.drew.frozen? ⟨g, o, none⟩ = false := fun o => by rw [hw3]; show (w1.setCell _ _).frozen? _ = _; rw [World.frozen?_setCell]; exact q4 o
        have r1 : g < w3.drew.heap.size := by rw [hw3]; show g < (w1.setCell _ _).heap.size; simpa using q1
        rw [← hw3]
        have HW3 := hid2 hw3
        clear hw3 q1 q2 q3 q4 q5
        obtain ⟨w4, hw4⟩ : ∃ w4, w4 = w3.drew := ⟨_, rfl⟩
        rw [← hw4] at r5 r4 r1 ⊢
        have HW4 := hid2 hw4
        clear hw4
        go_wp2_with fail
        go_region
        go_wp2
        go_ret
        have hz := HG1.out.wrote (m := l.erase (n : Int)) hn HCO.out
        rw [HU.out, HCL.out, ← HW3.out] at hz
        have hx := grown_drew (grown_set (HW4.out ▸ grown_drew (HW3.out ▸ grown_set (grown0 HB1.out _) 1 (.int .i64 (u - s)))) (2 + n) (.int .i64 ((m : Int) - 1)))
        exact ⟨_, rfl, .inl ⟨rfl, rfl⟩, by rw [HW4.out]; exact hz, hx⟩
end Go.Proofs.YtkgecpplgjfhiaaGreatDoor.Sla

namespace Go.Proofs.YtkgecpplgjfhiaaGreatDoor.Sla
open Go.RowKit

theorem new_good (w : World) (lim : Int) (h1 : 1 ≤ lim) (h2 : lim ≤ 1099511627776) : Calls Tryz.prog 34 #[.int .i64 lim] w fun e w' => e = .returned (.tuple #[.pointer (some ⟨w.heap.size, 0, none⟩), .nilIface]) ∧ Bg w' w.heap.size lim [] ∧ Below w.heap.size w w' := by
  go_enter Tryz.func34, Tryz.ntmps34
  go_wp2
  refine bodyPost_ret (v := .tuple #[.pointer (some ⟨w.heap.size, 0, none⟩), .nilIface]) (by simp [results, Tryz.results34, go_sem]) rfl ⟨rfl, heap_alloc_new w _, ?_⟩
  go_grown
theorem new_bad (w : World) (lim : Int) (h : lim < 1 ∨ 1099511627776 < lim) : Calls Tryz.prog 34 #[.int .i64 lim] w fun e w' => ∃ v, e = .returned (.tuple #[.pointer none, v]) ∧ Fault1 w' v 2 ∧ Below w.heap.size w w' := by
  go_enter Tryz.func34, Tryz.ntmps34
  go_wp2_with (go_at_call 33; refine (new_code1 _ _ _ _).mono ?_; rintro e w1 ⟨v, rfl, hf, hb⟩; have HF := hid2 hf; clear hf)
  all_goals first | (refine bodyPost_ret (v := .tuple #[.pointer none, v]) (by simp [results, Tryz.results34, go_sem]) rfl ⟨_, rfl, HF.out, hb⟩) | (exfalso; omega)

/-- Whether a thing of so many bytes would have room. -/
def fitsP (lim n : Int) : Bool := decide (0 ≤ cls n) && decide (sz (cls n) ≤ lim)
theorem fits_bg {w : World} {g : Nat} {lim : Int} {l : List Int} (h : Bg w g lim l) (n : Int) : Calls Tryz.prog 47 #[.pointer (some ⟨g, 0, none⟩), .int .i64 n] w fun e w' => e = .returned (.bool (fitsP lim n)) ∧ Below w.heap.size w w' := by
  obtain ⟨h1, h2, h3, h4⟩ := h.cells
  have KC := hid2 (class_any w n)
  have KS := hid2 (fun W => size_any W (cls n))
  unfold fitsP
  generalize sz (cls n) = s at *
  generalize cls n = c at *
  clear h h3
  by_cases hc : 0 ≤ c
  · go_enter Tryz.func47, Tryz.ntmps47
    go_wp2_with fail
    refine (show Calls _ _ _ _ _ from KC.out).mono ?_
    rintro e w1 ⟨rfl, hw⟩
    cases hw
    have hd : decide (0 ≤ c) = true := by simpa using hc
    go_wp2_with fail
    go_quiet (first | (go_at_call_of 56 (Value.int .i64 c); exact Calls.quiet_of_same (KS.out _)))
    go_wp2
    go_ret
    exact ⟨by simp [hd], drew_below _ _ _⟩
  · go_enter Tryz.func47, Tryz.ntmps47
    go_wp2_with fail
    refine (show Calls _ _ _ _ _ from KC.out).mono ?_
    rintro e w1 ⟨rfl, hw⟩
    cases hw
    have hd : decide (0 ≤ c) = false := by simpa using hc
    go_wp2_with fail
    go_quiet (fail)
    go_wp2
    go_ret
    exact ⟨by simp [hd], drew_below _ _ _⟩

/-- A step, so often, as long as nothing is wrong: how often it was done, and the things behind it. -/
def manyP (stp : List Int → List Int × Int) : Nat → List Int → Nat × List Int
  | 0, l => (0, l)
  | n + 1, l => if (stp l).2 = 0 then ((manyP stp n (stp l).1).1 + 1, (manyP stp n (stp l).1).2) else (0, (stp l).1)
theorem manyP_succ (stp : List Int → List Int × Int) (n : Nat) (l : List Int) : manyP stp (n + 1) l = if (stp l).2 = 0 then ((manyP stp n (stp l).1).1 + 1, (manyP stp n (stp l).1).2) else (0, (stp l).1) := rfl

end Go.Proofs.YtkgecpplgjfhiaaGreatDoor.Sla
