/-
  Add of the document.
-/
import Derived.Test.YtibplphpbbajhaaDoorRNew
import Derived.Deep.DeepCutAuto
namespace Go.Proofs.YtibplphpbbajhaaDoor
open Go.RowKit

theorem Ls.letters {w : World} {B : Nat} {v : Value} {l : List Int} (h : Ls w B v l) : ∃ p m c, v = .slice p m c := by
  obtain ⟨p, c, e, _⟩ := h.each
  exact ⟨p, _, c, e⟩
/-- What is there behind the first assignment of Add, Drop and Touch. -/
def WMid (w1 : World) (B : Nat) (VF VU : Value) (n : Int) (L : List (List Int)) (v : Value) (wx : World) : Prop :=
  ∃ q p m c, v = .pointer (some ⟨q, 0, none⟩) ∧ w1.heap.size ≤ q ∧ Four wx q (.slice p m c) VF VU n ∧ LL wx B (.slice p m c) L ∧ Below w1.heap.size w1 wx
theorem Four.tag {w : World} {b : Nat} {x y z : Value} {n : Int} (h : Four w b x y z n) : Tag w b 32 := ⟨_, _, h⟩
/-- Lists that are not too great. -/
def Fit (s : Lst) : Prop := s.L.length ≤ 64 ∧ s.F.length ≤ 100 ∧ s.U.length ≤ 100 ∧ ∀ a ∈ s.L, a.length ≤ 100

/-- The two blocks that a call lays first: what was handed in, and its result. -/
theorem two_laid {w : World} {x y z : Value} {n : Int} : Four ((w.alloc (.cells #[x, y, z, .int .i64 n] 32)).alloc (.cells #[.slice none 0 0, .slice none 0 0, .slice none 0 0, .int .i64 0] 32)) w.heap.size x y z n ∧
    Four ((w.alloc (.cells #[x, y, z, .int .i64 n] 32)).alloc (.cells #[.slice none 0 0, .slice none 0 0, .slice none 0 0, .int .i64 0] 32)) (w.heap.size + 1) (.slice none 0 0) (.slice none 0 0) (.slice none 0 0) 0 := by
  refine ⟨(four_new w x y z n).stays (by go_grown), ?_⟩
  have := four_new (w.alloc (.cells #[x, y, z, .int .i64 n] 32)) (.slice none 0 0) (.slice none 0 0) (.slice none 0 0) 0
  rwa [show (w.alloc (.cells #[x, y, z, .int .i64 n] 32)).heap.size = w.heap.size + 1 by simp] at this

set_option maxHeartbeats 4000000 in
set_option maxRecDepth 10000 in
theorem radd_any {w : World} {B : Nat} {v : Value} {s : Lst} (h : RV w B v s) (hf : Fit s) (hB : B ≤ w.heap.size) (k : Int) :
    Calls Tryd.prog 29 #[v, .int .i64 k] w fun e w' => ∃ u, e = .returned (.tuple #[u, .int .i64 (addP s k).2.1, .int .i64 (addP s k).2.2]) ∧ RV w' B u (addP s k).1 ∧ Below w.heap.size w w' := by
  have HV := hid2 h
  obtain ⟨pL, nL, cL, pF, nF, cF, pU, nU, cU, rfl, hL, hF, hU⟩ := h
  obtain ⟨f1, f2, f3, f4⟩ := hf
  obtain ⟨p0, c0, e0, e1, e2, hel⟩ := hL.each
  simp only [Value.slice.injEq] at e0
  obtain ⟨rfl, hnL, rfl⟩ := e0
  obtain ⟨w1, hw1⟩ : ∃ w1, w1 = (w.alloc (.cells #[.slice pL nL cL, .slice pF nF cF, .slice pU nU cU, .int .i64 s.n] 32)).alloc (.cells #[.slice none 0 0, .slice none 0 0, .slice none 0 0, .int .i64 0] 32) := ⟨_, rfl⟩
  have A1 : Below w.heap.size w w1 := by rw [hw1]; go_grown
  obtain ⟨Z0, Z1⟩ := (show Four w1 w.heap.size (.slice pL nL cL) (.slice pF nF cF) (.slice pU nU cU) s.n ∧ Four w1 (w.heap.size + 1) (.slice none 0 0) (.slice none 0 0) (.slice none 0 0) 0 by rw [hw1]; exact two_laid)
  have s1 : w1.heap.size = w.heap.size + 2 := by rw [hw1]; simp
  have HA := hid2 A1
  have HZ0 := hid2 Z0
  have HZ1 := hid2 Z1
  have HW := hid2 hw1
  have HS := hid2 s1
  have hL1 := hL.stays A1
  have hF1 := hF.stays A1
  have hU1 := hU.stays A1
  by_cases hk : k < 0 ∨ (s.L.length : Int) ≤ k
  · have e : addP s k = (s, -1, 2) := by unfold addP; rw [if_pos hk]
    rw [e]
    rw [← hnL] at hk
    obtain ⟨q0, c0, c1, c2, c3, c4⟩ := HZ0.out.cells
    clear hel hnL e hw1 s1 A1 Z0 Z1 hL1 hF1 hU1 e1 e2 f4
    go_enter Tryd.func29, Tryd.ntmps29
    by_cases h0 : k < 0
    · have hd : decide (k < 0) = true := by simpa using h0
      go_upto_region 1 with fail
      rw [← HW.out]
      go_wp2_with (refine st32 rfl (.tmp 4) (.tmp 18) rfl (w.heap.size + 1) rfl _ _ _ _ _ HZ1.out rfl rfl ⟨rfl, rfl, rfl, rfl⟩ ?_; intro w5 hz5 hg5)
      have hb5 : Below w.heap.size w w5 := HA.out.grown hg5 HA.out.size (fun j hj => by cases hj; omega)
      exact bodyPost_ret (results32c Tryd.results29 _ _ (w.heap.size + 1) rfl _ _ _ _ 32 (0, 0) hz5 (.int .i64 (-1)) (.int .i64 2) rfl rfl) rfl ⟨_, rfl, HV.out.stays hb5, hb5⟩
    · have hd : decide (k < 0) = false := by simpa using h0
      have hd2 : decide ((nL : Int) ≤ k) = true := decide_eq_true (by omega)
      go_upto_region 1 with fail
      rw [← HW.out]
      go_wp2_with (refine st32 rfl (.tmp 4) (.tmp 18) rfl (w.heap.size + 1) rfl _ _ _ _ _ HZ1.out rfl rfl ⟨rfl, rfl, rfl, rfl⟩ ?_; intro w5 hz5 hg5)
      have hb5 : Below w.heap.size w w5 := HA.out.grown hg5 HA.out.size (fun j hj => by cases hj; omega)
      exact bodyPost_ret (results32c Tryd.results29 _ _ (w.heap.size + 1) rfl _ _ _ _ 32 (0, 0) hz5 (.int .i64 (-1)) (.int .i64 2) rfl rfl) rfl ⟨_, rfl, HV.out.stays hb5, hb5⟩
  · obtain ⟨k, rfl⟩ := Int.eq_ofNat_of_zero_le (show 0 ≤ k by omega)
    have hd : decide ((k : Int) < 0) = false := decide_eq_false (by omega)
    have hkL : k < nL := by omega
    have hkn : ¬ nL ≤ k := by omega
    obtain ⟨q0, c0, c1, c2, c3, c4⟩ := HZ0.out.cells
    cases hFc : s.F with
    | nil =>
      have e : addP s (k : Int) = (s, -1, 4) := by unfold addP; rw [if_neg hk, hFc]
      rw [e]
      have hnF : nF = 0 := by
        obtain ⟨p, c, ee, _⟩ := hF.each
        rw [hFc] at ee
        simp at ee
        exact ee.2.1
      subst hnF
      clear hel hnL e hw1 s1 A1 Z0 Z1 hL1 hF1 hU1 e1 e2 f4 hk hF hU hL hFc
      go_enter Tryd.func29, Tryd.ntmps29
      go_upto_region 1 with fail
      rw [← HW.out]
      go_wp2_with (refine st32 rfl (.tmp 4) (.tmp 23) rfl (w.heap.size + 1) rfl _ _ _ _ _ HZ1.out rfl rfl ⟨rfl, rfl, rfl, rfl⟩ ?_; intro w5 hz5 hg5)
      have hb5 : Below w.heap.size w w5 := HA.out.grown hg5 HA.out.size (fun j hj => by cases hj; omega)
      exact bodyPost_ret (results32c Tryd.results29 _ _ (w.heap.size + 1) rfl _ _ _ _ 32 (0, 0) hz5 (.int .i64 (-1)) (.int .i64 4) rfl rfl) rfl ⟨_, rfl, HV.out.stays hb5, hb5⟩
    | cons x r =>
      obtain ⟨a, ha⟩ : ∃ a, s.L[k]? = some a := ⟨s.L[k]'(by omega), List.getElem?_eq_getElem _⟩
      have hga : getL s (k : Int) = a := by unfold getL; rw [Int.toNat_natCast, ha]; rfl
      have e : addP s (k : Int) = (⟨s.L.set k (x :: a), r, x :: s.U, s.n⟩, x, 0) := by unfold addP; rw [if_neg hk, hFc]; unfold setL; rw [hga, Int.toNat_natCast]
      rw [e]
      have hal : a.length ≤ 100 := f4 a (List.mem_of_getElem? ha)
      obtain ⟨bL, oL, uA, rfl, q1, ca, hA⟩ := hel k a ha
      have q1 := Nat.lt_of_lt_of_le q1 A1.size
      have ca := (A1.cell (p := ⟨bL, oL + k, none⟩) (by assumption)).trans ca
      have hA := hA.stays A1
      obtain ⟨pA, nA, cA, rfl⟩ := hA.letters
      rw [hFc] at hF1
      obtain ⟨bF, oF, rfl, hnF, hcF, hcm, HT⟩ := hF1.tail
      obtain ⟨pf', cf', ef', x1, x2, helF⟩ := hF1.each
      simp only [Value.slice.injEq] at ef'
      obtain ⟨rfl, x3, rfl⟩ := ef'
      clear x1 x2 x3
      obtain ⟨bF', oF', eF', qF, cFx⟩ := helF 0 x rfl
      simp only [Option.some.injEq, Addr.mk.injEq, and_true] at eF'
      obtain ⟨rfl, rfl⟩ := eF'
      rw [Nat.add_zero] at cFx
      have hB1 : B ≤ w1.heap.size := Nat.le_trans hB A1.size
      have C0 := hid2 (fun W (hb : Below w1.heap.size w1 W) => ahead_any (hA.stays hb) (Nat.le_trans hB1 hb.size) (by omega) x)
      have C1 := hid2 (fun W (hb : Below w1.heap.size w1 W) p m c (hl : Ls W B (.slice p m c) (x :: a)) => (show Calls Tryd.prog 39 #[.agg #[.slice (some ⟨bL, oL, none⟩) nL cL, .slice (some ⟨bF, oF, none⟩) nF cF, .slice pU nU cU, .int .i64 s.n], .int .i64 (k : Int), .slice p m c] W (fun e w' => ∃ p' c', e = .returned (.agg #[.slice p' nL c', .slice (some ⟨bF, oF, none⟩) nF cF, .slice pU nU cU, .int .i64 s.n]) ∧ LL w' B (.slice p' nL c') (s.L.set k (x :: a)) ∧ Below W.heap.size W w') by
        have := with_any (pF := some ⟨bF, oF, none⟩) (nF := nF) (cF := cF) (pU := pU) (nU := nU) (cU := cU) (hL1.stays hb) hl (Nat.le_trans hB1 hb.size) f1 s.n (k := k) (by omega)
        rwa [← hnL] at this))
      have HU := hid2 hU1
      have HTL := hid2 HT
      have hnF0 : ¬ (nF : Int) = 0 := by omega
      have hUl : Hid (s.U.length ≤ 100) := f3
      have HB1 := hid2 hB1
      generalize s.n = n at *
      generalize hLs : s.L.set k (x :: a) = L' at *
      have hrl : nF = r.length + 1 := hnF
      have HRL := hid2 hrl
      have hcF2 : nF ≤ cF := by omega
      have hnF1 : 1 ≤ nF := by omega
      unfold maxLen at hcm e2
      clear hel hnL e hw1 A1 Z0 Z1 hL1 hF1 hU1 f4 hk hF hU hL hFc HV ha hga hal hA HT helF hnF hB1 f1 f2 f3 hcF hrl hLs
      go_enter Tryd.func29, Tryd.ntmps29
      go_upto_region 1 with fail
      rw [← HW.out]
      clear HW
      go_upto_region 6 with fail
      go_cut [8] (fun vv wx => WMid w1 B (.slice (some ⟨bF, oF, none⟩) nF cF) (.slice pU nU cU) n L' vv wx)
      case first =>
        refine wp_region_held_drew (S := fun W => Below w1.heap.size w1 W) (by kernel_rfl) ((Below.refl _ _).drew) (fun hS => ?_)
        change wpAnyH _ _ _ _ _ _ _ _ (World.drew _)
        obtain ⟨w0c, hwc⟩ : ∃ wc, wc = World.drew w1 := ⟨_, rfl⟩
        rw [← hwc] at hS ⊢
        clear hwc
        refine wpAnyH_take (i := 0) (v := .agg #[.slice (some ⟨bL, oL, none⟩) nL cL, .slice (some ⟨bF, oF, none⟩) nF cF, .slice pU nU cU, .int .i64 n]) rfl (by kernel_rfl) (by kernel_rfl) (by kernel_rfl) (fun _ _ _ h => h) (Or.inl ⟨by kernel_rfl, ?_⟩) hS ?_
        · intro W hw
          have f0 := (Below.cell (p := ⟨w.heap.size, 0, none⟩) hw q0).trans c0
          have f1 := (Below.cell (p := ⟨w.heap.size, 1, none⟩) hw q0).trans c1
          have f2 := (Below.cell (p := ⟨w.heap.size, 2, none⟩) hw q0).trans c2
          have f3 := (Below.cell (p := ⟨w.heap.size, 3, none⟩) hw q0).trans c3
          have l0 := Nat.lt_of_lt_of_le q0 (Below.size hw)
          clear hw
          go_simp
        change wpAnyH _ _ _ _ _ _ _ (Act.put _ (some 28) _) _
        simp only [Act.put, List.setIfInBounds_toArray, List.set_cons_succ, List.set_cons_zero]
        refine wpAnyH_take (i := 1) (v := .int .i64 (k : Int)) rfl (by kernel_rfl) (by kernel_rfl) (by kernel_rfl) (fun _ _ _ h => h) (Or.inl ⟨by kernel_rfl, ?_⟩) hS ?_
        · intro w hw; clear hw; go_simp
        change wpAnyH _ _ _ _ _ _ _ (Act.put _ (some 29) _) _
        simp only [Act.put, List.setIfInBounds_toArray, List.set_cons_succ, List.set_cons_zero]
        refine wpAnyH_take (i := 2) (v := .pointer (some ⟨w.heap.size, 0, none⟩)) rfl (by kernel_rfl) (by kernel_rfl) (by kernel_rfl) (fun _ _ _ h => h) (Or.inl ⟨by kernel_rfl, ?_⟩) hS ?_
        · intro w hw; clear hw; go_simp
        change wpAnyH _ _ _ _ _ _ _ (Act.put _ (some 30) _) _
        simp only [Act.put, List.setIfInBounds_toArray, List.set_cons_succ, List.set_cons_zero]
        refine wpAnyH_take (i := 3) (v := .slice (some ⟨bL, oL, none⟩) nL cL) rfl (by kernel_rfl) (by kernel_rfl) (by kernel_rfl) (fun _ _ _ h => h) (Or.inl ⟨by kernel_rfl, ?_⟩) hS ?_
        · intro W hw
          have f0 := (Below.cell (p := ⟨w.heap.size, 0, none⟩) hw q0).trans c0
          have l0 := Nat.lt_of_lt_of_le q0 (Below.size hw)
          clear hw
          go_simp
        change wpAnyH _ _ _ _ _ _ _ (Act.put _ (some 31) _) _
        simp only [Act.put, List.setIfInBounds_toArray, List.set_cons_succ, List.set_cons_zero]
        refine wpAnyH_take (i := 4) (v := .int .i64 (k : Int)) rfl (by kernel_rfl) (by kernel_rfl) (by kernel_rfl) (fun _ _ _ h => h) (Or.inl ⟨by kernel_rfl, ?_⟩) hS ?_
        · intro w hw; clear hw; go_simp
        change wpAnyH _ _ _ _ _ _ _ (Act.put _ (some 32) _) _
        simp only [Act.put, List.setIfInBounds_toArray, List.set_cons_succ, List.set_cons_zero]
        refine wpAnyH_take (i := 5) (v := .pointer (some ⟨bL, oL + k, none⟩)) rfl (by kernel_rfl) (by kernel_rfl) (by kernel_rfl) (fun _ _ _ h => h) (Or.inl ⟨by kernel_rfl, ?_⟩) hS ?_
        · intro w hw; clear hw; go_simp
        change wpAnyH _ _ _ _ _ _ _ (Act.put _ (some 33) _) _
        simp only [Act.put, List.setIfInBounds_toArray, List.set_cons_succ, List.set_cons_zero]
        refine wpAnyH_take (i := 6) (v := .slice pA nA cA) rfl (by kernel_rfl) (by kernel_rfl) (by kernel_rfl) (fun _ _ _ h => h) (Or.inl ⟨by kernel_rfl, ?_⟩) hS ?_
        · intro W hw
          have f0 := (Below.cell (p := ⟨bL, oL + k, none⟩) hw q1).trans ca
          have l0 := Nat.lt_of_lt_of_le q1 (Below.size hw)
          clear hw
          go_simp
        change wpAnyH _ _ _ _ _ _ _ (Act.put _ (some 34) _) _
        simp only [Act.put, List.setIfInBounds_toArray, List.set_cons_succ, List.set_cons_zero]
        refine wpAnyH_take (i := 7) (v := .int .i64 x) rfl (by kernel_rfl) (by kernel_rfl) (by kernel_rfl) (fun _ _ _ h => h) (Or.inl ⟨by kernel_rfl, ?_⟩) hS ?_
        · intro w hw; clear hw; go_simp
        change wpAnyH _ _ _ _ _ _ _ (Act.put _ (some 35) _) _
        simp only [Act.put, List.setIfInBounds_toArray, List.set_cons_succ, List.set_cons_zero]
        refine wpAnyH_ready (rs := [8, 10]) (by kernel_rfl) (by simp) ?_
        refine AllReadyH.cons rfl (fun K hK => ?_) (AllReadyH.cons rfl (fun K hK => ?_) AllReadyH.nil)
        · go_simp
          go_wp2_with fail
          refine (show Calls _ _ _ _ _ from C0.out w0c hS).mono ?_
          rintro en w1c ⟨u1, rfl, v1, y1⟩
          obtain ⟨p1, m1, c1, rfl⟩ := v1.letters
          refine hK.out _ _ (Below.trans hS (Below.mono y1 (Below.size hS))) (fun hS => ?_)
          clear hK K
          clear y1
          refine wpAnyH_ready (rs := [9, 10]) (by kernel_rfl) (by simp) ?_
          refine AllReadyH.cons rfl (fun K hK => ?_) (AllReadyH.cons rfl (fun K hK => ?_) AllReadyH.nil)
          · go_simp
            go_wp2_with fail
            refine (show Calls _ _ _ _ _ from C1.out w1c hS _ _ _ v1).mono ?_
            rintro en w2c ⟨p2, c2, rfl, v2, y2⟩
            refine hK.out _ _ (Below.trans hS (Below.mono y2 (Below.size hS))) (fun hS => ?_)
            clear hK K
            clear y2
            refine wpAnyH_ready (rs := [10]) (by kernel_rfl) (by simp) ?_
            refine AllReadyH.cons rfl (fun K hK => ?_) AllReadyH.nil
            go_simp
            go_wp2_with fail
            obtain ⟨w3c, hwn⟩ : ∃ wn, wn = w2c.alloc (.cells #[.slice none 0 0, .slice none 0 0, .slice none 0 0, .int .i64 0] 32) := ⟨_, rfl⟩
            rw [← hwn]
            have y3 : Below w2c.heap.size w2c w3c := by rw [hwn]; go_grown
            have z3 : Four w3c w2c.heap.size (.slice none 0 0) (.slice none 0 0) (.slice none 0 0) 0 := by rw [hwn]; exact four_new w2c _ _ _ _
            have hob : w1.heap.size ≤ w2c.heap.size := Below.size hS
            clear hwn
            refine hK.out _ _ (Below.trans hS (Below.mono y3 (Below.size hS))) (fun hS => ?_)
            clear hK K
            have v3 := v2.stays y3
            clear v2
            clear y3
            generalize w2c.heap.size = ob at *
            refine wpAnyH_ready (rs := [11]) (by kernel_rfl) (by simp) ?_
            refine AllReadyH.cons rfl (fun K hK => ?_) AllReadyH.nil
            refine step_st32 rfl (.tmp 8) (.tmp 37) rfl ob rfl _ _ _ _ _ z3 rfl rfl ⟨rfl, rfl, rfl, rfl⟩ ?_
            intro wn hwn hgn
            refine hK.out _ _ (Below.grown hS hgn (Below.size hS) (fun j hj => by cases hj; exact hob)) (fun hS => ?_)
            clear hK K
            refine wpAnyH_done (by kernel_rfl) ?_ _
            go_wp2_with fail
            go_meet
            exact ⟨ob, _, _, _, rfl, hob, hwn, LL.other v3 hgn ⟨_, _, z3⟩ (by decide) (by decide), hS⟩
          · go_simp
            go_wp2_with fail
            obtain ⟨w2c, hwn⟩ : ∃ wn, wn = w1c.alloc (.cells #[.slice none 0 0, .slice none 0 0, .slice none 0 0, .int .i64 0] 32) := ⟨_, rfl⟩
            rw [← hwn]
            have y2 : Below w1c.heap.size w1c w2c := by rw [hwn]; go_grown
            have z2 : Four w2c w1c.heap.size (.slice none 0 0) (.slice none 0 0) (.slice none 0 0) 0 := by rw [hwn]; exact four_new w1c _ _ _ _
            have hob : w1.heap.size ≤ w1c.heap.size := Below.size hS
            clear hwn
            refine hK.out _ _ (Below.trans hS (Below.mono y2 (Below.size hS))) (fun hS => ?_)
            clear hK K
            have v2 := v1.stays y2
            clear v1
            clear y2
            generalize w1c.heap.size = ob at *
            refine wpAnyH_ready (rs := [9]) (by kernel_rfl) (by simp) ?_
            refine AllReadyH.cons rfl (fun K hK => ?_) AllReadyH.nil
            go_simp
            go_wp2_with fail
            refine (show Calls _ _ _ _ _ from C1.out w2c hS _ _ _ v2).mono ?_
            rintro en w3c ⟨p3, c3, rfl, v3, y3⟩
            refine hK.out _ _ (Below.trans hS (Below.mono y3 (Below.size hS))) (fun hS => ?_)
            clear hK K
            have z3 := z2.stays y3
            clear z2
            clear y3
            refine wpAnyH_ready (rs := [11]) (by kernel_rfl) (by simp) ?_
            refine AllReadyH.cons rfl (fun K hK => ?_) AllReadyH.nil
            refine step_st32 rfl (.tmp 8) (.tmp 37) rfl ob rfl _ _ _ _ _ z3 rfl rfl ⟨rfl, rfl, rfl, rfl⟩ ?_
            intro wn hwn hgn
            refine hK.out _ _ (Below.grown hS hgn (Below.size hS) (fun j hj => by cases hj; exact hob)) (fun hS => ?_)
            clear hK K
            refine wpAnyH_done (by kernel_rfl) ?_ _
            go_wp2_with fail
            go_meet
            exact ⟨ob, _, _, _, rfl, hob, hwn, LL.other v3 hgn ⟨_, _, z3⟩ (by decide) (by decide), hS⟩
        · go_simp
          go_wp2_with fail
          obtain ⟨w1c, hwn⟩ : ∃ wn, wn = w0c.alloc (.cells #[.slice none 0 0, .slice none 0 0, .slice none 0 0, .int .i64 0] 32) := ⟨_, rfl⟩
          rw [← hwn]
          have y1 : Below w0c.heap.size w0c w1c := by rw [hwn]; go_grown
          have z1 : Four w1c w0c.heap.size (.slice none 0 0) (.slice none 0 0) (.slice none 0 0) 0 := by rw [hwn]; exact four_new w0c _ _ _ _
          have hob : w1.heap.size ≤ w0c.heap.size := Below.size hS
          clear hwn
          refine hK.out _ _ (Below.trans hS (Below.mono y1 (Below.size hS))) (fun hS => ?_)
          clear hK K
          clear y1
          generalize w0c.heap.size = ob at *
          refine wpAnyH_ready (rs := [8]) (by kernel_rfl) (by simp) ?_
          refine AllReadyH.cons rfl (fun K hK => ?_) AllReadyH.nil
          go_simp
          go_wp2_with fail
          refine (show Calls _ _ _ _ _ from C0.out w1c hS).mono ?_
          rintro en w2c ⟨u2, rfl, v2, y2⟩
          obtain ⟨p2, m2, c2, rfl⟩ := v2.letters
          refine hK.out _ _ (Below.trans hS (Below.mono y2 (Below.size hS))) (fun hS => ?_)
          clear hK K
          have z2 := z1.stays y2
          clear z1
          clear y2
          refine wpAnyH_ready (rs := [9]) (by kernel_rfl) (by simp) ?_
          refine AllReadyH.cons rfl (fun K hK => ?_) AllReadyH.nil
          go_simp
          go_wp2_with fail
          refine (show Calls _ _ _ _ _ from C1.out w2c hS _ _ _ v2).mono ?_
          rintro en w3c ⟨p3, c3, rfl, v3, y3⟩
          refine hK.out _ _ (Below.trans hS (Below.mono y3 (Below.size hS))) (fun hS => ?_)
          clear hK K
          have z3 := z2.stays y3
          clear z2
          clear y3
          refine wpAnyH_ready (rs := [11]) (by kernel_rfl) (by simp) ?_
          refine AllReadyH.cons rfl (fun K hK => ?_) AllReadyH.nil
          refine step_st32 rfl (.tmp 8) (.tmp 37) rfl ob rfl _ _ _ _ _ z3 rfl rfl ⟨rfl, rfl, rfl, rfl⟩ ?_
          intro wn hwn hgn
          refine hK.out _ _ (Below.grown hS hgn (Below.size hS) (fun j hj => by cases hj; exact hob)) (fun hS => ?_)
          clear hK K
          refine wpAnyH_done (by kernel_rfl) ?_ _
          go_wp2_with fail
          go_meet
          exact ⟨ob, _, _, _, rfl, hob, hwn, LL.other v3 hgn ⟨_, _, z3⟩ (by decide) (by decide), hS⟩
      case rest =>
        obtain ⟨q, p, m, c, rfl, hq, hz, hl, hb⟩ := hcut
        have HB := hid2 hb
        have HQ := hid2 hz
        have HL := hid2 hl
        have ZZ0 := hid2 (HZ0.out.stays hb)
        have ZZ1 := hid2 (HZ1.out.stays hb)
        clear c0 c1 c2 c3 c4 q0 q1 ca qF cFx C0 C1
        obtain ⟨g0, a0, a1, a2, a3, a4⟩ := ZZ0.out.cells
        obtain ⟨d0, d1, d2, d3, d4, d5⟩ := hz.cells
        clear hz hl hb
        go_upto_region 8 with fail
        obtain ⟨o, ho, ho1⟩ : ∃ o, (if cF = 1 then some (⟨bF, oF, none⟩ : Addr) else some ⟨bF, oF + 1, none⟩) = some ⟨bF, o, none⟩ ∧ (cF ≠ 1 → o = oF + 1) := by
          by_cases h1 : cF = 1
          · exact ⟨oF, by rw [if_pos h1], fun h => absurd h1 h⟩
          · exact ⟨oF + 1, by rw [if_neg h1], fun _ => rfl⟩
        rw [ho]
        have hf1 := HTL.out o ho1
        rw [show r.length = nF - 1 by have := HRL.out; omega] at hf1
        obtain ⟨m1, hm1⟩ : ∃ m1, nF - 1 = m1 := ⟨_, rfl⟩
        obtain ⟨c1, hc1⟩ : ∃ c1, cF - 1 = c1 := ⟨_, rfl⟩
        rw [hm1, hc1] at hf1 ⊢
        clear ho ho1 hm1 hc1 d0 d1 d2 d3 d4 d5 g0 a0 a1 a2 a3 a4
        obtain ⟨w4, hw4⟩ : ∃ w4, w4 = wc.setCell ⟨q, 1, none⟩ (.slice (some ⟨bF, o, none⟩) m1 c1) := ⟨_, rfl⟩
        rw [← hw4]
        have Q4 : Hid (Four w4 q (.slice p m c) (.slice (some ⟨bF, o, none⟩) m1 c1) (.slice pU nU cU) n) := by rw [hw4]; exact HQ.out.set1 _
        have R4 : Hid (wc.grownBy w4 (some q)) := by rw [hw4]; exact grown_set (World.grownBy.refl _ _) _ _
        clear hw4
        have L4 := hid2 (HL.out.other R4.out HQ.out.tag (by decide) (by decide))
        have F4 := hid2 ((hf1.stays HB.out).other R4.out HQ.out.tag (by decide))
        have U4 := hid2 ((HU.out.stays HB.out).other R4.out HQ.out.tag (by decide))
        have X0 := hid2 (ZZ0.out.grown R4.out (by simp; omega))
        have X1 := hid2 (ZZ1.out.grown R4.out (by simp; omega))
        have B4 := hid2 (HB.out.grown R4.out HB.out.size (fun j hj => by cases hj; exact hq))
        clear hf1
        obtain ⟨g0, a0, a1, a2, a3, a4⟩ := X0.out.cells
        go_wp2_with fail
        refine (ahead_any U4.out (Nat.le_trans HB1.out B4.out.size) (by have := hUl.out; omega) x).mono ?_
        rintro e w5 ⟨u, rfl, hu, hb5⟩
        obtain ⟨p5, m5, c5, rfl⟩ := hu.letters
        have U5 := hid2 hu
        have Q5 := hid2 (Q4.out.stays hb5)
        have L5 := hid2 (L4.out.stays hb5)
        have F5 := hid2 (F4.out.stays hb5)
        have X5 := hid2 (X1.out.stays hb5)
        have B5 := hid2 (B4.out.trans (hb5.mono B4.out.size))
        obtain ⟨d0, d1, d2, d3, d4, d5⟩ := Q5.out.cells
        clear hu hb5 g0 a0 a1 a2 a3 a4
        go_upto_region 9 with fail
        obtain ⟨w6, hw6⟩ : ∃ w6, w6 = w5.setCell ⟨q, 2, none⟩ (.slice p5 m5 c5) := ⟨_, rfl⟩
        rw [← hw6]
        have Q6 : Hid (Four w6 q (.slice p m c) (.slice (some ⟨bF, o, none⟩) m1 c1) (.slice p5 m5 c5) n) := by rw [hw6]; exact Q5.out.set2 _
        have R6 : Hid (w5.grownBy w6 (some q)) := by rw [hw6]; exact grown_set (World.grownBy.refl _ _) _ _
        clear hw6 d0 d1 d2 d3 d4 d5
        have L6 := hid2 (L5.out.other R6.out Q5.out.tag (by decide) (by decide))
        have F6 := hid2 (F5.out.other R6.out Q5.out.tag (by decide))
        have U6 := hid2 (U5.out.other R6.out Q5.out.tag (by decide))
        have X6 := hid2 (X5.out.grown R6.out (by simp; omega))
        have B6 := hid2 (B5.out.grown R6.out B5.out.size (fun j hj => by cases hj; exact hq))
        obtain ⟨d0, d1, d2, d3, d4, d5⟩ := Q6.out.cells
        go_wp2_with (refine st32 rfl (.tmp 4) (.tmp 47) rfl (w.heap.size + 1) rfl _ _ _ _ _ X6.out rfl rfl ⟨rfl, rfl, rfl, rfl⟩ ?_; intro w7 hz7 hg7)
        refine bodyPost_ret (results32c Tryd.results29 _ _ (w.heap.size + 1) rfl _ _ _ _ 32 (0, 0) hz7 (.int .i64 x) (.int .i64 0) rfl rfl) rfl ⟨_, rfl, ⟨_, _, _, _, _, _, _, _, _, rfl, L6.out.other hg7 X6.out.tag (by decide) (by decide), F6.out.other hg7 X6.out.tag (by decide), U6.out.other hg7 X6.out.tag (by decide)⟩, ?_⟩
        exact (HA.out.trans (B6.out.mono HA.out.size)).grown hg7 (HA.out.trans (B6.out.mono HA.out.size)).size (fun j hj => by cases hj; omega)
end Go.Proofs.YtibplphpbbajhaaDoor
