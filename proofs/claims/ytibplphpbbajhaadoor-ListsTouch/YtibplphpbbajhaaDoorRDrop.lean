/-
  Drop of the document.
-/
import Derived.Test.YtibplphpbbajhaaDoorRAdd
import Derived.Deep.DeepCutAuto
namespace Go.Proofs.YtibplphpbbajhaaDoor
open Go.RowKit

theorem fnd_at {L : List (List Int)} {i : Nat} {x : Int} : fnd L i x = -1 ∨ ∃ k a, fnd L i x = ((i + k : Nat) : Int) ∧ L[k]? = some a := by
  induction L generalizing i with
  | nil => exact .inl rfl
  | cons b r ih =>
    unfold fnd
    by_cases h : x ∈ b
    · rw [if_pos h]; exact .inr ⟨0, b, rfl, rfl⟩
    · rw [if_neg h]
      rcases ih (i := i + 1) with e | ⟨k, a, e, ha⟩
      · exact .inl e
      · exact .inr ⟨k + 1, a, by rw [e]; congr 1; omega, ha⟩
theorem where_at {L : List (List Int)} {x : Int} (h : 0 ≤ whereP L x) : ∃ (k : Nat) (a : List Int), whereP L x = (k : Int) ∧ L[k]? = some a := by
  unfold whereP at h ⊢
  rcases fnd_at (L := L) (i := 0) (x := x) with e | ⟨k, a, e, ha⟩
  · rw [e] at h; omega
  · exact ⟨k, a, by rw [e, Nat.zero_add], ha⟩
theorem but_le (l : List Int) (x : Int) : (but l x).length ≤ l.length := List.length_filter_le _ _

set_option maxHeartbeats 4000000 in
set_option maxRecDepth 10000 in
theorem rdrop_any {w : World} {B : Nat} {v : Value} {s : Lst} (h : RV w B v s) (hf : Fit s) (hB : B ≤ w.heap.size) (x : Int) :
    Calls Tryd.prog 30 #[v, .int .i64 x] w fun e w' => ∃ u, e = .returned (.tuple #[u, .int .i64 (dropP s x).2]) ∧ RV w' B u (dropP s x).1 ∧ Below w.heap.size w w' := by
  have HV := hid2 h
  obtain ⟨pL, nL, cL, pF, nF, cF, pU, nU, cU, rfl, hL, hF, hU⟩ := h
  obtain ⟨f1, f2, f3, f4⟩ := hf
  obtain ⟨p0, c0, e0, e1, e2, hel⟩ := hL.each
  simp only [Value.slice.injEq] at e0
  obtain ⟨rfl, hnL, rfl⟩ := e0
  obtain ⟨wa, hw1⟩ : ∃ wa, wa = (w.alloc (.cells #[.slice pL nL cL, .slice pF nF cF, .slice pU nU cU, .int .i64 s.n] 32)).alloc (.cells #[.slice none 0 0, .slice none 0 0, .slice none 0 0, .int .i64 0] 32) := ⟨_, rfl⟩
  have A1 : Below w.heap.size w wa := by rw [hw1]; go_grown
  obtain ⟨Z0, Z1⟩ := (show Four wa w.heap.size (.slice pL nL cL) (.slice pF nF cF) (.slice pU nU cU) s.n ∧ Four wa (w.heap.size + 1) (.slice none 0 0) (.slice none 0 0) (.slice none 0 0) 0 by rw [hw1]; exact two_laid)
  have s1 : wa.heap.size = w.heap.size + 2 := by rw [hw1]; simp
  have HA := hid2 A1
  have HZ0 := hid2 Z0
  have HZ1 := hid2 Z1
  have HW := hid2 hw1
  have HS := hid2 s1
  have hL1 := hL.stays A1
  have hF1 := hF.stays A1
  have hU1 := hU.stays A1
  have KA := hid2 (at_any (pF := pF) (nF := nF) (cF := cF) (pU := pU) (nU := nU) (cU := cU) hL1 f1 x)
  obtain ⟨q0, c0, c1, c2, c3, c4⟩ := HZ0.out.cells
  by_cases hz : atP s x = 0
  · obtain ⟨k, a, hk, ha⟩ := where_at (atP_zero hz).1
    have hga : getL s (whereP s.L x) = a := by unfold getL; rw [hk, Int.toNat_natCast, ha]; rfl
    have e : dropP s x = (⟨s.L.set k (but a x), x :: s.F, but s.U x, s.n⟩, 0) := by unfold dropP; rw [if_neg (by rw [hz]; simp)]; unfold setL; rw [hga, hk, Int.toNat_natCast]
    rw [e]
    rw [hz] at KA
    have hal : a.length ≤ 100 := f4 a (List.mem_of_getElem? ha)
    obtain ⟨bL, oL, uA, rfl, r1, ra, hA⟩ := hel k a ha
    obtain ⟨pA, nA, cA, rfl⟩ := hA.letters
    have hkL : k < nL := by have := (List.getElem?_eq_some_iff.1 ha).1; omega
    have KR := hid2 (fun W (q : LL W B (.slice (some ⟨bL, oL, none⟩) nL cL) s.L) => rlist_any (pF := pF) (nF := nF) (cF := cF) (pU := pU) (nU := nU) (cU := cU) q f1 s.n x)
    rw [hk] at KR
    have HL1 := hid2 hL1
    have HL0 := hid2 hL
    have HF0 := hid2 hF
    have HU0 := hid2 hU
    have HAA := hid2 hA
    have RR := hid2 (And.intro r1 ra)
    have HLEN := hid2 (And.intro f1 (And.intro f2 (And.intro f3 hal)))
    have HNL := hid2 hnL
    generalize hLs : s.L.set k (but a x) = L' at *
    have HLS := hid2 hLs
    have HKA := hid2 ha
    generalize s.n = n at *
    clear hel hnL e hw1 A1 Z0 Z1 hL1 hF1 hU1 f4 hF hU hL HV ha hga hal hA f1 f2 f3 hLs r1 ra hz hk e1
    unfold maxLen at e2
    go_enter Tryd.func30, Tryd.ntmps30
    go_wp2_with fail
    rw [← HW.out]
    clear HW
    refine (show Calls _ _ _ _ _ from KA.out).mono ?_
    rintro e wb ⟨rfl, hb⟩
    have Y0 := hid2 (HZ0.out.stays hb)
    have HB0 := hid2 hb
    clear c0 c1 c2 c3 c4 q0 hb KA
    obtain ⟨q0, c0, c1, c2, c3, c4⟩ := Y0.out.cells
    go_wp2_with fail
    refine (show Calls _ _ _ _ _ from KR.out _ (HL1.out.stays HB0.out)).mono ?_
    rintro e w1 ⟨rfl, hb⟩
    have HA1 := hid2 (HA.out.trans ((HB0.out.trans (hb.mono HB0.out.size)).mono HA.out.size))
    have HZ10 := hid2 (Y0.out.stays hb)
    have HZ11 := hid2 ((HZ1.out.stays HB0.out).stays hb)
    have s1' : w.heap.size + 2 ≤ w1.heap.size := by have := HB0.out.size; have := hb.size; have := HS.out; omega
    clear c0 c1 c2 c3 c4 q0 hb KR Y0 s1
    obtain ⟨q0, c0, c1, c2, c3, c4⟩ := HZ10.out.cells
    have q1 := Nat.lt_of_lt_of_le RR.out.1 HA1.out.size
    have ca := (HA1.out.cell (p := ⟨bL, oL + k, none⟩) RR.out.1).trans RR.out.2
    have hA := HAA.out.stays HA1.out
    have hL1 := HL0.out.stays HA1.out
    have HF := hid2 (HF0.out.stays HA1.out)
    have HU := hid2 (HU0.out.stays HA1.out)
    have hB1 : B ≤ w1.heap.size := Nat.le_trans hB HA1.out.size
    have HB1 := hid2 hB1
    have C0 := hid2 (fun W (hb : Below w1.heap.size w1 W) => but_any (hA.stays hb) (Nat.le_trans hB1 hb.size) (by have := HLEN.out.2.2.2; omega) x)
    have C1 := hid2 (fun W (hb : Below w1.heap.size w1 W) p m c (hl : Ls W B (.slice p m c) (but a x)) => (show Calls Tryd.prog 39 #[.agg #[.slice (some ⟨bL, oL, none⟩) nL cL, .slice pF nF cF, .slice pU nU cU, .int .i64 n], .int .i64 (k : Int), .slice p m c] W (fun e w' => ∃ p' c', e = .returned (.agg #[.slice p' nL c', .slice pF nF cF, .slice pU nU cU, .int .i64 n]) ∧ LL w' B (.slice p' nL c') L' ∧ Below W.heap.size W w') by
      have := with_any (pF := pF) (nF := nF) (cF := cF) (pU := pU) (nU := nU) (cU := cU) (hL1.stays hb) hl (Nat.le_trans hB1 hb.size) HLEN.out.1 n (k := k) (by have := HNL.out; omega)
      rwa [← HNL.out, HLS.out] at this))
    clear hA hL1 hB1
    go_upto_region 5 with fail
    go_cut [8] (fun vv wx => WMid w1 B (.slice pF nF cF) (.slice pU nU cU) n L' vv wx)
    case first =>
      refine wp_region_held_drew (S := fun W => Below w1.heap.size w1 W) (by kernel_rfl) ((Below.refl _ _).drew) (fun hS => ?_)
      change wpAnyH _ _ _ _ _ _ _ _ (World.drew _)
      obtain ⟨w0c, hwc⟩ : ∃ wc, wc = World.drew w1 := ⟨_, rfl⟩
      rw [← hwc] at hS ⊢
      clear hwc
      refine wpAnyH_take (i := 0) (v := .agg #[.slice (some ⟨bL, oL, none⟩) nL cL, .slice pF nF cF, .slice pU nU cU, .int .i64 n]) rfl (by kernel_rfl) (by kernel_rfl) (by kernel_rfl) (fun _ _ _ h => h) (Or.inl ⟨by kernel_rfl, ?_⟩) hS ?_
      · intro W hw
        have f0 := (Below.cell (p := ⟨w.heap.size, 0, none⟩) hw q0).trans c0
        have f1 := (Below.cell (p := ⟨w.heap.size, 1, none⟩) hw q0).trans c1
        have f2 := (Below.cell (p := ⟨w.heap.size, 2, none⟩) hw q0).trans c2
        have f3 := (Below.cell (p := ⟨w.heap.size, 3, none⟩) hw q0).trans c3
        have l0 := Nat.lt_of_lt_of_le q0 (Below.size hw)
        clear hw
        go_simp
      change wpAnyH _ _ _ _ _ _ _ (Act.put _ (some 19) _) _
      simp only [Act.put, List.setIfInBounds_toArray, List.set_cons_succ, List.set_cons_zero]
      refine wpAnyH_take (i := 1) (v := .int .i64 (k : Int)) rfl (by kernel_rfl) (by kernel_rfl) (by kernel_rfl) (fun _ _ _ h => h) (Or.inl ⟨by kernel_rfl, ?_⟩) hS ?_
      · intro w hw; clear hw; go_simp
      change wpAnyH _ _ _ _ _ _ _ (Act.put _ (some 20) _) _
      simp only [Act.put, List.setIfInBounds_toArray, List.set_cons_succ, List.set_cons_zero]
      refine wpAnyH_take (i := 2) (v := .pointer (some ⟨w.heap.size, 0, none⟩)) rfl (by kernel_rfl) (by kernel_rfl) (by kernel_rfl) (fun _ _ _ h => h) (Or.inl ⟨by kernel_rfl, ?_⟩) hS ?_
      · intro w hw; clear hw; go_simp
      change wpAnyH _ _ _ _ _ _ _ (Act.put _ (some 21) _) _
      simp only [Act.put, List.setIfInBounds_toArray, List.set_cons_succ, List.set_cons_zero]
      refine wpAnyH_take (i := 3) (v := .slice (some ⟨bL, oL, none⟩) nL cL) rfl (by kernel_rfl) (by kernel_rfl) (by kernel_rfl) (fun _ _ _ h => h) (Or.inl ⟨by kernel_rfl, ?_⟩) hS ?_
      · intro W hw
        have f0 := (Below.cell (p := ⟨w.heap.size, 0, none⟩) hw q0).trans c0
        have l0 := Nat.lt_of_lt_of_le q0 (Below.size hw)
        clear hw
        go_simp
      change wpAnyH _ _ _ _ _ _ _ (Act.put _ (some 22) _) _
      simp only [Act.put, List.setIfInBounds_toArray, List.set_cons_succ, List.set_cons_zero]
      refine wpAnyH_take (i := 4) (v := .int .i64 (k : Int)) rfl (by kernel_rfl) (by kernel_rfl) (by kernel_rfl) (fun _ _ _ h => h) (Or.inl ⟨by kernel_rfl, ?_⟩) hS ?_
      · intro w hw; clear hw; go_simp
      change wpAnyH _ _ _ _ _ _ _ (Act.put _ (some 23) _) _
      simp only [Act.put, List.setIfInBounds_toArray, List.set_cons_succ, List.set_cons_zero]
      refine wpAnyH_take (i := 5) (v := .pointer (some ⟨bL, oL + k, none⟩)) rfl (by kernel_rfl) (by kernel_rfl) (by kernel_rfl) (fun _ _ _ h => h) (Or.inl ⟨by kernel_rfl, ?_⟩) hS ?_
      · intro w hw; clear hw; go_simp
      change wpAnyH _ _ _ _ _ _ _ (Act.put _ (some 24) _) _
      simp only [Act.put, List.setIfInBounds_toArray, List.set_cons_succ, List.set_cons_zero]
      refine wpAnyH_take (i := 6) (v := .slice pA nA cA) rfl (by kernel_rfl) (by kernel_rfl) (by kernel_rfl) (fun _ _ _ h => h) (Or.inl ⟨by kernel_rfl, ?_⟩) hS ?_
      · intro W hw
        have f0 := (Below.cell (p := ⟨bL, oL + k, none⟩) hw q1).trans ca
        have l0 := Nat.lt_of_lt_of_le q1 (Below.size hw)
        clear hw
        go_simp
      change wpAnyH _ _ _ _ _ _ _ (Act.put _ (some 25) _) _
      simp only [Act.put, List.setIfInBounds_toArray, List.set_cons_succ, List.set_cons_zero]
      refine wpAnyH_take (i := 7) (v := .int .i64 x) rfl (by kernel_rfl) (by kernel_rfl) (by kernel_rfl) (fun _ _ _ h => h) (Or.inl ⟨by kernel_rfl, ?_⟩) hS ?_
      · intro w hw; clear hw; go_simp
      change wpAnyH _ _ _ _ _ _ _ (Act.put _ (some 26) _) _
      simp only [Act.put, List.setIfInBounds_toArray, List.set_cons_succ, List.set_cons_zero]
      refine wpAnyH_ready (rs := [8, 10]) (by kernel_rfl) (by simp) ?_
      refine AllReadyH.cons rfl (fun K hK => ?_) (AllReadyH.cons rfl (fun K hK => ?_) AllReadyH.nil)
      · go_simp
        go_wp2_with fail
        refine (show Calls _ _ _ _ _ from C0.out w0c hS).mono ?_
        rintro en w1c ⟨u1, rfl, v1, y1⟩
        obtain ⟨p1, m1, c1, rfl⟩ := v1.letters
        refine hK.out _ _ (Below.trans hS (Below.mono y1 (Below.size hS))) (fun hS => ?_)
        clear hK K
        clear y1
        refine wpAnyH_ready (rs := [9, 10]) (by kernel_rfl) (by simp) ?_
        refine AllReadyH.cons rfl (fun K hK => ?_) (AllReadyH.cons rfl (fun K hK => ?_) AllReadyH.nil)
        · go_simp
          go_wp2_with fail
          refine (show Calls _ _ _ _ _ from C1.out w1c hS _ _ _ v1).mono ?_
          rintro en w2c ⟨p2, c2, rfl, v2, y2⟩
          refine hK.out _ _ (Below.trans hS (Below.mono y2 (Below.size hS))) (fun hS => ?_)
          clear hK K
          clear y2
          refine wpAnyH_ready (rs := [10]) (by kernel_rfl) (by simp) ?_
          refine AllReadyH.cons rfl (fun K hK => ?_) AllReadyH.nil
          go_simp
          go_wp2_with fail
          obtain ⟨w3c, hwn⟩ : ∃ wn, wn = w2c.alloc (.cells #[.slice none 0 0, .slice none 0 0, .slice none 0 0, .int .i64 0] 32) := ⟨_, rfl⟩
          rw [← hwn]
          have y3 : Below w2c.heap.size w2c w3c := by rw [hwn]; go_grown
          have z3 : Four w3c w2c.heap.size (.slice none 0 0) (.slice none 0 0) (.slice none 0 0) 0 := by rw [hwn]; exact four_new w2c _ _ _ _
          have hob : w1.heap.size ≤ w2c.heap.size := Below.size hS
          clear hwn
          refine hK.out _ _ (Below.trans hS (Below.mono y3 (Below.size hS))) (fun hS => ?_)
          clear hK K
          have v3 := v2.stays y3
          clear v2
          clear y3
          generalize w2c.heap.size = ob at *
          refine wpAnyH_ready (rs := [11]) (by kernel_rfl) (by simp) ?_
          refine AllReadyH.cons rfl (fun K hK => ?_) AllReadyH.nil
          refine step_st32 rfl (.tmp 8) (.tmp 28) rfl ob rfl _ _ _ _ _ z3 rfl rfl ⟨rfl, rfl, rfl, rfl⟩ ?_
          intro wn hwn hgn
          refine hK.out _ _ (Below.grown hS hgn (Below.size hS) (fun j hj => by cases hj; exact hob)) (fun hS => ?_)
          clear hK K
          refine wpAnyH_done (by kernel_rfl) ?_ _
          go_wp2_with fail
          go_meet
          exact ⟨ob, _, _, _, rfl, hob, hwn, LL.other v3 hgn ⟨_, _, z3⟩ (by decide) (by decide), hS⟩
        · go_simp
          go_wp2_with fail
          obtain ⟨w2c, hwn⟩ : ∃ wn, wn = w1c.alloc (.cells #[.slice none 0 0, .slice none 0 0, .slice none 0 0, .int .i64 0] 32) := ⟨_, rfl⟩
          rw [← hwn]
          have y2 : Below w1c.heap.size w1c w2c := by rw [hwn]; go_grown
          have z2 : Four w2c w1c.heap.size (.slice none 0 0) (.slice none 0 0) (.slice none 0 0) 0 := by rw [hwn]; exact four_new w1c _ _ _ _
          have hob : w1.heap.size ≤ w1c.heap.size := Below.size hS
          clear hwn
          refine hK.out _ _ (Below.trans hS (Below.mono y2 (Below.size hS))) (fun hS => ?_)
          clear hK K
          have v2 := v1.stays y2
          clear v1
          clear y2
          generalize w1c.heap.size = ob at *
          refine wpAnyH_ready (rs := [9]) (by kernel_rfl) (by simp) ?_
          refine AllReadyH.cons rfl (fun K hK => ?_) AllReadyH.nil
          go_simp
          go_wp2_with fail
          refine (show Calls _ _ _ _ _ from C1.out w2c hS _ _ _ v2).mono ?_
          rintro en w3c ⟨p3, c3, rfl, v3, y3⟩
          refine hK.out _ _ (Below.trans hS (Below.mono y3 (Below.size hS))) (fun hS => ?_)
          clear hK K
          have z3 := z2.stays y3
          clear z2
          clear y3
          refine wpAnyH_ready (rs := [11]) (by kernel_rfl) (by simp) ?_
          refine AllReadyH.cons rfl (fun K hK => ?_) AllReadyH.nil
          refine step_st32 rfl (.tmp 8) (.tmp 28) rfl ob rfl _ _ _ _ _ z3 rfl rfl ⟨rfl, rfl, rfl, rfl⟩ ?_
          intro wn hwn hgn
          refine hK.out _ _ (Below.grown hS hgn (Below.size hS) (fun j hj => by cases hj; exact hob)) (fun hS => ?_)
          clear hK K
          refine wpAnyH_done (by kernel_rfl) ?_ _
          go_wp2_with fail
          go_meet
          exact ⟨ob, _, _, _, rfl, hob, hwn, LL.other v3 hgn ⟨_, _, z3⟩ (by decide) (by decide), hS⟩
      · go_simp
        go_wp2_with fail
        obtain ⟨w1c, hwn⟩ : ∃ wn, wn = w0c.alloc (.cells #[.slice none 0 0, .slice none 0 0, .slice none 0 0, .int .i64 0] 32) := ⟨_, rfl⟩
        rw [← hwn]
        have y1 : Below w0c.heap.size w0c w1c := by rw [hwn]; go_grown
        have z1 : Four w1c w0c.heap.size (.slice none 0 0) (.slice none 0 0) (.slice none 0 0) 0 := by rw [hwn]; exact four_new w0c _ _ _ _
        have hob : w1.heap.size ≤ w0c.heap.size := Below.size hS
        clear hwn
        refine hK.out _ _ (Below.trans hS (Below.mono y1 (Below.size hS))) (fun hS => ?_)
        clear hK K
        clear y1
        generalize w0c.heap.size = ob at *
        refine wpAnyH_ready (rs := [8]) (by kernel_rfl) (by simp) ?_
        refine AllReadyH.cons rfl (fun K hK => ?_) AllReadyH.nil
        go_simp
        go_wp2_with fail
        refine (show Calls _ _ _ _ _ from C0.out w1c hS).mono ?_
        rintro en w2c ⟨u2, rfl, v2, y2⟩
        obtain ⟨p2, m2, c2, rfl⟩ := v2.letters
        refine hK.out _ _ (Below.trans hS (Below.mono y2 (Below.size hS))) (fun hS => ?_)
        clear hK K
        have z2 := z1.stays y2
        clear z1
        clear y2
        refine wpAnyH_ready (rs := [9]) (by kernel_rfl) (by simp) ?_
        refine AllReadyH.cons rfl (fun K hK => ?_) AllReadyH.nil
        go_simp
        go_wp2_with fail
        refine (show Calls _ _ _ _ _ from C1.out w2c hS _ _ _ v2).mono ?_
        rintro en w3c ⟨p3, c3, rfl, v3, y3⟩
        refine hK.out _ _ (Below.trans hS (Below.mono y3 (Below.size hS))) (fun hS => ?_)
        clear hK K
        have z3 := z2.stays y3
        clear z2
        clear y3
        refine wpAnyH_ready (rs := [11]) (by kernel_rfl) (by simp) ?_
        refine AllReadyH.cons rfl (fun K hK => ?_) AllReadyH.nil
        refine step_st32 rfl (.tmp 8) (.tmp 28) rfl ob rfl _ _ _ _ _ z3 rfl rfl ⟨rfl, rfl, rfl, rfl⟩ ?_
        intro wn hwn hgn
        refine hK.out _ _ (Below.grown hS hgn (Below.size hS) (fun j hj => by cases hj; exact hob)) (fun hS => ?_)
        clear hK K
        refine wpAnyH_done (by kernel_rfl) ?_ _
        go_wp2_with fail
        go_meet
        exact ⟨ob, _, _, _, rfl, hob, hwn, LL.other v3 hgn ⟨_, _, z3⟩ (by decide) (by decide), hS⟩
    case rest =>
      obtain ⟨q, p, m, c, rfl, hq, hz, hl, hb⟩ := hcut
      have HB := hid2 hb
      have Q := hid2 hz
      have L := hid2 hl
      have F := hid2 (HF.out.stays hb)
      have U := hid2 (HU.out.stays hb)
      have X0 := hid2 (HZ10.out.stays hb)
      have X1 := hid2 (HZ11.out.stays hb)
      clear c0 c1 c2 c3 c4 q0 q1 ca C0 C1 hz hl hb
      obtain ⟨g0, a0, a1, a2, a3, a4⟩ := X0.out.cells
      obtain ⟨d0, d1, d2, d3, d4, d5⟩ := Q.out.cells
      go_wp2_with fail
      refine (ahead_any F.out (Nat.le_trans HB1.out HB.out.size) (by have := HLEN.out.2.1; omega) x).mono ?_
      rintro e ws5 ⟨u, rfl, hu, hb⟩
      obtain ⟨p5, m5, c5, rfl⟩ := hu.letters
      have N5 := hid2 hu
      have HBn := hid2 (HB.out.trans (hb.mono HB.out.size))
      have Qn := hid2 (Q.out.stays hb)
      have Ln := hid2 (L.out.stays hb)
      have Fn := hid2 (F.out.stays hb)
      have Un := hid2 (U.out.stays hb)
      have X0n := hid2 (X0.out.stays hb)
      have X1n := hid2 (X1.out.stays hb)
      clear HB Q L F U X0 X1 g0 a0 a1 a2 a3 a4 d0 d1 d2 d3 d4 d5 hb
      clear hu
      have HB := hid2 HBn.out
      clear HBn
      have Q := hid2 Qn.out
      clear Qn
      have L := hid2 Ln.out
      clear Ln
      have F := hid2 Fn.out
      clear Fn
      have U := hid2 Un.out
      clear Un
      have X0 := hid2 X0n.out
      clear X0n
      have X1 := hid2 X1n.out
      clear X1n
      obtain ⟨g0, a0, a1, a2, a3, a4⟩ := X0.out.cells
      obtain ⟨d0, d1, d2, d3, d4, d5⟩ := Q.out.cells
      go_upto_region 7 with fail
      obtain ⟨w6, hw6⟩ : ∃ w6, w6 = ws5.setCell ⟨q, 1, none⟩ (.slice p5 m5 c5) := ⟨_, rfl⟩
      rw [← hw6]
      have Qn : Hid (Four w6 q (.slice p m c) (.slice p5 m5 c5) (.slice pU nU cU) n) := by rw [hw6]; exact Q.out.set1 _
      have R6 : Hid (ws5.grownBy w6 (some q)) := by rw [hw6]; exact grown_set (World.grownBy.refl _ _) _ _
      clear hw6 g0 a0 a1 a2 a3 a4 d0 d1 d2 d3 d4 d5
      have Ln := hid2 (L.out.other R6.out Q.out.tag (by decide) (by decide))
      have Fn := hid2 (F.out.other R6.out Q.out.tag (by decide))
      have Un := hid2 (U.out.other R6.out Q.out.tag (by decide))
      have X0n := hid2 (X0.out.grown R6.out (by simp; omega))
      have X1n := hid2 (X1.out.grown R6.out (by simp; omega))
      have HBn := hid2 (HB.out.grown R6.out HB.out.size (fun j hj => by cases hj; exact hq))
      have Nn5 := hid2 (N5.out.other R6.out Q.out.tag (by decide))
      clear N5
      have N5 := hid2 Nn5.out
      clear Nn5
      clear HB Q L F U X0 X1 R6
      have HB := hid2 HBn.out
      clear HBn
      have Q := hid2 Qn.out
      clear Qn
      have L := hid2 Ln.out
      clear Ln
      have F := hid2 Fn.out
      clear Fn
      have U := hid2 Un.out
      clear Un
      have X0 := hid2 X0n.out
      clear X0n
      have X1 := hid2 X1n.out
      clear X1n
      obtain ⟨g0, a0, a1, a2, a3, a4⟩ := X0.out.cells
      obtain ⟨d0, d1, d2, d3, d4, d5⟩ := Q.out.cells
      go_wp2_with fail
      refine (but_any U.out (Nat.le_trans HB1.out HB.out.size) (by have := HLEN.out.2.2.1; omega) x).mono ?_
      rintro e ws8 ⟨u, rfl, hu, hb⟩
      obtain ⟨p8, m8, c8, rfl⟩ := hu.letters
      have N8 := hid2 hu
      have Nn5 := hid2 (N5.out.stays hb)
      clear N5
      have N5 := hid2 Nn5.out
      clear Nn5
      have HBn := hid2 (HB.out.trans (hb.mono HB.out.size))
      have Qn := hid2 (Q.out.stays hb)
      have Ln := hid2 (L.out.stays hb)
      have Fn := hid2 (F.out.stays hb)
      have Un := hid2 (U.out.stays hb)
      have X0n := hid2 (X0.out.stays hb)
      have X1n := hid2 (X1.out.stays hb)
      clear HB Q L F U X0 X1 g0 a0 a1 a2 a3 a4 d0 d1 d2 d3 d4 d5 hb
      clear hu
      have HB := hid2 HBn.out
      clear HBn
      have Q := hid2 Qn.out
      clear Qn
      have L := hid2 Ln.out
      clear Ln
      have F := hid2 Fn.out
      clear Fn
      have U := hid2 Un.out
      clear Un
      have X0 := hid2 X0n.out
      clear X0n
      have X1 := hid2 X1n.out
      clear X1n
      obtain ⟨g0, a0, a1, a2, a3, a4⟩ := X0.out.cells
      obtain ⟨d0, d1, d2, d3, d4, d5⟩ := Q.out.cells
      go_upto_region 8 with fail
      obtain ⟨w9, hw6⟩ : ∃ w6, w6 = ws8.setCell ⟨q, 2, none⟩ (.slice p8 m8 c8) := ⟨_, rfl⟩
      rw [← hw6]
      have Qn : Hid (Four w9 q (.slice p m c) (.slice p5 m5 c5) (.slice p8 m8 c8) n) := by rw [hw6]; exact Q.out.set2 _
      have R6 : Hid (ws8.grownBy w9 (some q)) := by rw [hw6]; exact grown_set (World.grownBy.refl _ _) _ _
      clear hw6 g0 a0 a1 a2 a3 a4 d0 d1 d2 d3 d4 d5
      have Ln := hid2 (L.out.other R6.out Q.out.tag (by decide) (by decide))
      have Fn := hid2 (F.out.other R6.out Q.out.tag (by decide))
      have Un := hid2 (U.out.other R6.out Q.out.tag (by decide))
      have X0n := hid2 (X0.out.grown R6.out (by simp; omega))
      have X1n := hid2 (X1.out.grown R6.out (by simp; omega))
      have HBn := hid2 (HB.out.grown R6.out HB.out.size (fun j hj => by cases hj; exact hq))
      have Nn8 := hid2 (N8.out.other R6.out Q.out.tag (by decide))
      clear N8
      have N8 := hid2 Nn8.out
      clear Nn8
      have Nn5 := hid2 (N5.out.other R6.out Q.out.tag (by decide))
      clear N5
      have N5 := hid2 Nn5.out
      clear Nn5
      clear HB Q L F U X0 X1 R6
      have HB := hid2 HBn.out
      clear HBn
      have Q := hid2 Qn.out
      clear Qn
      have L := hid2 Ln.out
      clear Ln
      have F := hid2 Fn.out
      clear Fn
      have U := hid2 Un.out
      clear Un
      have X0 := hid2 X0n.out
      clear X0n
      have X1 := hid2 X1n.out
      clear X1n
      obtain ⟨d0, d1, d2, d3, d4, d5⟩ := Q.out.cells
      go_wp2_with (refine st32 rfl (.tmp 4) (.tmp 39) rfl (w.heap.size + 1) rfl _ _ _ _ _ X1.out rfl rfl ⟨rfl, rfl, rfl, rfl⟩ ?_; intro w7 hz7 hg7)
      refine bodyPost_ret (results32 Tryd.results30 _ _ (w.heap.size + 1) rfl _ _ _ _ 32 (0, 0) hz7 (.int .i64 0) rfl) rfl ⟨_, rfl, ⟨_, _, _, _, _, _, _, _, _, rfl, L.out.other hg7 X1.out.tag (by decide) (by decide), N5.out.other hg7 X1.out.tag (by decide), N8.out.other hg7 X1.out.tag (by decide)⟩, ?_⟩
      exact (HA1.out.trans (HB.out.mono HA1.out.size)).grown hg7 (HA1.out.trans (HB.out.mono HA1.out.size)).size (fun j hj => by cases hj; omega)
  · have e : dropP s x = (s, atP s x) := by unfold dropP; rw [if_pos hz]
    rw [e]
    generalize atP s x = code at *
    have hd : (code != 0) = true := by rw [bne_iff_ne]; exact hz
    clear hel hnL e hw1 s1 A1 Z0 Z1 hL1 hF1 hU1 e1 e2 f4 hF hU hL hz f1 f2 f3
    go_enter Tryd.func30, Tryd.ntmps30
    go_wp2_with fail
    rw [← HW.out]
    clear HW
    refine (show Calls _ _ _ _ _ from KA.out).mono ?_
    rintro e wb ⟨rfl, hb⟩
    have Y0 := hid2 (HZ0.out.stays hb)
    have Y1 := hid2 (HZ1.out.stays hb)
    have HB0 := hid2 (HA.out.trans (hb.mono HA.out.size))
    clear c0 c1 c2 c3 c4 q0 hb KA
    obtain ⟨q0, c0, c1, c2, c3, c4⟩ := Y0.out.cells
    go_wp2_with (refine st32 rfl (.tmp 4) (.tmp 14) rfl (w.heap.size + 1) rfl _ _ _ _ _ Y1.out rfl rfl ⟨rfl, rfl, rfl, rfl⟩ ?_; intro w5 hz5 hg5)
    have hb5 : Below w.heap.size w w5 := HB0.out.grown hg5 HB0.out.size (fun j hj => by cases hj; omega)
    exact bodyPost_ret (results32 Tryd.results30 _ _ (w.heap.size + 1) rfl _ _ _ _ 32 (0, 0) hz5 (.int .i64 code) rfl) rfl ⟨_, rfl, HV.out.stays hb5, hb5⟩
end Go.Proofs.YtibplphpbbajhaaDoor
