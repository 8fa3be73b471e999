/-
  The walk of the law ListsTouch.
-/
import Derived.Test.YtibplphpbbajhaaDoorLawSound
import Derived.Deep.DeepCutAuto
namespace Go.Proofs.YtibplphpbbajhaaDoor
open Go.RowKit

theorem but_head {l : List Int} {x : Int} : (x :: but l x).drop 1 = but l x := rfl

theorem Lx.touched {w : World} {B0 B g K n : Nat} {s : Lst} {M : Nat} (q : Lx w B0 B g K n s M) {x : Int} (hx : x ∈ s.U) :
    ∃ k : Nat, whereP s.L x = (k : Int) ∧ k < K ∧ touchP s x = (⟨setL s k (x :: but (getL s k) x), s.F, x :: but s.U x, s.n⟩, 0) ∧
      orderP ⟨setL s k (x :: but (getL s k) x), s.F, x :: but s.U x, s.n⟩ (k : Int) = x :: but (orderP s (k : Int)) x ∧ x ∈ orderP s (k : Int) ∧ (orderP s (k : Int)).length ≤ 40 ∧
      (but (orderP s (k : Int)) x).length + 1 = (orderP s (k : Int)).length ∧ (2 ≤ s.U.length → lastP (⟨setL s k (x :: but (getL s k) x), s.F, x :: but s.U x, s.n⟩ : Lst).U ≠ x) := by
  obtain ⟨h, l, N, t, f, _, _, _, o, v⟩ := q
  obtain ⟨_, hk, q0, q1⟩ := v.where_ hx
  have hw := v.ok.where_ hx
  have ho : orderP s (f x : Int) = getL s (f x : Int) := by unfold orderP; rw [if_pos ⟨by omega, by rw [v.len]; omega⟩]
  have hin : x ∈ getL s (f x : Int) := by rw [v.get hk]; exact List.mem_filter.2 ⟨hx, by simp⟩
  have hnd : (getL s (f x : Int)).Nodup := by rw [v.get hk]; exact v.ok.ndU.filter _
  have ha : atP s x = 0 := by
    unfold atP
    rw [v.sn, if_neg (by omega), hw, if_neg (by omega)]
  refine ⟨f x, hw, hk, ?_, ?_, by rw [ho]; exact hin, ?_, by rw [ho]; exact but_length hnd hin, fun h2 => touch_last v.ok.ndU hx h2⟩
  · unfold touchP
    rw [if_neg (by rw [ha]; simp), hw]
  · rw [ho]
    unfold orderP setL
    rw [if_pos ⟨by omega, by simp [v.len]; omega⟩]
    show ((s.L.set _ _)[_]?).getD [] = _
    rw [Int.toNat_natCast, List.getElem?_set, if_pos rfl, if_pos (by rw [v.len]; exact hk)]; rfl
  · rw [ho, v.get hk]
    have := v.cnt
    have := o.n40
    exact Nat.le_trans (List.length_filter_le _ _) (by omega)

set_option maxHeartbeats 8000000 in
set_option maxRecDepth 10000 in
theorem touch_any {w : World} {v : Value} {os : List Act9} (hs : ActsAt w v os) (hE : ErrT w) (wh : Int) (hw0 : 0 ≤ wh) (hw1 : wh ≤ 255) : Calls Tryd.prog 5 #[v, .int .u8 wh] w fun e w' => e = .returned (.bool true) ∧ Below w.heap.size w w' := by
  obtain ⟨p, cap, rfl, hc1, hc2, hel⟩ := hs
  unfold maxLen at hc2
  have HEL := hid2 hel
  have HE := hid2 hE
  have KW := hid2 (works_any hE)
  have h0 := hid2 (show 0 < w.heap.size from lt_of_cell hE)
  have EE : Hid (∀ W, Below w.heap.size w W → ErrT W) := fun W h => HE.out.below h
  clear hel hE
  by_cases hg : 80 < os.length
  · have hg3 : 80 < (os.length : Int) := by omega
    clear hg
    go_enter Tryd.func5, Tryd.ntmps5
    go_wp2_with fail
    refine (show Calls _ _ _ _ _ from KW.out).mono ?_
    rintro e w1 ⟨rfl, hb⟩
    go_wp2
    go_ret
    exact ⟨rfl, hb⟩
  · have hg3 : ¬ 80 < (os.length : Int) := by omega
    have KN := hid2 (show Calls Tryd.prog 7 #[.int .i64 3, .int .i64 20] w _ from made_any w 3 20 (by omega) (by omega) (by omega) (by omega))
    have KR := hid2 (fun (W : World) (B : Nat) (h : B ≤ W.heap.size) => (show Calls Tryd.prog 8 #[.int .i64 3, .int .i64 20] W _ from rnew_good W h 3 20 (by omega) (by omega) (by omega) (by omega)))
    go_enter Tryd.func5, Tryd.ntmps5
    go_wp2_with fail
    refine (show Calls _ _ _ _ _ from KN.out).mono ?_
    rintro e w1 ⟨g, rfl, x1, b1⟩
    obtain ⟨B0, hB0⟩ : ∃ B0, B0 = w.heap.size := ⟨_, rfl⟩
    obtain ⟨B, hB⟩ : ∃ B, B = w1.heap.size := ⟨_, rfl⟩
    rw [← hB0, ← hB] at x1
    have X1 := hid2 x1
    have B1 := hid2 b1
    have HB0 := hid2 hB0
    have HBB := hid2 hB
    have H00 : Hid (0 < B0) := by show 0 < B0; rw [hB0]; exact h0.out
    clear x1 b1 hB0 hB KN
    go_wp2_with fail
    refine (show Calls _ _ _ _ _ from KR.out w1 B (Nat.le_of_eq HBB.out)).mono ?_
    rintro e w2 ⟨u, rfl, r2, b2⟩
    obtain ⟨pL, nL, cL, pF, nF, cF, pU, nU, cU, rn, rfl⟩ := r2.form
    have X2 := hid2 (X1.out.below b2)
    have R2 := hid2 r2
    have S2 : Hid (B ≤ w2.heap.size) := by have := HBB.out; have := b2.size; show _ ≤ _; omega
    have B2 := hid2 (B1.out.trans (b2.mono B1.out.size))
    clear r2 b2 X1 B1 KR HBB
    go_upto_region 7 with fail
    obtain ⟨w3, hw3⟩ : ∃ w3, w3 = w2.alloc (.cells #[.slice pL nL cL, .slice pF nF cF, .slice pU nU cU, .int .i64 rn] 32) := ⟨_, rfl⟩
    rw [← hw3]
    obtain ⟨bx, hbx⟩ : ∃ bx, bx = w2.heap.size := ⟨_, rfl⟩
    rw [← hbx]
    have A3 : Below w2.heap.size w2 w3 := by rw [hw3]; go_grown
    have Z4 : Hid (Four w3 bx (.slice pL nL cL) (.slice pF nF cF) (.slice pU nU cU) rn) := by show Four _ _ _ _ _ _; rw [hw3, hbx]; exact four_new w2 _ _ _ _
    have X4 := hid2 (X2.out.below A3)
    have R4 := hid2 (R2.out.stays A3)
    have HBX : Hid (B ≤ bx) := by show B ≤ bx; rw [hbx]; exact S2.out
    have S4 : Hid (B ≤ w3.heap.size) := Nat.le_trans S2.out A3.size
    have B4 := hid2 (B2.out.trans (A3.mono B2.out.size))
    have HBW : Hid (w.heap.size ≤ bx) := by show _ ≤ bx; rw [hbx]; exact B2.out.size
    clear A3 hw3 hbx X2 R2 S2 B2
    go_wp2_with fail
    go_loopg [9] os.length (fun gk i wr => ∃ (k : Nat) (s : Lst) (pL : Option Addr) (nL cL : Nat) (pF : Option Addr) (nF cF : Nat) (pU : Option Addr) (nU cU : Nat) (rn : Int), k ≤ os.length ∧ gk = os.length - k ∧ i = .int .i64 (k : Int) ∧ Lx wr B0 B g 3 20 s k ∧ Four wr bx (.slice pL nL cL) (.slice pF nF cF) (.slice pU nU cU) rn ∧ RV wr B (.agg #[.slice pL nL cL, .slice pF nF cF, .slice pU nU cU, .int .i64 rn]) s ∧ Below w.heap.size w wr ∧ B ≤ wr.heap.size)
    case atStart => exact ⟨0, _, pL, nL, cL, pF, nF, cF, pU, nU, cU, rn, Nat.zero_le _, rfl, rfl, X4.out, Z4.out, R4.out, B4.out, S4.out⟩
    case round =>
      clear X4 Z4 R4 B4 S4
      obtain ⟨k, s, pL, nL, cL, pF, nF, cF, pU, nU, cU, rn, hk, hgk, rfl, hx, hz, hr, hb, hsb⟩ := hrel
      have HG := hid2 hgk
      have X := hid2 hx
      have BXF := hid2 hz
      have RR := hid2 hr
      have BW := hid2 hb
      have SB := hid2 hsb
      clear hgk hx hz hr hb hsb
      by_cases hlt : k < os.length
      · obtain ⟨o, ho⟩ : ∃ o, os[k]? = some o := ⟨os[k], List.getElem?_eq_getElem hlt⟩
        obtain ⟨kd, at_⟩ := o
        obtain ⟨bo, off, rfl, q0, q1, q2, _, _⟩ := HEL.out k _ ho
        simp only at q1 q2
        clear ho
        go_wp2_with fail
        refine wp_region_held_drew (S := fun W => Below w.heap.size w W) (by kernel_rfl) (BW.out.trans ((Below.refl _ _).drew)) (fun hS => ?_)
        change wpAnyH _ _ _ _ _ _ _ _ (World.drew _)
        obtain ⟨wz, hwz⟩ : ∃ wz, wz = World.drew wr := ⟨_, rfl⟩
        rw [← hwz] at hS ⊢
        have XZ : Hid (Lx wz B0 B g 3 20 s k) := by rw [hwz]; exact X.out.below ((Below.refl _ _).drew)
        have RZ : Hid (RV wz B (.agg #[.slice pL nL cL, .slice pF nF cF, .slice pU nU cU, .int .i64 rn]) s) := by rw [hwz]; exact RR.out.stays ((Below.refl _ _).drew)
        have ZF : Hid (Four wz bx (.slice pL nL cL) (.slice pF nF cF) (.slice pU nU cU) rn) := by rw [hwz]; exact BXF.out
        have SZ : Hid (B ≤ wz.heap.size) := by rw [hwz]; exact SB.out
        obtain ⟨d0, d1, d2, d3, d4, d5⟩ := ZF.out.cells
        clear hwz
        refine wpAnyH_take (i := 0) (v := .pointer (some ⟨g, 0, none⟩)) rfl (by kernel_rfl) (by kernel_rfl) (by kernel_rfl) (fun _ _ _ h => h) (Or.inl ⟨by kernel_rfl, ?_⟩) hS ?_
        · intro w hw; clear hw; go_simp
        change wpAnyH _ _ _ _ _ _ _ (Act.put _ (some 39) _) _
        simp only [Act.put, List.setIfInBounds_toArray, List.set_cons_succ, List.set_cons_zero]
        refine wpAnyH_take (i := 2) (v := .slice (some ⟨bo, off, none⟩) os.length cap) rfl (by kernel_rfl) (by kernel_rfl) (by kernel_rfl) (fun _ _ _ h => h) (Or.inl ⟨by kernel_rfl, ?_⟩) hS ?_
        · intro w hw; clear hw; go_simp
        change wpAnyH _ _ _ _ _ _ _ (Act.put _ (some 41) _) _
        simp only [Act.put, List.setIfInBounds_toArray, List.set_cons_succ, List.set_cons_zero]
        refine wpAnyH_take (i := 3) (v := .int .i64 (k : Int)) rfl (by kernel_rfl) (by kernel_rfl) (by kernel_rfl) (fun _ _ _ h => h) (Or.inl ⟨by kernel_rfl, ?_⟩) hS ?_
        · intro w hw; clear hw; go_simp
        change wpAnyH _ _ _ _ _ _ _ (Act.put _ (some 42) _) _
        simp only [Act.put, List.setIfInBounds_toArray, List.set_cons_succ, List.set_cons_zero]
        refine wpAnyH_take (i := 4) (v := .pointer (some ⟨bo, off + k * 2, none⟩)) rfl (by kernel_rfl) (by kernel_rfl) (by kernel_rfl) (fun _ _ _ h => h) (Or.inl ⟨by kernel_rfl, ?_⟩) hS ?_
        · intro w hw; clear hw; go_simp
        change wpAnyH _ _ _ _ _ _ _ (Act.put _ (some 43) _) _
        simp only [Act.put, List.setIfInBounds_toArray, List.set_cons_succ, List.set_cons_zero]
        refine wpAnyH_take (i := 5) (v := .agg #[.int .i64 kd, .int .i64 at_]) rfl (by kernel_rfl) (by kernel_rfl) (by kernel_rfl) (fun _ _ _ h => h) (Or.inl ⟨by kernel_rfl, ?_⟩) hS ?_
        · intro w hw
          have f1 := (Below.cell (p := ⟨bo, off + k * 2, none⟩) hw q0).trans q1
          have f2 := (Below.cell (p := ⟨bo, off + k * 2 + 1, none⟩) hw q0).trans q2
          have l0 := Nat.lt_of_lt_of_le q0 (Below.size hw)
          clear hw
          go_simp
        change wpAnyH _ _ _ _ _ _ _ (Act.put _ (some 44) _) _
        simp only [Act.put, List.setIfInBounds_toArray, List.set_cons_succ, List.set_cons_zero]
        refine wpAnyH_ready (rs := [1]) (by kernel_rfl) (by simp) ?_
        refine AllReadyH.cons rfl (fun K hK => ?_) AllReadyH.nil
        go_simp
        go_wp2_with fail
        refine hK.out _ _ (hS) (fun hS => ?_)
        clear hK K
        skip
        clear d0 d1 d2 d3 d4 d5
        refine wpAnyH_ready (rs := [6]) (by kernel_rfl) (by simp) ?_
        refine AllReadyH.cons rfl (fun K hK => ?_) AllReadyH.nil
        go_simp
        go_wp2_with fail
        refine (do_any XZ.out (by omega) RZ.out (EE.out _ hS) H00.out SZ.out kd at_).mono ?_
        rintro e w6 ⟨u6, rfl, x6, r6, m6⟩
        obtain ⟨pL', nL', cL', pF', nF', cF', pU', nU', cU', rn', rfl⟩ := r6.form
        have X6 := hid2 x6
        have R6 := hid2 r6
        have Z6 := hid2 (Four.mid m6 ZF.out HBX.out)
        have S6 : Hid (B ≤ w6.heap.size) := Nat.le_trans SZ.out m6.size
        refine hK.out _ _ (hS.trans (HB0.out ▸ m6.below (by rw [HB0.out]; exact hS.size))) (fun hS => ?_)
        clear hK K
        skip
        clear XZ RZ SZ ZF x6 r6 m6
        refine wpAnyH_take (i := 7) (v := .tuple #[.agg #[.slice pL' nL' cL', .slice pF' nF' cF', .slice pU' nU' cU', .int .i64 rn'], .bool true]) rfl (by kernel_rfl) (by kernel_rfl) (by kernel_rfl) (fun _ _ _ h => h) (Or.inl ⟨by kernel_rfl, ?_⟩) hS ?_
        · intro w hw; clear hw; go_simp
        change wpAnyH _ _ _ _ _ _ _ (Act.put _ (some 38) _) _
        simp only [Act.put, List.setIfInBounds_toArray, List.set_cons_succ, List.set_cons_zero]
        refine wpAnyH_take (i := 8) (v := .agg #[.slice pL' nL' cL', .slice pF' nF' cF', .slice pU' nU' cU', .int .i64 rn']) rfl (by kernel_rfl) (by kernel_rfl) (by kernel_rfl) (fun _ _ _ h => h) (Or.inl ⟨by kernel_rfl, ?_⟩) hS ?_
        · intro w hw; clear hw; go_simp
        change wpAnyH _ _ _ _ _ _ _ (Act.put _ (some 46) _) _
        simp only [Act.put, List.setIfInBounds_toArray, List.set_cons_succ, List.set_cons_zero]
        refine wpAnyH_take (i := 9) (v := .bool true) rfl (by kernel_rfl) (by kernel_rfl) (by kernel_rfl) (fun _ _ _ h => h) (Or.inl ⟨by kernel_rfl, ?_⟩) hS ?_
        · intro w hw; clear hw; go_simp
        change wpAnyH _ _ _ _ _ _ _ (Act.put _ (some 47) _) _
        simp only [Act.put, List.setIfInBounds_toArray, List.set_cons_succ, List.set_cons_zero]
        refine wpAnyH_ready (rs := [10]) (by kernel_rfl) (by simp) ?_
        refine AllReadyH.cons rfl (fun K hK => ?_) AllReadyH.nil
        refine step_st32 rfl (.tmp 7) (.tmp 46) rfl bx rfl _ _ _ _ _ Z6.out rfl rfl ⟨rfl, rfl, rfl, rfl⟩ ?_
        intro w8 hz8 hg8
        have t8 : Tag w6 bx 32 := Z6.out.tag
        refine hK.out _ _ (Below.grown hS hg8 (Below.size hS) (fun j hj => by cases hj; exact HBW.out)) (fun hS => ?_)
        clear hK K
        refine wpAnyH_done (by kernel_rfl) ?_ _
        go_wp2_with fail
        go_roundg (os.length - (k + 1))
        case measure => rw [HG.out]; omega
        case rel => exact ⟨k + 1, _, _, _, _, _, _, _, _, _, _, _, by omega, rfl, by go_num, X6.out.put hg8 HBX.out, hz8, R6.out.other hg8 t8 (by decide) (by decide), hS, Nat.le_trans S6.out hg8.size⟩
      · obtain rfl : k = os.length := by omega
        have BX := hid2 BXF.out
        obtain ⟨pL2, nL2, cL2, pF2, nF2, cF2, pU2, nU2, cU2, ee, hL, hF, hU⟩ := RR.out
        simp only [Value.agg.injEq, Array.mk.injEq, List.cons.injEq, Value.slice.injEq, Value.int.injEq, and_true, true_and] at ee
        obtain ⟨⟨rfl, rfl, rfl⟩, ⟨rfl, rfl, rfl⟩, ⟨rfl, rfl, rfl⟩, hrn⟩ := ee
        obtain ⟨z0, z1, z2, z3, z4, z5⟩ := BXF.out.cells
        obtain ⟨pU3, cU3, e3, e4, e5, helU⟩ := hU.each
        simp only [Value.slice.injEq] at e3
        obtain ⟨rfl, hnU, rfl⟩ := e3
        by_cases hUe : s.U = []
        · have hn0 : nU = 0 := by rw [hnU, hUe]; rfl
          subst hn0
          have KO := oldest_lx X.out
          rw [hUe] at KO
          have HKO := hid2 KO
          clear hL hF hU helU hnU e4 e5 hUe KO hrn
          go_wp2_with fail
          refine (show Calls _ _ _ _ _ from HKO.out).mono ?_
          rintro e w4 ⟨rfl, b4⟩
          have B4 := hid2 (BW.out.trans (b4.mono BW.out.size))
          clear b4 HKO
          go_wp2_with fail
          refine (works_any (EE.out _ B4.out)).mono ?_
          rintro e w5 ⟨rfl, b5⟩
          have B5 := hid2 (B4.out.trans (b5.mono B4.out.size))
          clear b5
          go_wp2
          go_ret
          exact ⟨rfl, B5.out⟩
        · have hn1 : 1 ≤ nU := by rw [hnU]; exact List.length_pos_iff.2 hUe
          obtain ⟨j, hj⟩ : ∃ j : Nat, (j : Int) = wh % (nU : Int) := ⟨(wh % (nU : Int)).toNat, by have := Int.emod_nonneg wh (show (nU : Int) ≠ 0 by omega); omega⟩
          have hjn : j < nU := by have := Int.emod_lt_of_pos wh (show (0 : Int) < (nU : Int) by omega); omega
          obtain ⟨nd, hnd⟩ : ∃ nd, s.U[j]? = some nd := ⟨s.U[j]'(by omega), List.getElem?_eq_getElem _⟩
          have hmem := List.mem_of_getElem? hnd
          obtain ⟨bU, oU, rfl, u0, u1⟩ := helU j nd hnd
          obtain ⟨kx, hwk, hkK, htp, hord, hinw, hlw, hlen, hlast⟩ := X.out.touched hmem
          have hnU20 := X.out.fit.2.2.1
          have j1 : wh % (nU : Int) = (j : Int) := hj.symm
          have j2 : wh.tmod (nU : Int) = (j : Int) := by rw [Int.tmod_eq_emod_of_nonneg hw0]; exact j1
          have j3 : IntKind.i64.wrap wh = wh := by rw [IntKind.wrap_i64]; omega
          have j4 : ¬ (nU : Int) = 0 := by omega
          have j5 : IntKind.i64.wrap (j : Int) = (j : Int) := by rw [IntKind.wrap_i64]; omega
          have HNU := hid2 hnU
          have KL := list_lx X.out nd
          rw [hwk] at KL
          have HKL := hid2 (fun W (q : Lx W B0 B g 3 20 s os.length) => (show Calls Tryd.prog 17 #[.pointer (some ⟨g, 0, none⟩), .int .i64 nd] W _ from by have := list_lx q nd; rw [hwk] at this; exact this))
          have HKO := hid2 (fun W (q : Lx W B0 B g 3 20 s os.length) => order_lx q (kx : Int))
          have HKT := hid2 (fun W (q : Lx W B0 B g 3 20 s os.length) => touch_lx q (by omega) nd)
          rw [htp] at HKT
          obtain ⟨s', hs'⟩ : ∃ s', s' = (⟨setL s kx (nd :: but (getL s kx) nd), s.F, nd :: but s.U nd, s.n⟩ : Lst) := ⟨_, rfl⟩
          rw [← hs'] at HKT hord hlast
          have HKP := hid2 (fun W (q : Lx W B0 B g 3 20 s' (os.length + 1)) => order_lx q (kx : Int))
          rw [hord] at HKP
          have HOL := hid2 (fun W (q : Lx W B0 B g 3 20 s' (os.length + 1)) => oldest_lx q)
          generalize hwas : orderP s (kx : Int) = was at *
          have HLEN := hid2 hlen
          have HLAST := hid2 hlast
          have HINW := hid2 hinw
          have HLWX := hid2 hlw
          obtain ⟨ol, hol⟩ : ∃ ol, ol = lastP s'.U := ⟨_, rfl⟩
          rw [← hol] at HOL HLAST
          have hk80 : os.length ≤ 80 := by omega
          have HK80 := hid2 hk80
          clear hL hF hU helU hnU e4 hUe hrn hwk hkK htp hord hinw hlw hlen hlast KL hs' hwas hol hnd hmem hj hnU20 j3
          have j3 : IntKind.i64.wrap wh = wh := by rw [IntKind.wrap_i64]; omega
          go_upto_region 13 with fail
          go_cut [10] (fun vv wx => vv = .int .i64 nd ∧ Below wr.heap.size wr wx)
          case first =>
            refine wp_region_held_drew (S := fun W => Below wr.heap.size wr W) (by kernel_rfl) ((Below.refl _ _).drew) (fun hS => ?_)
            change wpAnyH _ _ _ _ _ _ _ _ (World.drew _)
            refine wpAnyH_take (i := 0) (v := .pointer (some ⟨bx, 2, none⟩)) rfl (by kernel_rfl) (by kernel_rfl) (by kernel_rfl) (fun _ _ _ h => h) (Or.inl ⟨by kernel_rfl, ?_⟩) hS ?_
            · intro w hw; clear hw; go_simp
            change wpAnyH _ _ _ _ _ _ _ (Act.put _ (some 58) _) _
            simp only [Act.put, List.setIfInBounds_toArray, List.set_cons_succ, List.set_cons_zero]
            refine wpAnyH_take (i := 1) (v := .slice (some ⟨bU, oU, none⟩) nU cU) rfl (by kernel_rfl) (by kernel_rfl) (by kernel_rfl) (fun _ _ _ h => h) (Or.inl ⟨by kernel_rfl, ?_⟩) hS ?_
            · intro w hw
              have f0 := (Below.cell (p := ⟨bx, 2, none⟩) hw z0).trans z3
              have l0 := Nat.lt_of_lt_of_le z0 (Below.size hw)
              clear hw
              go_simp
            change wpAnyH _ _ _ _ _ _ _ (Act.put _ (some 59) _) _
            simp only [Act.put, List.setIfInBounds_toArray, List.set_cons_succ, List.set_cons_zero]
            refine wpAnyH_take (i := 2) (v := .int .u8 wh) rfl (by kernel_rfl) (by kernel_rfl) (by kernel_rfl) (fun _ _ _ h => h) (Or.inl ⟨by kernel_rfl, ?_⟩) hS ?_
            · intro w hw; clear hw; go_simp
            change wpAnyH _ _ _ _ _ _ _ (Act.put _ (some 60) _) _
            simp only [Act.put, List.setIfInBounds_toArray, List.set_cons_succ, List.set_cons_zero]
            refine wpAnyH_take (i := 3) (v := .int .i64 wh) rfl (by kernel_rfl) (by kernel_rfl) (by kernel_rfl) (fun _ _ _ h => h) (Or.inl ⟨by kernel_rfl, ?_⟩) hS ?_
            · intro w hw; clear hw; go_simp
            change wpAnyH _ _ _ _ _ _ _ (Act.put _ (some 61) _) _
            simp only [Act.put, List.setIfInBounds_toArray, List.set_cons_succ, List.set_cons_zero]
            refine wpAnyH_take (i := 4) (v := .pointer (some ⟨bx, 2, none⟩)) rfl (by kernel_rfl) (by kernel_rfl) (by kernel_rfl) (fun _ _ _ h => h) (Or.inl ⟨by kernel_rfl, ?_⟩) hS ?_
            · intro w hw; clear hw; go_simp
            change wpAnyH _ _ _ _ _ _ _ (Act.put _ (some 62) _) _
            simp only [Act.put, List.setIfInBounds_toArray, List.set_cons_succ, List.set_cons_zero]
            refine wpAnyH_take (i := 5) (v := .slice (some ⟨bU, oU, none⟩) nU cU) rfl (by kernel_rfl) (by kernel_rfl) (by kernel_rfl) (fun _ _ _ h => h) (Or.inl ⟨by kernel_rfl, ?_⟩) hS ?_
            · intro w hw
              have f0 := (Below.cell (p := ⟨bx, 2, none⟩) hw z0).trans z3
              have l0 := Nat.lt_of_lt_of_le z0 (Below.size hw)
              clear hw
              go_simp
            change wpAnyH _ _ _ _ _ _ _ (Act.put _ (some 63) _) _
            simp only [Act.put, List.setIfInBounds_toArray, List.set_cons_succ, List.set_cons_zero]
            refine wpAnyH_take (i := 6) (v := .int .i64 (nU : Int)) rfl (by kernel_rfl) (by kernel_rfl) (by kernel_rfl) (fun _ _ _ h => h) (Or.inl ⟨by kernel_rfl, ?_⟩) hS ?_
            · intro w hw; clear hw; go_simp
            change wpAnyH _ _ _ _ _ _ _ (Act.put _ (some 64) _) _
            simp only [Act.put, List.setIfInBounds_toArray, List.set_cons_succ, List.set_cons_zero]
            refine wpAnyH_take (i := 7) (v := .int .i64 (j : Int)) rfl (by kernel_rfl) (by kernel_rfl) (by kernel_rfl) (fun _ _ _ h => h) (Or.inl ⟨by kernel_rfl, ?_⟩) hS ?_
            · intro w hw
              clear hw
              go_simp
              all_goals omega
            change wpAnyH _ _ _ _ _ _ _ (Act.put _ (some 65) _) _
            simp only [Act.put, List.setIfInBounds_toArray, List.set_cons_succ, List.set_cons_zero]
            refine wpAnyH_take (i := 8) (v := .pointer (some ⟨bU, oU + j, none⟩)) rfl (by kernel_rfl) (by kernel_rfl) (by kernel_rfl) (fun _ _ _ h => h) (Or.inl ⟨by kernel_rfl, ?_⟩) hS ?_
            · intro w hw; clear hw; go_simp
            change wpAnyH _ _ _ _ _ _ _ (Act.put _ (some 66) _) _
            simp only [Act.put, List.setIfInBounds_toArray, List.set_cons_succ, List.set_cons_zero]
            refine wpAnyH_take (i := 9) (v := .int .i64 nd) rfl (by kernel_rfl) (by kernel_rfl) (by kernel_rfl) (fun _ _ _ h => h) (Or.inl ⟨by kernel_rfl, ?_⟩) hS ?_
            · intro w hw
              have f0 := (Below.cell (p := ⟨bU, oU + j, none⟩) hw u0).trans u1
              have l0 := Nat.lt_of_lt_of_le u0 (Below.size hw)
              clear hw
              go_simp
            change wpAnyH _ _ _ _ _ _ _ (Act.put _ (some 67) _) _
            simp only [Act.put, List.setIfInBounds_toArray, List.set_cons_succ, List.set_cons_zero]
            refine wpAnyH_take (i := 10) (v := .int .i64 nd) rfl (by kernel_rfl) (by kernel_rfl) (by kernel_rfl) (fun _ _ _ h => h) (Or.inl ⟨by kernel_rfl, ?_⟩) hS ?_
            · intro w hw; clear hw; go_simp
            change wpAnyH _ _ _ _ _ _ _ (Act.put _ (some 10) _) _
            simp only [Act.put, List.setIfInBounds_toArray, List.set_cons_succ, List.set_cons_zero]
            refine wpAnyH_done (by kernel_rfl) ?_ _
            go_wp2_with fail
            go_meet
            exact ⟨rfl, hS⟩
          case rest =>
            obtain ⟨rfl, hb⟩ := hcut
            have X1 := hid2 (X.out.below hb)
            have Z1 := hid2 (BX.out.stays hb)
            have BW1 := hid2 (BW.out.trans (hb.mono BW.out.size))
            have SB1 : Hid (B ≤ wc.heap.size) := Nat.le_trans SB.out hb.size
            clear hb u0 u1 z0 z1 z2 z3 z4 z5 j1 j2 j3 j4 j5 X BX BW SB BXF RR
            go_wp2_with fail
            refine (show Calls _ _ _ _ _ from HKL.out _ X1.out).mono ?_
            rintro e w2 ⟨rfl, hb⟩
            have X2 := hid2 (X1.out.below hb)
            have Z2 := hid2 (Z1.out.stays hb)
            have BW2 := hid2 (BW1.out.trans (hb.mono BW1.out.size))
            have SB2 : Hid (B ≤ w2.heap.size) := Nat.le_trans SB1.out hb.size
            clear hb X1 Z1 BW1 SB1
            go_wp2_with fail
            refine (show Calls _ _ _ _ _ from HKO.out _ X2.out).mono ?_
            rintro e w3 ⟨vw, rfl, lw, hb⟩
            obtain ⟨pW, nW, cW, rfl⟩ := lw.letters
            have LW3 : Hid (Ls w3 B (.slice pW nW cW) was) := lw.lower SB2.out
            have hnW : nW = was.length := by obtain ⟨p9, c9, e9, _⟩ := lw.each; simp only [Value.slice.injEq] at e9; exact e9.2.1
            have HNW := hid2 hnW
            have X3 := hid2 (X2.out.below hb)
            have Z3 := hid2 (Z2.out.stays hb)
            have BW3 := hid2 (BW2.out.trans (hb.mono BW2.out.size))
            have SB3 : Hid (B ≤ w3.heap.size) := Nat.le_trans SB2.out hb.size
            clear hb X2 Z2 BW2 SB2 lw hnW
            go_wp2_with fail
            refine (show Calls _ _ _ _ _ from HKT.out _ X3.out).mono ?_
            rintro e w4 ⟨v4, rfl, f4, x4, m4⟩
            obtain rfl := f4.fault.none
            have X4 := hid2 x4
            have LW4 := hid2 (LW3.out.mid m4)
            have Z4 := hid2 (Four.mid m4 Z3.out HBX.out)
            have BW4 : Hid (Below w.heap.size w w4) := BW3.out.trans (HB0.out ▸ m4.below (by rw [HB0.out]; exact BW3.out.size))
            have SB4 : Hid (B ≤ w4.heap.size) := Nat.le_trans SB3.out m4.size
            clear f4 x4 m4 X3 LW3 Z3 BW3 SB3
            go_wp2_with fail
            refine (show Calls _ _ _ _ _ from HKP.out _ X4.out).mono ?_
            rintro e w6 ⟨vn, rfl, ln, hb⟩
            obtain ⟨pN, nN, cN, rfl⟩ := ln.letters
            obtain ⟨bN, oN, rfl, hnN, hcN, hcm, HTL⟩ := ln.tail
            obtain ⟨p9, c9, e9, _, _, hel9⟩ := ln.each
            simp only [Value.slice.injEq] at e9
            obtain ⟨rfl, e9m, rfl⟩ := e9
            clear e9m
            obtain ⟨b8, o8, e8, q8, c8⟩ := hel9 0 nd rfl
            simp only [Option.some.injEq, Addr.mk.injEq, and_true] at e8
            obtain ⟨rfl, rfl⟩ := e8
            rw [Nat.add_zero] at c8
            have X6 := hid2 (X4.out.below hb)
            have Z6 := hid2 (Z4.out.stays hb)
            have BW6 := hid2 (BW4.out.trans (hb.mono BW4.out.size))
            have SB6 : Hid (B ≤ w6.heap.size) := Nat.le_trans SB4.out hb.size
            have LW6 := hid2 (LW4.out.stays hb)
            have hnn : nN = nW := by have := HLEN.out; have := HNW.out; omega
            obtain ⟨o1, ho, ho1⟩ : ∃ o, (if cN = 1 then some (⟨bN, oN, none⟩ : Addr) else some ⟨bN, oN + 1, none⟩) = some ⟨bN, o, none⟩ ∧ (cN ≠ 1 → o = oN + 1) := by
              by_cases h1 : cN = 1
              · exact ⟨oN, by rw [if_pos h1], fun h => absurd h1 h⟩
              · exact ⟨oN + 1, by rw [if_neg h1], fun _ => rfl⟩
            have hf1 := HTL o1 ho1
            rw [show (but was nd).length = nN - 1 by omega] at hf1
            obtain ⟨m1, hm1⟩ : ∃ m1, nN - 1 = m1 := ⟨_, rfl⟩
            obtain ⟨c1, hc1'⟩ : ∃ c1, cN - 1 = c1 := ⟨_, rfl⟩
            rw [hm1, hc1'] at hf1
            have HT := hid2 hf1
            have HO := hid2 ho
            have HM1 := hid2 hm1
            have HC1 := hid2 hc1'
            have hnc : nN ≤ cN := by omega
            have hn1' : 1 ≤ nN := by omega
            have hcm2 : cN ≤ 2 ^ 63 - 1 := by unfold maxLen at hcm; exact hcm
            have HLW := hid2 (show was.length ≤ 4000 from by have := HLWX.out; omega)
            have KOl := hid2 (fun W (h : Below w6.heap.size w6 W) => HOL.out W (X6.out.below h))
            obtain ⟨z0, z1, z2, z3, z4, z5⟩ := Z6.out.cells
            have d1 : ((nN : Int) == 0) = false := by rw [beq_eq_false_iff_ne]; omega
            have hnz : ¬ (nN : Int) = 0 := by omega
            have hcl : bN < w6.heap.size := q8
            obtain rfl := hnn
            clear hb X4 Z4 BW4 SB4 LW4 ln hnN hcN hcm HTL hel9 hf1 ho ho1 hm1 hc1' hc1 hc2
            go_upto_region 21 with fail
            by_cases hone : nU = 1
            · have o2 : ((nU : Int) == 1) = true := by rw [hone]; rfl
              as_aux_lemma =>
                refine wp_region_held_drew (S := fun W => Below w6.heap.size w6 W) (by kernel_rfl) ((Below.refl _ _).drew) (fun hS => ?_)
                change wpAnyH _ _ _ _ _ _ _ _ (World.drew _)
                obtain ⟨wz, hwz⟩ : ∃ wz, wz = World.drew w6 := ⟨_, rfl⟩
                rw [← hwz] at hS ⊢
                clear hwz
                refine wpAnyH_take (i := 0) (v := .slice (some ⟨bN, oN, none⟩) nN cN) rfl (by kernel_rfl) (by kernel_rfl) (by kernel_rfl) (fun _ _ _ h => h) (Or.inl ⟨by kernel_rfl, ?_⟩) hS ?_
                · intro w hw; clear hw; go_simp
                change wpAnyH _ _ _ _ _ _ _ (Act.put _ (some 98) _) _
                simp only [Act.put, List.setIfInBounds_toArray, List.set_cons_succ, List.set_cons_zero]
                refine wpAnyH_take (i := 1) (v := .slice (some ⟨bN, o1, none⟩) m1 c1) rfl (by kernel_rfl) (by kernel_rfl) (by kernel_rfl) (fun _ _ _ h => h) (Or.inl ⟨by kernel_rfl, ?_⟩) hS ?_
                · intro w hw
                  clear hw
                  go_simp
                  rw [if_pos (by omega), HO.out, HM1.out, HC1.out]
                change wpAnyH _ _ _ _ _ _ _ (Act.put _ (some 99) _) _
                simp only [Act.put, List.setIfInBounds_toArray, List.set_cons_succ, List.set_cons_zero]
                refine wpAnyH_take (i := 2) (v := .slice pW nN cW) rfl (by kernel_rfl) (by kernel_rfl) (by kernel_rfl) (fun _ _ _ h => h) (Or.inl ⟨by kernel_rfl, ?_⟩) hS ?_
                · intro w hw; clear hw; go_simp
                change wpAnyH _ _ _ _ _ _ _ (Act.put _ (some 100) _) _
                simp only [Act.put, List.setIfInBounds_toArray, List.set_cons_succ, List.set_cons_zero]
                refine wpAnyH_take (i := 3) (v := .int .i64 nd) rfl (by kernel_rfl) (by kernel_rfl) (by kernel_rfl) (fun _ _ _ h => h) (Or.inl ⟨by kernel_rfl, ?_⟩) hS ?_
                · intro w hw; clear hw; go_simp
                change wpAnyH _ _ _ _ _ _ _ (Act.put _ (some 101) _) _
                simp only [Act.put, List.setIfInBounds_toArray, List.set_cons_succ, List.set_cons_zero]
                refine wpAnyH_ready (rs := [4]) (by kernel_rfl) (by simp) ?_
                refine AllReadyH.cons rfl (fun K hK => ?_) AllReadyH.nil
                go_simp
                go_wp2_with fail
                refine (but_any (LW6.out.stays hS) (Nat.le_trans SB6.out (Below.size hS)) HLW.out nd).mono ?_
                rintro e wb ⟨ub, rfl, lb, hb⟩
                obtain ⟨pb, mb, cb, rfl⟩ := lb.letters
                refine hK.out _ _ (Below.trans hS (Below.mono hb (Below.size hS))) (fun hS => ?_)
                clear hK K
                skip
                refine wpAnyH_ready (rs := [5]) (by kernel_rfl) (by simp) ?_
                refine AllReadyH.cons rfl (fun K hK => ?_) AllReadyH.nil
                go_simp
                go_wp2_with fail
                refine (one_true ((HT.out.stays hS)) lb).mono ?_
                rintro e wc ⟨rfl, hb2⟩
                refine hK.out _ _ (Below.trans hS (Below.mono hb2 (Below.size hS))) (fun hS => ?_)
                clear hK K
                skip
                clear hb hb2 lb
                refine wpAnyH_take (i := 6) (v := .bool true) rfl (by kernel_rfl) (by kernel_rfl) (by kernel_rfl) (fun _ _ _ h => h) (Or.inl ⟨by kernel_rfl, ?_⟩) hS ?_
                · intro w hw; clear hw; go_simp
                change wpAnyH _ _ _ _ _ _ _ (Act.put _ (some 104) _) _
                simp only [Act.put, List.setIfInBounds_toArray, List.set_cons_succ, List.set_cons_zero]
                refine wpAnyH_take (i := 7) (v := .pointer (some ⟨bx, 2, none⟩)) rfl (by kernel_rfl) (by kernel_rfl) (by kernel_rfl) (fun _ _ _ h => h) (Or.inl ⟨by kernel_rfl, ?_⟩) hS ?_
                · intro w hw; clear hw; go_simp
                change wpAnyH _ _ _ _ _ _ _ (Act.put _ (some 105) _) _
                simp only [Act.put, List.setIfInBounds_toArray, List.set_cons_succ, List.set_cons_zero]
                refine wpAnyH_take (i := 8) (v := .slice (some ⟨bU, oU, none⟩) nU cU) rfl (by kernel_rfl) (by kernel_rfl) (by kernel_rfl) (fun _ _ _ h => h) (Or.inl ⟨by kernel_rfl, ?_⟩) hS ?_
                · intro w hw
                  have f0 := (Below.cell (p := ⟨bx, 2, none⟩) hw z0).trans z3
                  have l0 := Nat.lt_of_lt_of_le z0 (Below.size hw)
                  clear hw
                  go_simp
                change wpAnyH _ _ _ _ _ _ _ (Act.put _ (some 106) _) _
                simp only [Act.put, List.setIfInBounds_toArray, List.set_cons_succ, List.set_cons_zero]
                refine wpAnyH_take (i := 9) (v := .int .i64 (nU : Int)) rfl (by kernel_rfl) (by kernel_rfl) (by kernel_rfl) (fun _ _ _ h => h) (Or.inl ⟨by kernel_rfl, ?_⟩) hS ?_
                · intro w hw; clear hw; go_simp
                change wpAnyH _ _ _ _ _ _ _ (Act.put _ (some 107) _) _
                simp only [Act.put, List.setIfInBounds_toArray, List.set_cons_succ, List.set_cons_zero]
                refine wpAnyH_take (i := 10) (v := .bool true) rfl (by kernel_rfl) (by kernel_rfl) (by kernel_rfl) (fun _ _ _ h => h) (Or.inl ⟨by kernel_rfl, ?_⟩) hS ?_
                · intro w hw; clear hw; go_simp
                change wpAnyH _ _ _ _ _ _ _ (Act.put _ (some 108) _) _
                simp only [Act.put, List.setIfInBounds_toArray, List.set_cons_succ, List.set_cons_zero]
                refine wpAnyH_take (i := 11) (v := .bool true) rfl (by kernel_rfl) (by kernel_rfl) (by kernel_rfl) (fun _ _ _ h => h) (Or.inl ⟨by kernel_rfl, ?_⟩) hS ?_
                · intro w hw; clear hw; go_simp
                change wpAnyH _ _ _ _ _ _ _ (Act.put _ (some 109) _) _
                simp only [Act.put, List.setIfInBounds_toArray, List.set_cons_succ, List.set_cons_zero]
                refine wpAnyH_take (i := 12) (v := undef) rfl (by kernel_rfl) (by kernel_rfl) (by kernel_rfl) (fun _ _ _ h => h) (Or.inr ⟨by kernel_rfl, rfl⟩) hS ?_
                change wpAnyH _ _ _ _ _ _ _ (Act.put _ (some 110) _) _
                simp only [Act.put, List.setIfInBounds_toArray, List.set_cons_succ, List.set_cons_zero]
                refine wpAnyH_take (i := 13) (v := undef) rfl (by kernel_rfl) (by kernel_rfl) (by kernel_rfl) (fun _ _ _ h => h) (Or.inr ⟨by kernel_rfl, rfl⟩) hS ?_
                change wpAnyH _ _ _ _ _ _ _ (Act.put _ (some 111) _) _
                simp only [Act.put, List.setIfInBounds_toArray, List.set_cons_succ, List.set_cons_zero]
                refine wpAnyH_take (i := 14) (v := undef) rfl (by kernel_rfl) (by kernel_rfl) (by kernel_rfl) (fun _ _ _ h => h) (Or.inr ⟨by kernel_rfl, rfl⟩) hS ?_
                change wpAnyH _ _ _ _ _ _ _ (Act.put _ (some 112) _) _
                simp only [Act.put, List.setIfInBounds_toArray, List.set_cons_succ, List.set_cons_zero]
                refine wpAnyH_take (i := 15) (v := undef) rfl (by kernel_rfl) (by kernel_rfl) (by kernel_rfl) (fun _ _ _ h => h) (Or.inr ⟨by kernel_rfl, rfl⟩) hS ?_
                change wpAnyH _ _ _ _ _ _ _ (Act.put _ (some 113) _) _
                simp only [Act.put, List.setIfInBounds_toArray, List.set_cons_succ, List.set_cons_zero]
                refine wpAnyH_take (i := 16) (v := .bool true) rfl (by kernel_rfl) (by kernel_rfl) (by kernel_rfl) (fun _ _ _ h => h) (Or.inl ⟨by kernel_rfl, ?_⟩) hS ?_
                · intro w hw; clear hw; go_simp
                change wpAnyH _ _ _ _ _ _ _ (Act.put _ (some 114) _) _
                simp only [Act.put, List.setIfInBounds_toArray, List.set_cons_succ, List.set_cons_zero]
                refine wpAnyH_take (i := 17) (v := .bool true) rfl (by kernel_rfl) (by kernel_rfl) (by kernel_rfl) (fun _ _ _ h => h) (Or.inl ⟨by kernel_rfl, ?_⟩) hS ?_
                · intro w hw; clear hw; go_simp
                change wpAnyH _ _ _ _ _ _ _ (Act.put _ (some 115) _) _
                simp only [Act.put, List.setIfInBounds_toArray, List.set_cons_succ, List.set_cons_zero]
                refine wpAnyH_take (i := 18) (v := .bool true) rfl (by kernel_rfl) (by kernel_rfl) (by kernel_rfl) (fun _ _ _ h => h) (Or.inl ⟨by kernel_rfl, ?_⟩) hS ?_
                · intro w hw; clear hw; go_simp
                change wpAnyH _ _ _ _ _ _ _ (Act.put _ (some 116) _) _
                simp only [Act.put, List.setIfInBounds_toArray, List.set_cons_succ, List.set_cons_zero]
                refine wpAnyH_ready (rs := [19]) (by kernel_rfl) (by simp) ?_
                refine AllReadyH.cons rfl (fun K hK => ?_) AllReadyH.nil
                go_simp
                go_wp2_with fail
                refine (works_any (EE.out _ (BW6.out.trans (hS.mono BW6.out.size)))).mono ?_
                rintro e we ⟨rfl, hb⟩
                refine hK.out _ _ (Below.trans hS (Below.mono hb (Below.size hS))) (fun hS => ?_)
                clear hK K
                skip
                clear hb
                refine wpAnyH_take (i := 20) (v := .bool true) rfl (by kernel_rfl) (by kernel_rfl) (by kernel_rfl) (fun _ _ _ h => h) (Or.inl ⟨by kernel_rfl, ?_⟩) hS ?_
                · intro w hw; clear hw; go_simp
                change wpAnyH _ _ _ _ _ _ _ (Act.put _ (some 118) _) _
                simp only [Act.put, List.setIfInBounds_toArray, List.set_cons_succ, List.set_cons_zero]
                refine wpAnyH_take (i := 21) (v := .bool true) rfl (by kernel_rfl) (by kernel_rfl) (by kernel_rfl) (fun _ _ _ h => h) (Or.inl ⟨by kernel_rfl, ?_⟩) hS ?_
                · intro w hw; clear hw; go_simp
                change wpAnyH _ _ _ _ _ _ _ (Act.put _ (some 4) _) _
                simp only [Act.put, List.setIfInBounds_toArray, List.set_cons_succ, List.set_cons_zero]
                refine wpAnyH_done (by kernel_rfl) ?_ _
                go_wp2_with fail
                go_ret
                exact ⟨rfl, BW6.out.trans (hS.mono BW6.out.size)⟩
            · have o2 : ((nU : Int) == 1) = false := by rw [beq_eq_false_iff_ne]; omega
              have o3 : (ol != nd) = true := by rw [bne_iff_ne]; exact HLAST.out (by have := HNU.out; omega)
              as_aux_lemma =>
                refine wp_region_held_drew (S := fun W => Below w6.heap.size w6 W) (by kernel_rfl) ((Below.refl _ _).drew) (fun hS => ?_)
                change wpAnyH _ _ _ _ _ _ _ _ (World.drew _)
                obtain ⟨wz, hwz⟩ : ∃ wz, wz = World.drew w6 := ⟨_, rfl⟩
                rw [← hwz] at hS ⊢
                clear hwz
                refine wpAnyH_take (i := 0) (v := .slice (some ⟨bN, oN, none⟩) nN cN) rfl (by kernel_rfl) (by kernel_rfl) (by kernel_rfl) (fun _ _ _ h => h) (Or.inl ⟨by kernel_rfl, ?_⟩) hS ?_
                · intro w hw; clear hw; go_simp
                change wpAnyH _ _ _ _ _ _ _ (Act.put _ (some 98) _) _
                simp only [Act.put, List.setIfInBounds_toArray, List.set_cons_succ, List.set_cons_zero]
                refine wpAnyH_take (i := 1) (v := .slice (some ⟨bN, o1, none⟩) m1 c1) rfl (by kernel_rfl) (by kernel_rfl) (by kernel_rfl) (fun _ _ _ h => h) (Or.inl ⟨by kernel_rfl, ?_⟩) hS ?_
                · intro w hw
                  clear hw
                  go_simp
                  rw [if_pos (by omega), HO.out, HM1.out, HC1.out]
                change wpAnyH _ _ _ _ _ _ _ (Act.put _ (some 99) _) _
                simp only [Act.put, List.setIfInBounds_toArray, List.set_cons_succ, List.set_cons_zero]
                refine wpAnyH_take (i := 2) (v := .slice pW nN cW) rfl (by kernel_rfl) (by kernel_rfl) (by kernel_rfl) (fun _ _ _ h => h) (Or.inl ⟨by kernel_rfl, ?_⟩) hS ?_
                · intro w hw; clear hw; go_simp
                change wpAnyH _ _ _ _ _ _ _ (Act.put _ (some 100) _) _
                simp only [Act.put, List.setIfInBounds_toArray, List.set_cons_succ, List.set_cons_zero]
                refine wpAnyH_take (i := 3) (v := .int .i64 nd) rfl (by kernel_rfl) (by kernel_rfl) (by kernel_rfl) (fun _ _ _ h => h) (Or.inl ⟨by kernel_rfl, ?_⟩) hS ?_
                · intro w hw; clear hw; go_simp
                change wpAnyH _ _ _ _ _ _ _ (Act.put _ (some 101) _) _
                simp only [Act.put, List.setIfInBounds_toArray, List.set_cons_succ, List.set_cons_zero]
                refine wpAnyH_ready (rs := [4]) (by kernel_rfl) (by simp) ?_
                refine AllReadyH.cons rfl (fun K hK => ?_) AllReadyH.nil
                go_simp
                go_wp2_with fail
                refine (but_any (LW6.out.stays hS) (Nat.le_trans SB6.out (Below.size hS)) HLW.out nd).mono ?_
                rintro e wb ⟨ub, rfl, lb, hb⟩
                obtain ⟨pb, mb, cb, rfl⟩ := lb.letters
                refine hK.out _ _ (Below.trans hS (Below.mono hb (Below.size hS))) (fun hS => ?_)
                clear hK K
                skip
                refine wpAnyH_ready (rs := [5]) (by kernel_rfl) (by simp) ?_
                refine AllReadyH.cons rfl (fun K hK => ?_) AllReadyH.nil
                go_simp
                go_wp2_with fail
                refine (one_true ((HT.out.stays hS)) lb).mono ?_
                rintro e wc ⟨rfl, hb2⟩
                refine hK.out _ _ (Below.trans hS (Below.mono hb2 (Below.size hS))) (fun hS => ?_)
                clear hK K
                skip
                clear hb hb2 lb
                refine wpAnyH_take (i := 6) (v := .bool true) rfl (by kernel_rfl) (by kernel_rfl) (by kernel_rfl) (fun _ _ _ h => h) (Or.inl ⟨by kernel_rfl, ?_⟩) hS ?_
                · intro w hw; clear hw; go_simp
                change wpAnyH _ _ _ _ _ _ _ (Act.put _ (some 104) _) _
                simp only [Act.put, List.setIfInBounds_toArray, List.set_cons_succ, List.set_cons_zero]
                refine wpAnyH_take (i := 7) (v := .pointer (some ⟨bx, 2, none⟩)) rfl (by kernel_rfl) (by kernel_rfl) (by kernel_rfl) (fun _ _ _ h => h) (Or.inl ⟨by kernel_rfl, ?_⟩) hS ?_
                · intro w hw; clear hw; go_simp
                change wpAnyH _ _ _ _ _ _ _ (Act.put _ (some 105) _) _
                simp only [Act.put, List.setIfInBounds_toArray, List.set_cons_succ, List.set_cons_zero]
                refine wpAnyH_take (i := 8) (v := .slice (some ⟨bU, oU, none⟩) nU cU) rfl (by kernel_rfl) (by kernel_rfl) (by kernel_rfl) (fun _ _ _ h => h) (Or.inl ⟨by kernel_rfl, ?_⟩) hS ?_
                · intro w hw
                  have f0 := (Below.cell (p := ⟨bx, 2, none⟩) hw z0).trans z3
                  have l0 := Nat.lt_of_lt_of_le z0 (Below.size hw)
                  clear hw
                  go_simp
                change wpAnyH _ _ _ _ _ _ _ (Act.put _ (some 106) _) _
                simp only [Act.put, List.setIfInBounds_toArray, List.set_cons_succ, List.set_cons_zero]
                refine wpAnyH_take (i := 9) (v := .int .i64 (nU : Int)) rfl (by kernel_rfl) (by kernel_rfl) (by kernel_rfl) (fun _ _ _ h => h) (Or.inl ⟨by kernel_rfl, ?_⟩) hS ?_
                · intro w hw; clear hw; go_simp
                change wpAnyH _ _ _ _ _ _ _ (Act.put _ (some 107) _) _
                simp only [Act.put, List.setIfInBounds_toArray, List.set_cons_succ, List.set_cons_zero]
                refine wpAnyH_take (i := 10) (v := .bool false) rfl (by kernel_rfl) (by kernel_rfl) (by kernel_rfl) (fun _ _ _ h => h) (Or.inl ⟨by kernel_rfl, ?_⟩) hS ?_
                · intro w hw; clear hw; go_simp
                change wpAnyH _ _ _ _ _ _ _ (Act.put _ (some 108) _) _
                simp only [Act.put, List.setIfInBounds_toArray, List.set_cons_succ, List.set_cons_zero]
                refine wpAnyH_take (i := 11) (v := .bool false) rfl (by kernel_rfl) (by kernel_rfl) (by kernel_rfl) (fun _ _ _ h => h) (Or.inl ⟨by kernel_rfl, ?_⟩) hS ?_
                · intro w hw; clear hw; go_simp
                change wpAnyH _ _ _ _ _ _ _ (Act.put _ (some 109) _) _
                simp only [Act.put, List.setIfInBounds_toArray, List.set_cons_succ, List.set_cons_zero]
                refine wpAnyH_take (i := 12) (v := .pointer (some ⟨g, 0, none⟩)) rfl (by kernel_rfl) (by kernel_rfl) (by kernel_rfl) (fun _ _ _ h => h) (Or.inl ⟨by kernel_rfl, ?_⟩) hS ?_
                · intro w hw; clear hw; go_simp
                change wpAnyH _ _ _ _ _ _ _ (Act.put _ (some 110) _) _
                simp only [Act.put, List.setIfInBounds_toArray, List.set_cons_succ, List.set_cons_zero]
                refine wpAnyH_take (i := 14) (v := .int .i64 nd) rfl (by kernel_rfl) (by kernel_rfl) (by kernel_rfl) (fun _ _ _ h => h) (Or.inl ⟨by kernel_rfl, ?_⟩) hS ?_
                · intro w hw; clear hw; go_simp
                change wpAnyH _ _ _ _ _ _ _ (Act.put _ (some 112) _) _
                simp only [Act.put, List.setIfInBounds_toArray, List.set_cons_succ, List.set_cons_zero]
                refine wpAnyH_ready (rs := [13]) (by kernel_rfl) (by simp) ?_
                refine AllReadyH.cons rfl (fun K hK => ?_) AllReadyH.nil
                go_simp
                go_wp2_with fail
                refine (show Calls _ _ _ _ _ from KOl.out _ hS).mono ?_
                rintro e wd ⟨rfl, hb⟩
                refine hK.out _ _ (Below.trans hS (Below.mono hb (Below.size hS))) (fun hS => ?_)
                clear hK K
                skip
                clear hb
                refine wpAnyH_take (i := 15) (v := .bool true) rfl (by kernel_rfl) (by kernel_rfl) (by kernel_rfl) (fun _ _ _ h => h) (Or.inl ⟨by kernel_rfl, ?_⟩) hS ?_
                · intro w hw; clear hw; go_simp
                change wpAnyH _ _ _ _ _ _ _ (Act.put _ (some 113) _) _
                simp only [Act.put, List.setIfInBounds_toArray, List.set_cons_succ, List.set_cons_zero]
                refine wpAnyH_take (i := 16) (v := .bool true) rfl (by kernel_rfl) (by kernel_rfl) (by kernel_rfl) (fun _ _ _ h => h) (Or.inl ⟨by kernel_rfl, ?_⟩) hS ?_
                · intro w hw; clear hw; go_simp
                change wpAnyH _ _ _ _ _ _ _ (Act.put _ (some 114) _) _
                simp only [Act.put, List.setIfInBounds_toArray, List.set_cons_succ, List.set_cons_zero]
                refine wpAnyH_take (i := 17) (v := .bool true) rfl (by kernel_rfl) (by kernel_rfl) (by kernel_rfl) (fun _ _ _ h => h) (Or.inl ⟨by kernel_rfl, ?_⟩) hS ?_
                · intro w hw; clear hw; go_simp
                change wpAnyH _ _ _ _ _ _ _ (Act.put _ (some 115) _) _
                simp only [Act.put, List.setIfInBounds_toArray, List.set_cons_succ, List.set_cons_zero]
                refine wpAnyH_take (i := 18) (v := .bool true) rfl (by kernel_rfl) (by kernel_rfl) (by kernel_rfl) (fun _ _ _ h => h) (Or.inl ⟨by kernel_rfl, ?_⟩) hS ?_
                · intro w hw; clear hw; go_simp
                change wpAnyH _ _ _ _ _ _ _ (Act.put _ (some 116) _) _
                simp only [Act.put, List.setIfInBounds_toArray, List.set_cons_succ, List.set_cons_zero]
                refine wpAnyH_ready (rs := [19]) (by kernel_rfl) (by simp) ?_
                refine AllReadyH.cons rfl (fun K hK => ?_) AllReadyH.nil
                go_simp
                go_wp2_with fail
                refine (works_any (EE.out _ (BW6.out.trans (hS.mono BW6.out.size)))).mono ?_
                rintro e we ⟨rfl, hb⟩
                refine hK.out _ _ (Below.trans hS (Below.mono hb (Below.size hS))) (fun hS => ?_)
                clear hK K
                skip
                clear hb
                refine wpAnyH_take (i := 20) (v := .bool true) rfl (by kernel_rfl) (by kernel_rfl) (by kernel_rfl) (fun _ _ _ h => h) (Or.inl ⟨by kernel_rfl, ?_⟩) hS ?_
                · intro w hw; clear hw; go_simp
                change wpAnyH _ _ _ _ _ _ _ (Act.put _ (some 118) _) _
                simp only [Act.put, List.setIfInBounds_toArray, List.set_cons_succ, List.set_cons_zero]
                refine wpAnyH_take (i := 21) (v := .bool true) rfl (by kernel_rfl) (by kernel_rfl) (by kernel_rfl) (fun _ _ _ h => h) (Or.inl ⟨by kernel_rfl, ?_⟩) hS ?_
                · intro w hw; clear hw; go_simp
                change wpAnyH _ _ _ _ _ _ _ (Act.put _ (some 4) _) _
                simp only [Act.put, List.setIfInBounds_toArray, List.set_cons_succ, List.set_cons_zero]
                refine wpAnyH_done (by kernel_rfl) ?_ _
                go_wp2_with fail
                go_ret
                exact ⟨rfl, BW6.out.trans (hS.mono BW6.out.size)⟩
end Go.Proofs.YtibplphpbbajhaaDoor
