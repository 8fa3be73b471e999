/-
  An act, both ways, where the two devices need not be the same: a page is read; an act of whatever kind.
-/
import Derived.Test.YtfogocappakbdaaDoorGenB
namespace Go.Proofs.YtfogocappakbdaaDoor
open Go.RowKit

set_option maxHeartbeats 1000000 in
theorem same02_gen {w : World} {u v : Value} {b c : List Nat} (h : BAt w u b) (k : BAt w v c) : Calls Tryd.prog 17 #[u, v] w fun e w' => ∃ ok, e = .returned (.bool ok) ∧ Below w.heap.size w w' := by
  obtain ⟨p, cap, rfl, h2, h3, h4, h5⟩ := h.each
  obtain ⟨q, cap2, rfl, k2, k3, k4, k5⟩ := k.each
  unfold maxLen at h3 k3
  have HE : Hid (∀ k u, (U b)[k]? = some u → ∃ bb off, p = some ⟨bb, off, none⟩ ∧ bb < w.heap.size ∧ w.cell? ⟨bb, off + k, none⟩ = some u) := h5
  have HF : Hid (∀ k u, (U c)[k]? = some u → ∃ bb off, q = some ⟨bb, off, none⟩ ∧ bb < w.heap.size ∧ w.cell? ⟨bb, off + k, none⟩ = some u) := k5
  clear h h4 h5 k k4 k5
  by_cases hlen : b.length = c.length
  · have HL := hid2 hlen
    have hl2 : ((b.length : Int) != (c.length : Int)) = false := by rw [hlen]; simp
    clear hlen
    go_enter Tryd.func17, Tryd.ntmps17
    go_wp2_with fail
    go_loopw [5] (fun i wr => ∃ k : Nat, i = .int .i64 (k : Int) ∧ k ≤ b.length ∧ ∃ n, wr = w.drewN n) (fun i _ => b.length - (intOf i).toNat)
    case atStart => exact ⟨0, rfl, Nat.zero_le _, 0, rfl⟩
    case round =>
      clear hl2
      obtain ⟨k, rfl, hk, n, rfl⟩ := hrel
      by_cases hlt : k < b.length
      · obtain ⟨x, hx⟩ : ∃ x, b[k]? = some x := ⟨_, List.getElem?_eq_getElem hlt⟩
        obtain ⟨y, hy⟩ : ∃ y, c[k]? = some y := ⟨_, List.getElem?_eq_getElem (by rw [← HL.out]; exact hlt)⟩
        obtain ⟨bb, off, rfl, hbb, hc⟩ := HE.out k _ (U_at hx)
        obtain ⟨bb2, off2, rfl, hbb2, hc2⟩ := HF.out k _ (U_at hy)
        have hki : (k : Int) < (b.length : Int) := by omega
        have hkc : (k : Int) < (c.length : Int) := by have := HL.out; omega
        clear hx hy
        by_cases hxy : x = y
        · subst hxy
          go_wp2_with fail
          go_quiet (fail)
          go_wp2
          go_roundw
          case rel => exact ⟨k + 1, by go_num, by omega, _, rfl⟩
          case measure => simp [intOf]; omega
        · have hd : ((x : Int) != (y : Int)) = true := by rw [bne_iff_ne]; omega
          go_wp2_with fail
          go_quiet (fail)
          go_wp2
          go_ret
          first | exact ⟨_, rfl, below_drewN (below_drewN (Below.refl _ _) _) _⟩ | exact ⟨rfl, below_drewN (below_drewN (Below.refl _ _) _) _⟩
      · have hki : ¬ ((k : Int) < (b.length : Int)) := by omega
        go_wp2
        go_ret
        exact ⟨.inr rfl, below_drewN (Below.refl _ _) _⟩
  · have hl2 : ((b.length : Int) != (c.length : Int)) = true := by rw [bne_iff_ne]; omega
    clear hlen
    go_enter Tryd.func17, Tryd.ntmps17
    go_wp2
    go_ret
    first | exact ⟨_, rfl, Below.refl _ _⟩ | exact Below.refl _ _

set_option maxHeartbeats 4000000 in
set_option maxRecDepth 10000 in
theorem gdo_read {w : World} {B g N : Nat} {d : Dev} {r : Rf} {y0 y1 y2 y3 y4 y5 : Value} (hF : Fl w B g N d) (hR : RfAt w (.agg #[y0, y1, y2, y3, y4, y5]) r N) {dd : Dev} (hS : Sim dd r) (hE : ErrT w) (_hB : 0 < B) (hN : N < 900) (hone : y0.oneCell' = true ∧ y1.oneCell' = true ∧ y2.oneCell' = true ∧ y3.oneCell' = true ∧ y4.oneCell' = true ∧ y5.oneCell' = true)
    (at_ n : Int) (a b : Nat) (kp : Option Addr) (kn kc : Nat) :
    Calls Tryd.prog 12 #[.pointer (some ⟨g, 0, none⟩), .agg #[y0, y1, y2, y3, y4, y5], .agg #[.int .i64 2, .int .i64 at_, .int .u8 (a : Int), .int .u8 (b : Int), .int .i64 n, .slice kp kn kc]] w fun e w' => ∃ x0 x1 x2 x3 x4 x5 ok, e = .returned (.tuple #[.agg #[x0, x1, x2, x3, x4, x5], .bool ok]) ∧ DoneG w w' B g (N + 1) d dd (.agg #[x0, x1, x2, x3, x4, x5]) := by
  have HF0 := hid2 hF
  have HE0 := hid2 hE
  have hdo := hF.1
  obtain ⟨X0, X1, X2⟩ := heap3h w (.cells #[y0, y1, y2, y3, y4, y5] 33) (.cells #[.int .i64 2, .int .i64 at_, .int .u8 (a : Int), .int .u8 (b : Int), .int .i64 n, .slice kp kn kc] 42) (.cells #[.int .i64 0, .slice none 0 0, .slice none 0 0, .int .i64 0, .bool false, .int .i64 0] 33)
  have HBW : Hid (Below w.heap.size w (((w.alloc (.cells #[y0, y1, y2, y3, y4, y5] 33)).alloc (.cells #[.int .i64 2, .int .i64 at_, .int .u8 (a : Int), .int .u8 (b : Int), .int .i64 n, .slice kp kn kc] 42)).alloc (.cells #[.int .i64 0, .slice none 0 0, .slice none 0 0, .int .i64 0, .bool false, .int .i64 0] 33))) := by show Below _ _ _; go_grown
  have HF1 : Hid (Fl (((w.alloc (.cells #[y0, y1, y2, y3, y4, y5] 33)).alloc (.cells #[.int .i64 2, .int .i64 at_, .int .u8 (a : Int), .int .u8 (b : Int), .int .i64 n, .slice kp kn kc] 42)).alloc (.cells #[.int .i64 0, .slice none 0 0, .slice none 0 0, .int .i64 0, .bool false, .int .i64 0] 33)) B g N d) := hF.below HBW.out
  have HR1 : Hid (RfAt (((w.alloc (.cells #[y0, y1, y2, y3, y4, y5] 33)).alloc (.cells #[.int .i64 2, .int .i64 at_, .int .u8 (a : Int), .int .u8 (b : Int), .int .i64 n, .slice kp kn kc] 42)).alloc (.cells #[.int .i64 0, .slice none 0 0, .slice none 0 0, .int .i64 0, .bool false, .int .i64 0] 33)) (.agg #[y0, y1, y2, y3, y4, y5]) r N) := hR.below HBW.out
  have HE1 : Hid (ErrT (((w.alloc (.cells #[y0, y1, y2, y3, y4, y5] 33)).alloc (.cells #[.int .i64 2, .int .i64 at_, .int .u8 (a : Int), .int .u8 (b : Int), .int .i64 n, .slice kp kn kc] 42)).alloc (.cells #[.int .i64 0, .slice none 0 0, .slice none 0 0, .int .i64 0, .bool false, .int .i64 0] 33))) := hE.below HBW.out
  have HS := hid2 hS
  have HONE := hid2 hone
  have hlt := hF.lt
  clear hF hR hE hS hone
  have hread : rreadP r at_ = readP dd at_ := by unfold rreadP readP; rw [HS.out.refuses, HS.out.look]
  have KP := fun w' (hF : Fl w' B g N d) => read_any hF (by omega) at_
  have KT := rread_any HR1.out at_
  rw [hread] at KT
  generalize readP dd at_ = pc at *
  obtain ⟨pb, code⟩ := pc
  generalize readP d at_ = pc2 at *
  obtain ⟨pb2, cp⟩ := pc2
  dsimp only at *
  have HKT : Hid (Calls Tryd.prog 31 #[.agg #[y0, y1, y2, y3, y4, y5], .int .i64 at_] (((w.alloc (.cells #[y0, y1, y2, y3, y4, y5] 33)).alloc (.cells #[.int .i64 2, .int .i64 at_, .int .u8 (a : Int), .int .u8 (b : Int), .int .i64 n, .slice kp kn kc] 42)).alloc (.cells #[.int .i64 0, .slice none 0 0, .slice none 0 0, .int .i64 0, .bool false, .int .i64 0] 33)) fun e w' => ∃ v, e = .returned (.tuple #[v, .int .i64 code]) ∧ BAt w' v pb ∧ Below (((w.alloc (.cells #[y0, y1, y2, y3, y4, y5] 33)).alloc (.cells #[.int .i64 2, .int .i64 at_, .int .u8 (a : Int), .int .u8 (b : Int), .int .i64 n, .slice kp kn kc] 42)).alloc (.cells #[.int .i64 0, .slice none 0 0, .slice none 0 0, .int .i64 0, .bool false, .int .i64 0] 33)).heap.size (((w.alloc (.cells #[y0, y1, y2, y3, y4, y5] 33)).alloc (.cells #[.int .i64 2, .int .i64 at_, .int .u8 (a : Int), .int .u8 (b : Int), .int .i64 n, .slice kp kn kc] 42)).alloc (.cells #[.int .i64 0, .slice none 0 0, .slice none 0 0, .int .i64 0, .bool false, .int .i64 0] 33)) w') := KT
  have HKP : Hid (∀ w', Fl w' B g N d → Calls Tryd.prog 15 #[.pointer (some ⟨g, 0, none⟩), .int .i64 at_] w' fun e w'' => ∃ v u, e = .returned (.tuple #[v, u]) ∧ Fault w'' u cp ∧ BAt w'' v pb2 ∧ Below w'.heap.size w' w'') := KP
  clear KT KP hread
  go_enter Tryd.func12, Tryd.ntmps12
  go_wp2_with (first | (go_at_call 31; refine (show Calls _ _ _ _ _ from HKT).mono ?_; rintro e w1 ⟨xv, rfl, hx1, hb1⟩; have q1 := heap_stays X1.out hb1; obtain ⟨⟨p0, p1, p2, p3, p4, p5⟩, _⟩ := six' q1; have hs1 : w.heap.size + 1 < w1.heap.size := (Array.getElem?_eq_some_iff.1 q1).1; have HB1 := hid2 hb1; have HX1 := hid2 hx1; clear q1 hx1 hb1) | (go_at_call 15; refine (HKP.out _ (HF1.out.below HB1.out)).mono ?_; rintro e w2 ⟨bv, ev, rfl, hfa, hbv, hb2⟩; have HFA := hid2 hfa; have HBV := hid2 hbv; have HB2 := hid2 hb2; have z0 := heap_stays (heap_stays X0.out HB1.out) hb2; have z2 := heap_stays (heap_stays X2.out HB1.out) hb2; have Z0 := hid2 z0; have Z2 := hid2 z2; have hs2 : w.heap.size + 1 + 1 < w2.heap.size := (Array.getElem?_eq_some_iff.1 z2).1; clear z0 z2 hfa hbv hb2))
  have HB3 : Hid (Below w.heap.size w w2.drew) := ((HBW.out.trans (HB1.out.mono HBW.out.size)).trans (HB2.out.mono (Nat.le_trans HBW.out.size HB1.out.size))).drew
  have HXV : Hid (BAt w2.drew xv pb) := (HX1.out.below HB2.out).below (Below.refl _ _).drew
  have HFA3 : Hid (Fault w2.drew ev cp) := HFA.out.below (Below.refl _ _).drew
  have HBV3 : Hid (BAt w2.drew bv pb2) := HBV.out.below (Below.refl _ _).drew
  have HF3 : Hid (Fl w2.drew B g N d) := HF0.out.below HB3.out
  have HR3 : Hid (RfAt w2.drew (.agg #[y0, y1, y2, y3, y4, y5]) r N) := ((HR1.out.below HB1.out).below HB2.out).below (Below.refl _ _).drew
  have HE3 : Hid (ErrT w2.drew) := HE0.out.below HB3.out
  have HZ3 : Hid (w2.drew.heap[w.heap.size + 1 + 1]? = some (.cells #[.int .i64 0, .slice none 0 0, .slice none 0 0, .int .i64 0, .bool false, .int .i64 0] 33 (0, 0))) := Z2.out
  refine wp_region_held_drew (S := fun w' => w'.heap[w.heap.size]? = some (.cells #[y0, y1, y2, y3, y4, y5] 33 (0, 0)) ∧ True) (by kernel_rfl) (⟨Z0.out, trivial⟩) (fun hS => ?_)
  change wpAnyH _ _ _ _ _ _ _ _ (World.drew _)
  refine wpAnyH_take (i := 0) (v := .agg #[y0, y1, y2, y3, y4, y5]) rfl (by kernel_rfl) (by kernel_rfl) (by kernel_rfl) (fun _ _ _ h => h) (Or.inl ⟨by kernel_rfl, ?_⟩) hS ?_
  · intro W hw
    obtain ⟨⟨q0, q1, q2, q3, q4, q5⟩, _⟩ := six' hw.1
    clear hw
    go_simp
  change wpAnyH _ _ _ _ _ _ _ (Act.put _ (some 84) _) _
  simp only [Act.put, List.setIfInBounds_toArray, List.set_cons_succ, List.set_cons_zero]
  refine wpAnyH_take (i := 1) (v := ev) rfl (by kernel_rfl) (by kernel_rfl) (by kernel_rfl) (fun _ _ _ h => h) (Or.inl ⟨by kernel_rfl, ?_⟩) hS ?_
  · intro w hw; clear hw; go_simp
  change wpAnyH _ _ _ _ _ _ _ (Act.put _ (some 85) _) _
  simp only [Act.put, List.setIfInBounds_toArray, List.set_cons_succ, List.set_cons_zero]
  refine wpAnyH_take (i := 3) (v := .int .i64 code) rfl (by kernel_rfl) (by kernel_rfl) (by kernel_rfl) (fun _ _ _ h => h) (Or.inl ⟨by kernel_rfl, ?_⟩) hS ?_
  · intro w hw; clear hw; go_simp
  change wpAnyH _ _ _ _ _ _ _ (Act.put _ (some 87) _) _
  simp only [Act.put, List.setIfInBounds_toArray, List.set_cons_succ, List.set_cons_zero]
  refine wpAnyH_ready (rs := [2]) (by kernel_rfl) (by simp) ?_
  refine AllReadyH.cons rfl (fun K hK => ?_) AllReadyH.nil
  go_simp
  go_wp2_with (go_at_call 11; refine (of_code HE3.out HFA3.out).mono ?_; rintro e w5 ⟨rfl, hb5⟩)
  refine hK.out _ _ (⟨heap_stays hS.1 hb5, trivial⟩) (fun hS => ?_)
  clear hK K
  skip
  by_cases hcc : cp = code
  · subst hcc
    refine wpAnyH_take (i := 4) (v := .bool true) rfl (by kernel_rfl) (by kernel_rfl) (by kernel_rfl) (fun _ _ _ h => h) (Or.inl ⟨by kernel_rfl, ?_⟩) hS ?_
    · intro w hw; clear hw; go_simp
    change wpAnyH _ _ _ _ _ _ _ (Act.put _ (some 88) _) _
    simp only [Act.put, List.setIfInBounds_toArray, List.set_cons_succ, List.set_cons_zero]
    refine wpAnyH_take (i := 5) (v := .bool true) rfl (by kernel_rfl) (by kernel_rfl) (by kernel_rfl) (fun _ _ _ h => h) (Or.inl ⟨by kernel_rfl, ?_⟩) hS ?_
    · intro w hw; clear hw; go_simp
    change wpAnyH _ _ _ _ _ _ _ (Act.put _ (some 89) _) _
    simp only [Act.put, List.setIfInBounds_toArray, List.set_cons_succ, List.set_cons_zero]
    refine wpAnyH_take (i := 6) (v := bv) rfl (by kernel_rfl) (by kernel_rfl) (by kernel_rfl) (fun _ _ _ h => h) (Or.inl ⟨by kernel_rfl, ?_⟩) hS ?_
    · intro w hw; clear hw; go_simp
    change wpAnyH _ _ _ _ _ _ _ (Act.put _ (some 90) _) _
    simp only [Act.put, List.setIfInBounds_toArray, List.set_cons_succ, List.set_cons_zero]
    refine wpAnyH_take (i := 7) (v := xv) rfl (by kernel_rfl) (by kernel_rfl) (by kernel_rfl) (fun _ _ _ h => h) (Or.inl ⟨by kernel_rfl, ?_⟩) hS ?_
    · intro w hw; clear hw; go_simp
    change wpAnyH _ _ _ _ _ _ _ (Act.put _ (some 91) _) _
    simp only [Act.put, List.setIfInBounds_toArray, List.set_cons_succ, List.set_cons_zero]
    refine wpAnyH_ready (rs := [8]) (by kernel_rfl) (by simp) ?_
    refine AllReadyH.cons rfl (fun K hK => ?_) AllReadyH.nil
    go_simp
    go_wp2_with (go_at_call 17; refine (same02_gen (HBV3.out.below hb5) (HXV.out.below hb5)).mono ?_; rintro e w7 ⟨ok, rfl, hb7⟩)
    refine hK.out _ _ (⟨heap_stays hS.1 hb7, trivial⟩) (fun hS => ?_)
    clear hK K
    skip
    refine wpAnyH_take (i := 9) (v := .bool ok) rfl (by kernel_rfl) (by kernel_rfl) (by kernel_rfl) (fun _ _ _ h => h) (Or.inl ⟨by kernel_rfl, ?_⟩) hS ?_
    · intro w hw; clear hw; go_simp
    change wpAnyH _ _ _ _ _ _ _ (Act.put _ (some 93) _) _
    simp only [Act.put, List.setIfInBounds_toArray, List.set_cons_succ, List.set_cons_zero]
    refine wpAnyH_ready (rs := [10]) (by kernel_rfl) (by simp) ?_
    refine AllReadyH.cons rfl (fun K hK => ?_) AllReadyH.nil
    refine step_st33 rfl (.tmp 6) (.tmp 84) rfl (w.heap.size + 1 + 1) rfl _ _ _ _ _ _ _ (heap_stays (heap_stays HZ3.out hb5) hb7) rfl rfl HONE.out ?_
    intro w6 hw6 hg6
    refine hK.out _ _ (⟨heap_grown hS.1 hg6 (by simp; omega), trivial⟩) (fun hS => ?_)
    clear hK K
    change wpAnyH _ _ _ _ _ _ _ (Act.put _ (none) _) _
    simp only [Act.put]
    refine wpAnyH_take (i := 11) (v := .bool ok) rfl (by kernel_rfl) (by kernel_rfl) (by kernel_rfl) (fun _ _ _ h => h) (Or.inl ⟨by kernel_rfl, ?_⟩) hS ?_
    · intro w hw; clear hw; go_simp
    change wpAnyH _ _ _ _ _ _ _ (Act.put _ (some 7) _) _
    simp only [Act.put, List.setIfInBounds_toArray, List.set_cons_succ, List.set_cons_zero]
    refine wpAnyH_done (by kernel_rfl) ?_ _
    go_wp2
    refine bodyPost_ret (v := .tuple #[.agg #[y0, y1, y2, y3, y4, y5], .bool ok]) ?_ rfl ⟨_, _, _, _, _, _, _, rfl, ?_⟩
    · exact results33 Tryd.results12 _ _ (w.heap.size + 1 + 1) rfl _ _ _ _ _ _ 33 (0, 0) hw6 _ rfl
    · exact DoneG.mk' ((((HF3.out.below hb5).below hb7)).more (by omega)) ((((HR3.out.below hb5).below hb7)).more (by omega)) HS.out (((Below.fr HB3.out).trans (Below.fr hb5)).trans (Below.fr hb7)) (heap_stays (heap_stays HZ3.out hb5) hb7) hg6 (by omega)
  · have hcc2 : (cp == code) = false := by simpa using hcc
    refine wpAnyH_take (i := 4) (v := .bool false) rfl (by kernel_rfl) (by kernel_rfl) (by kernel_rfl) (fun _ _ _ h => h) (Or.inl ⟨by kernel_rfl, ?_⟩) hS ?_
    · intro w hw; clear hw; go_simp
    change wpAnyH _ _ _ _ _ _ _ (Act.put _ (some 88) _) _
    simp only [Act.put, List.setIfInBounds_toArray, List.set_cons_succ, List.set_cons_zero]
    refine wpAnyH_take (i := 5) (v := .bool false) rfl (by kernel_rfl) (by kernel_rfl) (by kernel_rfl) (fun _ _ _ h => h) (Or.inl ⟨by kernel_rfl, ?_⟩) hS ?_
    · intro w hw; clear hw; go_simp
    change wpAnyH _ _ _ _ _ _ _ (Act.put _ (some 89) _) _
    simp only [Act.put, List.setIfInBounds_toArray, List.set_cons_succ, List.set_cons_zero]
    refine wpAnyH_take (i := 6) (v := undef) rfl (by kernel_rfl) (by kernel_rfl) (by kernel_rfl) (fun _ _ _ h => h) (Or.inr ⟨by kernel_rfl, rfl⟩) hS ?_
    change wpAnyH _ _ _ _ _ _ _ (Act.put _ (some 90) _) _
    simp only [Act.put, List.setIfInBounds_toArray, List.set_cons_succ, List.set_cons_zero]
    refine wpAnyH_take (i := 7) (v := undef) rfl (by kernel_rfl) (by kernel_rfl) (by kernel_rfl) (fun _ _ _ h => h) (Or.inr ⟨by kernel_rfl, rfl⟩) hS ?_
    change wpAnyH _ _ _ _ _ _ _ (Act.put _ (some 91) _) _
    simp only [Act.put, List.setIfInBounds_toArray, List.set_cons_succ, List.set_cons_zero]
    refine wpAnyH_take (i := 8) (v := undef) rfl (by kernel_rfl) (by kernel_rfl) (by kernel_rfl) (fun _ _ _ h => h) (Or.inr ⟨by kernel_rfl, rfl⟩) hS ?_
    change wpAnyH _ _ _ _ _ _ _ (Act.put _ (some 92) _) _
    simp only [Act.put, List.setIfInBounds_toArray, List.set_cons_succ, List.set_cons_zero]
    refine wpAnyH_take (i := 9) (v := .bool false) rfl (by kernel_rfl) (by kernel_rfl) (by kernel_rfl) (fun _ _ _ h => h) (Or.inl ⟨by kernel_rfl, ?_⟩) hS ?_
    · intro w hw; clear hw; go_simp
    change wpAnyH _ _ _ _ _ _ _ (Act.put _ (some 93) _) _
    simp only [Act.put, List.setIfInBounds_toArray, List.set_cons_succ, List.set_cons_zero]
    refine wpAnyH_ready (rs := [10]) (by kernel_rfl) (by simp) ?_
    refine AllReadyH.cons rfl (fun K hK => ?_) AllReadyH.nil
    refine step_st33 rfl (.tmp 6) (.tmp 84) rfl (w.heap.size + 1 + 1) rfl _ _ _ _ _ _ _ (heap_stays HZ3.out hb5) rfl rfl HONE.out ?_
    intro w6 hw6 hg6
    refine hK.out _ _ (⟨heap_grown hS.1 hg6 (by simp; omega), trivial⟩) (fun hS => ?_)
    clear hK K
    change wpAnyH _ _ _ _ _ _ _ (Act.put _ (none) _) _
    simp only [Act.put]
    refine wpAnyH_take (i := 11) (v := .bool false) rfl (by kernel_rfl) (by kernel_rfl) (by kernel_rfl) (fun _ _ _ h => h) (Or.inl ⟨by kernel_rfl, ?_⟩) hS ?_
    · intro w hw; clear hw; go_simp
    change wpAnyH _ _ _ _ _ _ _ (Act.put _ (some 7) _) _
    simp only [Act.put, List.setIfInBounds_toArray, List.set_cons_succ, List.set_cons_zero]
    refine wpAnyH_done (by kernel_rfl) ?_ _
    go_wp2
    refine bodyPost_ret (v := .tuple #[.agg #[y0, y1, y2, y3, y4, y5], .bool false]) ?_ rfl ⟨_, _, _, _, _, _, _, rfl, ?_⟩
    · exact results33 Tryd.results12 _ _ (w.heap.size + 1 + 1) rfl _ _ _ _ _ _ 33 (0, 0) hw6 _ rfl
    · exact DoneG.mk' ((HF3.out.below hb5).more (by omega)) ((HR3.out.below hb5).more (by omega)) HS.out ((Below.fr HB3.out).trans (Below.fr hb5)) (heap_stays HZ3.out hb5) hg6 (by omega)

theorem writeP_ok {d : Dev} (h : DevOk d) (at_ : Int) {b : List Nat} (hb : ∀ x ∈ b, x < 256) : DevOk (writeP d at_ b).1 := by
  unfold writeP
  by_cases hr : refusesP d at_ = 0
  · rw [if_pos hr]
    obtain ⟨_, r1, r2⟩ := refuses_zero hr
    by_cases hl : b.length = 256
    · rw [if_pos hl]
      exact waitP_ok h ⟨hl, hb, (fun e => by cases e), r1, r2⟩
    · rw [if_neg hl]; exact h
  · rw [if_neg hr]; exact h
theorem trimP_ok {d : Dev} (h : DevOk d) (at_ : Int) : DevOk (trimP d at_).1 := by
  unfold trimP
  by_cases hr : refusesP d at_ = 0
  · rw [if_pos hr]
    obtain ⟨_, r1, r2⟩ := refuses_zero hr
    exact waitP_ok h ⟨zeros_length, zeros_byt, fun _ => rfl, r1, r2⟩
  · rw [if_neg hr]; exact h
theorem flushP_ok {d : Dev} (h : DevOk d) : DevOk (flushP d).1 := by
  unfold flushP
  split
  · exact h
  · split
    · exact burnsP_ok h
    · exact settledP_ok (burnsP_ok h)
theorem doP_ok {d : Dev} (h : DevOk d) (o : Act4) (ha : o.a < 256) (hb : o.b < 256) : DevOk (doP d o) := by
  unfold doP
  split
  · exact writeP_ok h _ (fun x hx => bytN_byt ha hb 256 x (List.mem_of_mem_take hx))
  · split
    · exact trimP_ok h _
    · split
      · exact h
      · split
        · exact flushP_ok h
        · split
          · exact ⟨h.pages0, h.pages1, h.len, h.byt, h.wlen⟩
          · split
            · exact crashP_ok h _
            · exact h

theorem gdo_any {w : World} {B g N : Nat} {d dd : Dev} {r : Rf} {rv : Value} (hF : Fl w B g N d) (hR : RfAt w rv r N) (hS : Sim dd r) (hdd : DevOk dd) (hE : ErrT w) (hB : 0 < B) (hN : N < 900) (o : Act4) (hO : ActOk w B o) :
    Calls Tryd.prog 12 #[.pointer (some ⟨g, 0, none⟩), rv, .agg #[.int .i64 o.kind, .int .i64 o.at_, .int .u8 (o.a : Int), .int .u8 (o.b : Int), .int .i64 o.n, o.kv]] w fun e w' => ∃ x0 x1 x2 x3 x4 x5 ok, e = .returned (.tuple #[.agg #[x0, x1, x2, x3, x4, x5], .bool ok]) ∧ DoneG w w' B g (N + 1) (doP d o) (doP dd o) (.agg #[x0, x1, x2, x3, x4, x5]) := by
  obtain ⟨y0, y1, y2, y3, y4, y5, rfl, hone⟩ := hR.parts
  obtain ⟨kind, at_, a, b, n, keep, kv⟩ := o
  obtain ⟨hK, ha, hb, hk, hat, hn⟩ := hO
  dsimp only at *
  have hK' := hK
  obtain ⟨kp, kc, rfl, _⟩ := hK
  unfold doP
  dsimp only
  by_cases k0 : kind = 0
  · subst k0
    rw [if_pos rfl, if_pos rfl]
    by_cases hm : n.tmod 16 = 5
    · rw [if_pos hm]
      exact gdo_write_cut hF hR hS hE hB hN hone at_ n a b kp keep.length kc ⟨ha, hb⟩ (by simpa using hm)
    · rw [if_neg hm]
      exact gdo_write hF hR hS hE hB hN hone at_ n a b kp keep.length kc ⟨ha, hb⟩ (by simpa using hm)
  · rw [if_neg k0, if_neg k0]
    by_cases k1 : kind = 1
    · subst k1; rw [if_pos rfl, if_pos rfl]; exact gdo_trim hF hR hS hE hB hN hone at_ n a b kp keep.length kc
    · rw [if_neg k1, if_neg k1]
      by_cases k2 : kind = 2
      · subst k2; rw [if_pos rfl, if_pos rfl]; exact gdo_read hF hR hS hE hB hN hone at_ n a b kp keep.length kc
      · rw [if_neg k2, if_neg k2]
        by_cases k3 : kind = 3
        · subst k3; rw [if_pos rfl, if_pos rfl]; exact gdo_flush hF hR hS hdd hE hB hN hone at_ n a b kp keep.length kc
        · rw [if_neg k3, if_neg k3]
          by_cases k4 : kind = 4
          · subst k4; rw [if_pos rfl, if_pos rfl]; exact gdo_fuse hF hR hS hE hB hN hone at_ n a b kp keep.length kc hn.1 hn.2
          · rw [if_neg k4, if_neg k4]
            by_cases k5 : kind = 5
            · subst k5; rw [if_pos rfl, if_pos rfl]; exact gdo_crash hF hR hS hdd hE hB hN hone at_ n a b kp keep.length kc keep hK'
            · rw [if_neg k5, if_neg k5]
              exact gdo_other hF hR hS hE hB hN hone at_ n a b kp keep.length kc kind k0 k1 k2 k3 k4 k5
end Go.Proofs.YtfogocappakbdaaDoor
