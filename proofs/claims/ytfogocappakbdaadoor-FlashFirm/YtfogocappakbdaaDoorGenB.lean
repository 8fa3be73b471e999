/-
  An act, both ways, where the two devices need not be the same: a page is written.
-/
import Derived.Test.YtfogocappakbdaaDoorGenA
namespace Go.Proofs.YtfogocappakbdaaDoor
open Go.RowKit

set_option maxHeartbeats 4000000 in
set_option maxRecDepth 10000 in
theorem gdo_write {w : World} {B g N : Nat} {d : Dev} {r : Rf} {y0 y1 y2 y3 y4 y5 : Value} (hF : Fl w B g N d) (hR : RfAt w (.agg #[y0, y1, y2, y3, y4, y5]) r N) {dd : Dev} (hS : Sim dd r) (hE : ErrT w) (hB : 0 < B) (hN : N < 900) (hone : y0.oneCell' = true ∧ y1.oneCell' = true ∧ y2.oneCell' = true ∧ y3.oneCell' = true ∧ y4.oneCell' = true ∧ y5.oneCell' = true)
    (at_ n : Int) (a b : Nat) (kp : Option Addr) (kn kc : Nat) (hab : a < 256 ∧ b < 256) (hm : (n.tmod 16 == 5) = false) :
    Calls Tryd.prog 12 #[.pointer (some ⟨g, 0, none⟩), .agg #[y0, y1, y2, y3, y4, y5], .agg #[.int .i64 0, .int .i64 at_, .int .u8 (a : Int), .int .u8 (b : Int), .int .i64 n, .slice kp kn kc]] w fun e w' => ∃ x0 x1 x2 x3 x4 x5 ok, e = .returned (.tuple #[.agg #[x0, x1, x2, x3, x4, x5], .bool ok]) ∧ DoneG w w' B g (N + 1) (writeP d at_ ((bytP a b).take 256)).1 (writeP dd at_ ((bytP a b).take 256)).1 (.agg #[x0, x1, x2, x3, x4, x5]) := by
  have HF0 := hid2 hF
  have HE0 := hid2 hE
  obtain ⟨X0, X1, X2⟩ := heap3h w (.cells #[y0, y1, y2, y3, y4, y5] 33) (.cells #[.int .i64 0, .int .i64 at_, .int .u8 (a : Int), .int .u8 (b : Int), .int .i64 n, .slice kp kn kc] 42) (.cells #[.int .i64 0, .slice none 0 0, .slice none 0 0, .int .i64 0, .bool false, .int .i64 0] 33)
  have HBW : Hid (Below w.heap.size w (((w.alloc (.cells #[y0, y1, y2, y3, y4, y5] 33)).alloc (.cells #[.int .i64 0, .int .i64 at_, .int .u8 (a : Int), .int .u8 (b : Int), .int .i64 n, .slice kp kn kc] 42)).alloc (.cells #[.int .i64 0, .slice none 0 0, .slice none 0 0, .int .i64 0, .bool false, .int .i64 0] 33))) := by show Below _ _ _; go_grown
  have HF1 : Hid (Fl (((w.alloc (.cells #[y0, y1, y2, y3, y4, y5] 33)).alloc (.cells #[.int .i64 0, .int .i64 at_, .int .u8 (a : Int), .int .u8 (b : Int), .int .i64 n, .slice kp kn kc] 42)).alloc (.cells #[.int .i64 0, .slice none 0 0, .slice none 0 0, .int .i64 0, .bool false, .int .i64 0] 33)) B g N d) := hF.below HBW.out
  have HR1 : Hid (RfAt (((w.alloc (.cells #[y0, y1, y2, y3, y4, y5] 33)).alloc (.cells #[.int .i64 0, .int .i64 at_, .int .u8 (a : Int), .int .u8 (b : Int), .int .i64 n, .slice kp kn kc] 42)).alloc (.cells #[.int .i64 0, .slice none 0 0, .slice none 0 0, .int .i64 0, .bool false, .int .i64 0] 33)) (.agg #[y0, y1, y2, y3, y4, y5]) r N) := hR.below HBW.out
  have HE1 : Hid (ErrT (((w.alloc (.cells #[y0, y1, y2, y3, y4, y5] 33)).alloc (.cells #[.int .i64 0, .int .i64 at_, .int .u8 (a : Int), .int .u8 (b : Int), .int .i64 n, .slice kp kn kc] 42)).alloc (.cells #[.int .i64 0, .slice none 0 0, .slice none 0 0, .int .i64 0, .bool false, .int .i64 0] 33))) := hE.below HBW.out
  have HS := hid2 hS
  have HONE := hid2 hone
  have hlt := hF.lt
  clear hF hR hE hS hone
  have hsim := (HS.out.write at_ ((bytP a b).take 256)).1
  have hby : ∀ x ∈ ((bytP a b).take 256), x < 256 := fun x hx => bytN_byt hab.1 hab.2 256 x (List.mem_of_mem_take hx)
  have KP := fun w' (hF : Fl w' B g N d) (v : Value) (hv : BAt w' v ((bytP a b).take 256)) => write_any hF hN at_ hv hby
  generalize (writeP d at_ ((bytP a b).take 256)).2 = cp at *
  have KT := fun w' (hR : RfAt w' (.agg #[y0, y1, y2, y3, y4, y5]) r N) (v : Value) (hv : BAt w' v ((bytP a b).take 256)) => rwrite_any hR hN at_ hv
  generalize (rwrite r at_ ((bytP a b).take 256)).2 = code at *
  generalize (rwrite r at_ ((bytP a b).take 256)).1 = r' at *
  have HKR : Hid (∀ w', RfAt w' (.agg #[y0, y1, y2, y3, y4, y5]) r N → ∀ v, BAt w' v ((bytP a b).take 256) → Calls Tryd.prog 29 #[.agg #[y0, y1, y2, y3, y4, y5], .int .i64 at_, v] w' fun e w'' => ∃ rv', e = .returned (.tuple #[rv', .int .i64 code]) ∧ RfAt w'' rv' r' (N + 1) ∧ Below w'.heap.size w' w'') := KT
  have HKP : Hid (∀ w', Fl w' B g N d → ∀ v, BAt w' v ((bytP a b).take 256) → Calls Tryd.prog 18 #[.pointer (some ⟨g, 0, none⟩), .int .i64 at_, v] w' fun e w'' => ∃ v, e = .returned v ∧ Fault w'' v cp ∧ Fl w'' B g (N + 1) (writeP d at_ ((bytP a b).take 256)).1 ∧ Fr B w' w'') := KP
  have HSIM := hid2 hsim
  have hsl := sl46
  have HPL : Hid ((bytP a b).length = 256) := bytN_length a b 256
  clear KT KP hsim hby
  go_enter Tryd.func12, Tryd.ntmps12
  go_wp2_with (first | (go_at_call 19; refine (bytes_at _ a b (w.heap.size + 1 + 1 + 1) (by simp)).mono ?_; rintro e w1 ⟨rfl, hh1, hb1⟩; have q0 := heap_stays X0.out hb1; have q1 := heap_stays X1.out hb1; have q2 := heap_stays X2.out hb1; obtain ⟨⟨d0, d1, d2, d3, d4, d5⟩, _⟩ := six' q0; obtain ⟨⟨p0, p1, p2, p3, p4, p5⟩, _⟩ := six' q1; have hs1 : w.heap.size + 1 + 1 < w1.heap.size := (Array.getElem?_eq_some_iff.1 q2).1; have Q1 := hid2 q1; have Q2 := hid2 q2; have HB1 : Hid (Below w.heap.size w w1) := HBW.out.trans (hb1.mono HBW.out.size); have HBV := hid2 (row5 hh1 HPL.out (n := 256) (by omega)); have HKT : Hid (Calls Tryd.prog 29 #[.agg #[y0, y1, y2, y3, y4, y5], .int .i64 at_, .slice (some ⟨w.heap.size + 1 + 1 + 1, 0, none⟩) 256 256] w1 _) := HKR.out w1 (HR1.out.below hb1) _ HBV.out; clear q0 q1 q2 hh1 hb1) | (go_at_call 29; refine (show Calls _ _ _ _ _ from HKT).mono ?_; rintro e w2 ⟨rv', rfl, hrf, hb2⟩; obtain ⟨x0, x1, x2, x3, x4, x5, hrv, hon⟩ := hrf.parts; subst hrv; have z1 := heap_stays Q1.out hb2; have z2 := heap_stays Q2.out hb2; clear d0 d1 d2 d3 d4 d5 p0 p1 p2 p3 p4 p5; obtain ⟨⟨p0, p1, p2, p3, p4, p5⟩, _⟩ := six' z1; have hs2 : w.heap.size + 1 + 1 < w2.heap.size := (Array.getElem?_eq_some_iff.1 z2).1; have Z1 := hid2 z1; have Z2 := hid2 z2; have HRF2 := hid2 hrf; have HON := hid2 hon; have HB2 := hid2 hb2; clear z1 z2 hrf hon hb2) | (refine st_new w2 33 6 (size_of Tryd.info33m) rfl (.tmp 9) (.tmp 40) rfl _ rfl rfl #[.int .i64 0, .slice none 0 0, .slice none 0 0, .int .i64 0, .bool false, .int .i64 0] #[x0, x1, x2, x3, x4, x5] rfl rfl rfl rfl (all6 HON.out) ?_))
  have HS3 : Hid ((w2.alloc (.cells #[x0, x1, x2, x3, x4, x5] 33)).drew.heap[w2.heap.size]? = some (.cells #[x0, x1, x2, x3, x4, x5] 33 (0, 0))) := heap_alloc_last _ _
  have HO3 : Hid ((w2.alloc (.cells #[x0, x1, x2, x3, x4, x5] 33)).drew.heap[w.heap.size + 1]? = some (.cells #[.int .i64 0, .int .i64 at_, .int .u8 (a : Int), .int .u8 (b : Int), .int .i64 n, .slice kp kn kc] 42 (0, 0))) := heap_alloc_old Z1.out _
  have HZ3 : Hid ((w2.alloc (.cells #[x0, x1, x2, x3, x4, x5] 33)).drew.heap[w.heap.size + 1 + 1]? = some (.cells #[.int .i64 0, .slice none 0 0, .slice none 0 0, .int .i64 0, .bool false, .int .i64 0] 33 (0, 0))) := heap_alloc_old Z2.out _
  have HBA : Hid (Below w.heap.size w (w2.alloc (.cells #[x0, x1, x2, x3, x4, x5] 33)).drew) := ((HB1.out.trans (HB2.out.mono HB1.out.size)).alloc (by have := HB1.out.size; have := HB2.out.size; omega) _).drew
  have HF3 : Hid (Fl (w2.alloc (.cells #[x0, x1, x2, x3, x4, x5] 33)).drew B g N d) := HF0.out.below HBA.out
  have HRF3 : Hid (RfAt (w2.alloc (.cells #[x0, x1, x2, x3, x4, x5] 33)).drew (.agg #[x0, x1, x2, x3, x4, x5]) r' (N + 1)) := HRF2.out.below (by go_grown)
  have HE3 : Hid (ErrT (w2.alloc (.cells #[x0, x1, x2, x3, x4, x5] 33)).drew) := HE0.out.below HBA.out

  have HBV3 : Hid (BAt (w2.alloc (.cells #[x0, x1, x2, x3, x4, x5] 33)).drew (.slice (some ⟨w.heap.size + 1 + 1 + 1, 0, none⟩) 256 256) ((bytP a b).take 256)) := (HBV.out.below HB2.out).below (by go_grown)
  refine wp_region_held_drew (S := fun w' => w'.heap[w2.heap.size]? = some (.cells #[x0, x1, x2, x3, x4, x5] 33 (0, 0)) ∧ w'.heap[w.heap.size + 1]? = some (.cells #[.int .i64 0, .int .i64 at_, .int .u8 (a : Int), .int .u8 (b : Int), .int .i64 n, .slice kp kn kc] 42 (0, 0))) (by kernel_rfl) (⟨HS3.out, HO3.out⟩) (fun hS => ?_)
  change wpAnyH _ _ _ _ _ _ _ _ (World.drew _)
  refine wpAnyH_take (i := 0) (v := .agg #[x0, x1, x2, x3, x4, x5]) rfl (by kernel_rfl) (by kernel_rfl) (by kernel_rfl) (fun _ _ _ h => h) (Or.inl ⟨by kernel_rfl, ?_⟩) hS ?_
  · intro W hw
    obtain ⟨⟨q0, q1, q2, q3, q4, q5⟩, _⟩ := six' hw.1
    clear hw
    go_simp
  change wpAnyH _ _ _ _ _ _ _ (Act.put _ (some 42) _) _
  simp only [Act.put, List.setIfInBounds_toArray, List.set_cons_succ, List.set_cons_zero]
  refine wpAnyH_take (i := 1) (v := .pointer (some ⟨g, 0, none⟩)) rfl (by kernel_rfl) (by kernel_rfl) (by kernel_rfl) (fun _ _ _ h => h) (Or.inl ⟨by kernel_rfl, ?_⟩) hS ?_
  · intro w hw; clear hw; go_simp
  change wpAnyH _ _ _ _ _ _ _ (Act.put _ (some 43) _) _
  simp only [Act.put, List.setIfInBounds_toArray, List.set_cons_succ, List.set_cons_zero]
  refine wpAnyH_take (i := 2) (v := .pointer (some ⟨w.heap.size + 1, 1, none⟩)) rfl (by kernel_rfl) (by kernel_rfl) (by kernel_rfl) (fun _ _ _ h => h) (Or.inl ⟨by kernel_rfl, ?_⟩) hS ?_
  · intro w hw; clear hw; go_simp
  change wpAnyH _ _ _ _ _ _ _ (Act.put _ (some 44) _) _
  simp only [Act.put, List.setIfInBounds_toArray, List.set_cons_succ, List.set_cons_zero]
  refine wpAnyH_take (i := 3) (v := .int .i64 at_) rfl (by kernel_rfl) (by kernel_rfl) (by kernel_rfl) (fun _ _ _ h => h) (Or.inl ⟨by kernel_rfl, ?_⟩) hS ?_
  · intro W hw
    obtain ⟨⟨q0, q1, q2, q3, q4, q5⟩, _⟩ := six' hw.2
    clear hw
    go_simp
  change wpAnyH _ _ _ _ _ _ _ (Act.put _ (some 45) _) _
  simp only [Act.put, List.setIfInBounds_toArray, List.set_cons_succ, List.set_cons_zero]
  refine wpAnyH_take (i := 4) (v := .slice (some ⟨w.heap.size + 1 + 1 + 1, 0, none⟩) 256 256) rfl (by kernel_rfl) (by kernel_rfl) (by kernel_rfl) (fun _ _ _ h => h) (Or.inl ⟨by kernel_rfl, ?_⟩) hS ?_
  · intro w hw; clear hw; go_simp
  change wpAnyH _ _ _ _ _ _ _ (Act.put _ (some 46) _) _
  simp only [Act.put, List.setIfInBounds_toArray, List.set_cons_succ, List.set_cons_zero]
  refine wpAnyH_take (i := 7) (v := .int .i64 code) rfl (by kernel_rfl) (by kernel_rfl) (by kernel_rfl) (fun _ _ _ h => h) (Or.inl ⟨by kernel_rfl, ?_⟩) hS ?_
  · intro w hw; clear hw; go_simp
  change wpAnyH _ _ _ _ _ _ _ (Act.put _ (some 49) _) _
  simp only [Act.put, List.setIfInBounds_toArray, List.set_cons_succ, List.set_cons_zero]
  refine wpAnyH_ready (rs := [5]) (by kernel_rfl) (by simp) ?_
  refine AllReadyH.cons rfl (fun K hK => ?_) AllReadyH.nil
  go_simp
  go_wp2_with (go_at_call 18; refine (HKP.out _ HF3.out _ HBV3.out).mono ?_; rintro e w4 ⟨v, rfl, hv, hF4, hR4⟩)
  refine hK.out _ _ (⟨heap_fr hR4 HS3.out, heap_fr hR4 HO3.out⟩) (fun hS => ?_)
  clear hK K
  skip
  refine wpAnyH_ready (rs := [6]) (by kernel_rfl) (by simp) ?_
  refine AllReadyH.cons rfl (fun K hK => ?_) AllReadyH.nil
  go_simp
  go_wp2_with (go_at_call 11; refine (of_code (HE3.out.fr hR4 hB) hv).mono ?_; rintro e w5 ⟨rfl, hb5⟩)
  refine hK.out _ _ (⟨heap_stays (heap_fr hR4 HS3.out) hb5, heap_stays (heap_fr hR4 HO3.out) hb5⟩) (fun hS => ?_)
  clear hK K
  skip
  refine wpAnyH_take (i := 8) (v := .bool (cp == code)) rfl (by kernel_rfl) (by kernel_rfl) (by kernel_rfl) (fun _ _ _ h => h) (Or.inl ⟨by kernel_rfl, ?_⟩) hS ?_
  · intro w hw; clear hw; go_simp
  change wpAnyH _ _ _ _ _ _ _ (Act.put _ (some 50) _) _
  simp only [Act.put, List.setIfInBounds_toArray, List.set_cons_succ, List.set_cons_zero]
  refine wpAnyH_ready (rs := [9]) (by kernel_rfl) (by simp) ?_
  refine AllReadyH.cons rfl (fun K hK => ?_) AllReadyH.nil
  refine step_st33 rfl (.tmp 6) (.tmp 42) rfl (w.heap.size + 1 + 1) rfl _ _ _ _ _ _ _ (heap_stays (heap_fr hR4 HZ3.out) hb5) rfl rfl HON.out ?_
  intro w6 hw6 hg6
  refine hK.out _ _ (⟨heap_grown (heap_stays (heap_fr hR4 HS3.out) hb5) hg6 (by simp; omega), heap_grown (heap_stays (heap_fr hR4 HO3.out) hb5) hg6 (by simp)⟩) (fun hS => ?_)
  clear hK K
  change wpAnyH _ _ _ _ _ _ _ (Act.put _ (none) _) _
  simp only [Act.put]
  refine wpAnyH_take (i := 10) (v := .bool (cp == code)) rfl (by kernel_rfl) (by kernel_rfl) (by kernel_rfl) (fun _ _ _ h => h) (Or.inl ⟨by kernel_rfl, ?_⟩) hS ?_
  · intro w hw; clear hw; go_simp
  change wpAnyH _ _ _ _ _ _ _ (Act.put _ (some 7) _) _
  simp only [Act.put, List.setIfInBounds_toArray, List.set_cons_succ, List.set_cons_zero]
  refine wpAnyH_done (by kernel_rfl) ?_ _
  go_wp2
  refine bodyPost_ret (v := .tuple #[.agg #[x0, x1, x2, x3, x4, x5], .bool (cp == code)]) ?_ rfl ⟨_, _, _, _, _, _, _, rfl, ?_⟩
  · exact results33 Tryd.results12 _ _ (w.heap.size + 1 + 1) rfl _ _ _ _ _ _ 33 (0, 0) hw6 _ rfl
  · exact DoneG.mk' (hF4.below hb5) ((HRF3.out.fr hR4).below hb5) HSIM.out (((Below.fr HBA.out).trans hR4).trans (Below.fr hb5)) (heap_stays (heap_fr hR4 HZ3.out) hb5) hg6 (by omega)

set_option maxHeartbeats 4000000 in
set_option maxRecDepth 10000 in
theorem gdo_write_cut {w : World} {B g N : Nat} {d : Dev} {r : Rf} {y0 y1 y2 y3 y4 y5 : Value} (hF : Fl w B g N d) (hR : RfAt w (.agg #[y0, y1, y2, y3, y4, y5]) r N) {dd : Dev} (hS : Sim dd r) (hE : ErrT w) (hB : 0 < B) (hN : N < 900) (hone : y0.oneCell' = true ∧ y1.oneCell' = true ∧ y2.oneCell' = true ∧ y3.oneCell' = true ∧ y4.oneCell' = true ∧ y5.oneCell' = true)
    (at_ n : Int) (a b : Nat) (kp : Option Addr) (kn kc : Nat) (hab : a < 256 ∧ b < 256) (hm : (n.tmod 16 == 5) = true) :
    Calls Tryd.prog 12 #[.pointer (some ⟨g, 0, none⟩), .agg #[y0, y1, y2, y3, y4, y5], .agg #[.int .i64 0, .int .i64 at_, .int .u8 (a : Int), .int .u8 (b : Int), .int .i64 n, .slice kp kn kc]] w fun e w' => ∃ x0 x1 x2 x3 x4 x5 ok, e = .returned (.tuple #[.agg #[x0, x1, x2, x3, x4, x5], .bool ok]) ∧ DoneG w w' B g (N + 1) (writeP d at_ ((bytP a b).take 255)).1 (writeP dd at_ ((bytP a b).take 255)).1 (.agg #[x0, x1, x2, x3, x4, x5]) := by
  have HF0 := hid2 hF
  have HE0 := hid2 hE
  obtain ⟨X0, X1, X2⟩ := heap3h w (.cells #[y0, y1, y2, y3, y4, y5] 33) (.cells #[.int .i64 0, .int .i64 at_, .int .u8 (a : Int), .int .u8 (b : Int), .int .i64 n, .slice kp kn kc] 42) (.cells #[.int .i64 0, .slice none 0 0, .slice none 0 0, .int .i64 0, .bool false, .int .i64 0] 33)
  have HBW : Hid (Below w.heap.size w (((w.alloc (.cells #[y0, y1, y2, y3, y4, y5] 33)).alloc (.cells #[.int .i64 0, .int .i64 at_, .int .u8 (a : Int), .int .u8 (b : Int), .int .i64 n, .slice kp kn kc] 42)).alloc (.cells #[.int .i64 0, .slice none 0 0, .slice none 0 0, .int .i64 0, .bool false, .int .i64 0] 33))) := by show Below _ _ _; go_grown
  have HF1 : Hid (Fl (((w.alloc (.cells #[y0, y1, y2, y3, y4, y5] 33)).alloc (.cells #[.int .i64 0, .int .i64 at_, .int .u8 (a : Int), .int .u8 (b : Int), .int .i64 n, .slice kp kn kc] 42)).alloc (.cells #[.int .i64 0, .slice none 0 0, .slice none 0 0, .int .i64 0, .bool false, .int .i64 0] 33)) B g N d) := hF.below HBW.out
  have HR1 : Hid (RfAt (((w.alloc (.cells #[y0, y1, y2, y3, y4, y5] 33)).alloc (.cells #[.int .i64 0, .int .i64 at_, .int .u8 (a : Int), .int .u8 (b : Int), .int .i64 n, .slice kp kn kc] 42)).alloc (.cells #[.int .i64 0, .slice none 0 0, .slice none 0 0, .int .i64 0, .bool false, .int .i64 0] 33)) (.agg #[y0, y1, y2, y3, y4, y5]) r N) := hR.below HBW.out
  have HE1 : Hid (ErrT (((w.alloc (.cells #[y0, y1, y2, y3, y4, y5] 33)).alloc (.cells #[.int .i64 0, .int .i64 at_, .int .u8 (a : Int), .int .u8 (b : Int), .int .i64 n, .slice kp kn kc] 42)).alloc (.cells #[.int .i64 0, .slice none 0 0, .slice none 0 0, .int .i64 0, .bool false, .int .i64 0] 33))) := hE.below HBW.out
  have HS := hid2 hS
  have HONE := hid2 hone
  have hlt := hF.lt
  clear hF hR hE hS hone
  have hsim := (HS.out.write at_ ((bytP a b).take 255)).1
  have hby : ∀ x ∈ ((bytP a b).take 255), x < 256 := fun x hx => bytN_byt hab.1 hab.2 256 x (List.mem_of_mem_take hx)
  have KP := fun w' (hF : Fl w' B g N d) (v : Value) (hv : BAt w' v ((bytP a b).take 255)) => write_any hF hN at_ hv hby
  generalize (writeP d at_ ((bytP a b).take 255)).2 = cp at *
  have KT := fun w' (hR : RfAt w' (.agg #[y0, y1, y2, y3, y4, y5]) r N) (v : Value) (hv : BAt w' v ((bytP a b).take 255)) => rwrite_any hR hN at_ hv
  generalize (rwrite r at_ ((bytP a b).take 255)).2 = code at *
  generalize (rwrite r at_ ((bytP a b).take 255)).1 = r' at *
  have HKR : Hid (∀ w', RfAt w' (.agg #[y0, y1, y2, y3, y4, y5]) r N → ∀ v, BAt w' v ((bytP a b).take 255) → Calls Tryd.prog 29 #[.agg #[y0, y1, y2, y3, y4, y5], .int .i64 at_, v] w' fun e w'' => ∃ rv', e = .returned (.tuple #[rv', .int .i64 code]) ∧ RfAt w'' rv' r' (N + 1) ∧ Below w'.heap.size w' w'') := KT
  have HKP : Hid (∀ w', Fl w' B g N d → ∀ v, BAt w' v ((bytP a b).take 255) → Calls Tryd.prog 18 #[.pointer (some ⟨g, 0, none⟩), .int .i64 at_, v] w' fun e w'' => ∃ v, e = .returned v ∧ Fault w'' v cp ∧ Fl w'' B g (N + 1) (writeP d at_ ((bytP a b).take 255)).1 ∧ Fr B w' w'') := KP
  have HSIM := hid2 hsim
  have hsl := sl46
  have HPL : Hid ((bytP a b).length = 256) := bytN_length a b 256
  clear KT KP hsim hby
  go_enter Tryd.func12, Tryd.ntmps12
  go_wp2_with (first | (go_at_call 19; refine (bytes_at _ a b (w.heap.size + 1 + 1 + 1) (by simp)).mono ?_; rintro e w1 ⟨rfl, hh1, hb1⟩; have q0 := heap_stays X0.out hb1; have q1 := heap_stays X1.out hb1; have q2 := heap_stays X2.out hb1; obtain ⟨⟨d0, d1, d2, d3, d4, d5⟩, _⟩ := six' q0; obtain ⟨⟨p0, p1, p2, p3, p4, p5⟩, _⟩ := six' q1; have hs1 : w.heap.size + 1 + 1 < w1.heap.size := (Array.getElem?_eq_some_iff.1 q2).1; have Q1 := hid2 q1; have Q2 := hid2 q2; have HB1 : Hid (Below w.heap.size w w1) := HBW.out.trans (hb1.mono HBW.out.size); have HBV := hid2 (row5 hh1 HPL.out (n := 255) (by omega)); have HKT : Hid (Calls Tryd.prog 29 #[.agg #[y0, y1, y2, y3, y4, y5], .int .i64 at_, .slice (some ⟨w.heap.size + 1 + 1 + 1, 0, none⟩) 255 256] w1 _) := HKR.out w1 (HR1.out.below hb1) _ HBV.out; clear q0 q1 q2 hh1 hb1) | (go_at_call 29; refine (show Calls _ _ _ _ _ from HKT).mono ?_; rintro e w2 ⟨rv', rfl, hrf, hb2⟩; obtain ⟨x0, x1, x2, x3, x4, x5, hrv, hon⟩ := hrf.parts; subst hrv; have z1 := heap_stays Q1.out hb2; have z2 := heap_stays Q2.out hb2; clear d0 d1 d2 d3 d4 d5 p0 p1 p2 p3 p4 p5; obtain ⟨⟨p0, p1, p2, p3, p4, p5⟩, _⟩ := six' z1; have hs2 : w.heap.size + 1 + 1 < w2.heap.size := (Array.getElem?_eq_some_iff.1 z2).1; have Z1 := hid2 z1; have Z2 := hid2 z2; have HRF2 := hid2 hrf; have HON := hid2 hon; have HB2 := hid2 hb2; clear z1 z2 hrf hon hb2) | (refine st_new w2 33 6 (size_of Tryd.info33m) rfl (.tmp 9) (.tmp 40) rfl _ rfl rfl #[.int .i64 0, .slice none 0 0, .slice none 0 0, .int .i64 0, .bool false, .int .i64 0] #[x0, x1, x2, x3, x4, x5] rfl rfl rfl rfl (all6 HON.out) ?_))
  have HS3 : Hid ((w2.alloc (.cells #[x0, x1, x2, x3, x4, x5] 33)).drew.heap[w2.heap.size]? = some (.cells #[x0, x1, x2, x3, x4, x5] 33 (0, 0))) := heap_alloc_last _ _
  have HO3 : Hid ((w2.alloc (.cells #[x0, x1, x2, x3, x4, x5] 33)).drew.heap[w.heap.size + 1]? = some (.cells #[.int .i64 0, .int .i64 at_, .int .u8 (a : Int), .int .u8 (b : Int), .int .i64 n, .slice kp kn kc] 42 (0, 0))) := heap_alloc_old Z1.out _
  have HZ3 : Hid ((w2.alloc (.cells #[x0, x1, x2, x3, x4, x5] 33)).drew.heap[w.heap.size + 1 + 1]? = some (.cells #[.int .i64 0, .slice none 0 0, .slice none 0 0, .int .i64 0, .bool false, .int .i64 0] 33 (0, 0))) := heap_alloc_old Z2.out _
  have HBA : Hid (Below w.heap.size w (w2.alloc (.cells #[x0, x1, x2, x3, x4, x5] 33)).drew) := ((HB1.out.trans (HB2.out.mono HB1.out.size)).alloc (by have := HB1.out.size; have := HB2.out.size; omega) _).drew
  have HF3 : Hid (Fl (w2.alloc (.cells #[x0, x1, x2, x3, x4, x5] 33)).drew B g N d) := HF0.out.below HBA.out
  have HRF3 : Hid (RfAt (w2.alloc (.cells #[x0, x1, x2, x3, x4, x5] 33)).drew (.agg #[x0, x1, x2, x3, x4, x5]) r' (N + 1)) := HRF2.out.below (by go_grown)
  have HE3 : Hid (ErrT (w2.alloc (.cells #[x0, x1, x2, x3, x4, x5] 33)).drew) := HE0.out.below HBA.out

  have HBV3 : Hid (BAt (w2.alloc (.cells #[x0, x1, x2, x3, x4, x5] 33)).drew (.slice (some ⟨w.heap.size + 1 + 1 + 1, 0, none⟩) 255 256) ((bytP a b).take 255)) := (HBV.out.below HB2.out).below (by go_grown)
  refine wp_region_held_drew (S := fun w' => w'.heap[w2.heap.size]? = some (.cells #[x0, x1, x2, x3, x4, x5] 33 (0, 0)) ∧ w'.heap[w.heap.size + 1]? = some (.cells #[.int .i64 0, .int .i64 at_, .int .u8 (a : Int), .int .u8 (b : Int), .int .i64 n, .slice kp kn kc] 42 (0, 0))) (by kernel_rfl) (⟨HS3.out, HO3.out⟩) (fun hS => ?_)
  change wpAnyH _ _ _ _ _ _ _ _ (World.drew _)
  refine wpAnyH_take (i := 0) (v := .agg #[x0, x1, x2, x3, x4, x5]) rfl (by kernel_rfl) (by kernel_rfl) (by kernel_rfl) (fun _ _ _ h => h) (Or.inl ⟨by kernel_rfl, ?_⟩) hS ?_
  · intro W hw
    obtain ⟨⟨q0, q1, q2, q3, q4, q5⟩, _⟩ := six' hw.1
    clear hw
    go_simp
  change wpAnyH _ _ _ _ _ _ _ (Act.put _ (some 42) _) _
  simp only [Act.put, List.setIfInBounds_toArray, List.set_cons_succ, List.set_cons_zero]
  refine wpAnyH_take (i := 1) (v := .pointer (some ⟨g, 0, none⟩)) rfl (by kernel_rfl) (by kernel_rfl) (by kernel_rfl) (fun _ _ _ h => h) (Or.inl ⟨by kernel_rfl, ?_⟩) hS ?_
  · intro w hw; clear hw; go_simp
  change wpAnyH _ _ _ _ _ _ _ (Act.put _ (some 43) _) _
  simp only [Act.put, List.setIfInBounds_toArray, List.set_cons_succ, List.set_cons_zero]
  refine wpAnyH_take (i := 2) (v := .pointer (some ⟨w.heap.size + 1, 1, none⟩)) rfl (by kernel_rfl) (by kernel_rfl) (by kernel_rfl) (fun _ _ _ h => h) (Or.inl ⟨by kernel_rfl, ?_⟩) hS ?_
  · intro w hw; clear hw; go_simp
  change wpAnyH _ _ _ _ _ _ _ (Act.put _ (some 44) _) _
  simp only [Act.put, List.setIfInBounds_toArray, List.set_cons_succ, List.set_cons_zero]
  refine wpAnyH_take (i := 3) (v := .int .i64 at_) rfl (by kernel_rfl) (by kernel_rfl) (by kernel_rfl) (fun _ _ _ h => h) (Or.inl ⟨by kernel_rfl, ?_⟩) hS ?_
  · intro W hw
    obtain ⟨⟨q0, q1, q2, q3, q4, q5⟩, _⟩ := six' hw.2
    clear hw
    go_simp
  change wpAnyH _ _ _ _ _ _ _ (Act.put _ (some 45) _) _
  simp only [Act.put, List.setIfInBounds_toArray, List.set_cons_succ, List.set_cons_zero]
  refine wpAnyH_take (i := 4) (v := .slice (some ⟨w.heap.size + 1 + 1 + 1, 0, none⟩) 255 256) rfl (by kernel_rfl) (by kernel_rfl) (by kernel_rfl) (fun _ _ _ h => h) (Or.inl ⟨by kernel_rfl, ?_⟩) hS ?_
  · intro w hw; clear hw; go_simp
  change wpAnyH _ _ _ _ _ _ _ (Act.put _ (some 46) _) _
  simp only [Act.put, List.setIfInBounds_toArray, List.set_cons_succ, List.set_cons_zero]
  refine wpAnyH_take (i := 7) (v := .int .i64 code) rfl (by kernel_rfl) (by kernel_rfl) (by kernel_rfl) (fun _ _ _ h => h) (Or.inl ⟨by kernel_rfl, ?_⟩) hS ?_
  · intro w hw; clear hw; go_simp
  change wpAnyH _ _ _ _ _ _ _ (Act.put _ (some 49) _) _
  simp only [Act.put, List.setIfInBounds_toArray, List.set_cons_succ, List.set_cons_zero]
  refine wpAnyH_ready (rs := [5]) (by kernel_rfl) (by simp) ?_
  refine AllReadyH.cons rfl (fun K hK => ?_) AllReadyH.nil
  go_simp
  go_wp2_with (go_at_call 18; refine (HKP.out _ HF3.out _ HBV3.out).mono ?_; rintro e w4 ⟨v, rfl, hv, hF4, hR4⟩)
  refine hK.out _ _ (⟨heap_fr hR4 HS3.out, heap_fr hR4 HO3.out⟩) (fun hS => ?_)
  clear hK K
  skip
  refine wpAnyH_ready (rs := [6]) (by kernel_rfl) (by simp) ?_
  refine AllReadyH.cons rfl (fun K hK => ?_) AllReadyH.nil
  go_simp
  go_wp2_with (go_at_call 11; refine (of_code (HE3.out.fr hR4 hB) hv).mono ?_; rintro e w5 ⟨rfl, hb5⟩)
  refine hK.out _ _ (⟨heap_stays (heap_fr hR4 HS3.out) hb5, heap_stays (heap_fr hR4 HO3.out) hb5⟩) (fun hS => ?_)
  clear hK K
  skip
  refine wpAnyH_take (i := 8) (v := .bool (cp == code)) rfl (by kernel_rfl) (by kernel_rfl) (by kernel_rfl) (fun _ _ _ h => h) (Or.inl ⟨by kernel_rfl, ?_⟩) hS ?_
  · intro w hw; clear hw; go_simp
  change wpAnyH _ _ _ _ _ _ _ (Act.put _ (some 50) _) _
  simp only [Act.put, List.setIfInBounds_toArray, List.set_cons_succ, List.set_cons_zero]
  refine wpAnyH_ready (rs := [9]) (by kernel_rfl) (by simp) ?_
  refine AllReadyH.cons rfl (fun K hK => ?_) AllReadyH.nil
  refine step_st33 rfl (.tmp 6) (.tmp 42) rfl (w.heap.size + 1 + 1) rfl _ _ _ _ _ _ _ (heap_stays (heap_fr hR4 HZ3.out) hb5) rfl rfl HON.out ?_
  intro w6 hw6 hg6
  refine hK.out _ _ (⟨heap_grown (heap_stays (heap_fr hR4 HS3.out) hb5) hg6 (by simp; omega), heap_grown (heap_stays (heap_fr hR4 HO3.out) hb5) hg6 (by simp)⟩) (fun hS => ?_)
  clear hK K
  change wpAnyH _ _ _ _ _ _ _ (Act.put _ (none) _) _
  simp only [Act.put]
  refine wpAnyH_take (i := 10) (v := .bool (cp == code)) rfl (by kernel_rfl) (by kernel_rfl) (by kernel_rfl) (fun _ _ _ h => h) (Or.inl ⟨by kernel_rfl, ?_⟩) hS ?_
  · intro w hw; clear hw; go_simp
  change wpAnyH _ _ _ _ _ _ _ (Act.put _ (some 7) _) _
  simp only [Act.put, List.setIfInBounds_toArray, List.set_cons_succ, List.set_cons_zero]
  refine wpAnyH_done (by kernel_rfl) ?_ _
  go_wp2
  refine bodyPost_ret (v := .tuple #[.agg #[x0, x1, x2, x3, x4, x5], .bool (cp == code)]) ?_ rfl ⟨_, _, _, _, _, _, _, rfl, ?_⟩
  · exact results33 Tryd.results12 _ _ (w.heap.size + 1 + 1) rfl _ _ _ _ _ _ 33 (0, 0) hw6 _ rfl
  · exact DoneG.mk' (hF4.below hb5) ((HRF3.out.fr hR4).below hb5) HSIM.out (((Below.fr HBA.out).trans hR4).trans (Below.fr hb5)) (heap_stays (heap_fr hR4 HZ3.out) hb5) hg6 (by omega)
end Go.Proofs.YtfogocappakbdaaDoor
