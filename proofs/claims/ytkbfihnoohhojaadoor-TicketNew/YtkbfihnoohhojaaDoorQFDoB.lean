/-
  An act, both ways: the acts that end in regions that draw their order.
-/
import Derived.Test.YtkbfihnoohhojaaDoorQFDoA
namespace Go.Proofs.YtkbfihnoohhojaaDoor.Fla
open Go.RowKit

theorem _root_.Go.Proofs.YtkbfihnoohhojaaDoor.ErrT.fr {B : Nat} {w w' : World} (h : ErrT w) (hf : Fr B w w') (hB : 0 < B) : ErrT w' := Fla.ErrT.fr h hf hB
theorem all6 {x0 x1 x2 x3 x4 x5 : Value} (h : x0.oneCell' = true ∧ x1.oneCell' = true ∧ x2.oneCell' = true ∧ x3.oneCell' = true ∧ x4.oneCell' = true ∧ x5.oneCell' = true) : ∀ u ∈ (#[x0, x1, x2, x3, x4, x5] : Array Value).toList, u.oneCell' = true := by
  obtain ⟨e0, e1, e2, e3, e4, e5⟩ := h
  intro u hu
  simp at hu
  rcases hu with rfl | rfl | rfl | rfl | rfl | rfl <;> assumption
theorem RfAt.parts {w : World} {rv : Value} {r : Rf} {N : Nat} (h : RfAt w rv r N) : ∃ x0 x1 x2 x3 x4 x5, rv = .agg #[x0, x1, x2, x3, x4, x5] ∧ (x0.oneCell' = true ∧ x1.oneCell' = true ∧ x2.oneCell' = true ∧ x3.oneCell' = true ∧ x4.oneCell' = true ∧ x5.oneCell' = true) := by
  obtain ⟨cp, cc, lp, lc, cs, lo, h1, _⟩ := h
  exact ⟨_, _, _, _, _, _, h1, rfl, rfl, rfl, rfl, rfl, rfl⟩

set_option maxHeartbeats 4000000 in
set_option maxRecDepth 10000 in
theorem do_trim {w : World} {B g N : Nat} {d : Dev} {r : Rf} {y0 y1 y2 y3 y4 y5 : Value} (hF : Fl w B g N d) (hR : RfAt w (.agg #[y0, y1, y2, y3, y4, y5]) r N) (hS : Sim d r) (hE : ErrT w) (hB : 0 < B) (hN : N < 900) (hone : y0.oneCell' = true ∧ y1.oneCell' = true ∧ y2.oneCell' = true ∧ y3.oneCell' = true ∧ y4.oneCell' = true ∧ y5.oneCell' = true)
    (at_ n : Int) (a b : Nat) (kp : Option Addr) (kn kc : Nat) :
    Calls Tryd.prog 9 #[.pointer (some ⟨g, 0, none⟩), .agg #[y0, y1, y2, y3, y4, y5], .agg #[.int .i64 1, .int .i64 at_, .int .u8 (a : Int), .int .u8 (b : Int), .int .i64 n, .slice kp kn kc]] w fun e w' => ∃ x0 x1 x2 x3 x4 x5, e = .returned (.tuple #[.agg #[x0, x1, x2, x3, x4, x5], .bool true]) ∧ DoneAt w w' B g (N + 1) (trimP d at_).1 (.agg #[x0, x1, x2, x3, x4, x5]) := by
  have HF0 := hid2 hF
  have HE0 := hid2 hE
  obtain ⟨X0, X1, X2⟩ := heap3h w (.cells #[y0, y1, y2, y3, y4, y5] 38) (.cells #[.int .i64 1, .int .i64 at_, .int .u8 (a : Int), .int .u8 (b : Int), .int .i64 n, .slice kp kn kc] 42) (.cells #[.int .i64 0, .slice none 0 0, .slice none 0 0, .int .i64 0, .bool false, .int .i64 0] 38)
  have HBW : Hid (Below w.heap.size w (((w.alloc (.cells #[y0, y1, y2, y3, y4, y5] 38)).alloc (.cells #[.int .i64 1, .int .i64 at_, .int .u8 (a : Int), .int .u8 (b : Int), .int .i64 n, .slice kp kn kc] 42)).alloc (.cells #[.int .i64 0, .slice none 0 0, .slice none 0 0, .int .i64 0, .bool false, .int .i64 0] 38))) := by show Below _ _ _; go_grown
  have HF1 : Hid (Fl (((w.alloc (.cells #[y0, y1, y2, y3, y4, y5] 38)).alloc (.cells #[.int .i64 1, .int .i64 at_, .int .u8 (a : Int), .int .u8 (b : Int), .int .i64 n, .slice kp kn kc] 42)).alloc (.cells #[.int .i64 0, .slice none 0 0, .slice none 0 0, .int .i64 0, .bool false, .int .i64 0] 38)) B g N d) := hF.below HBW.out
  have HR1 : Hid (RfAt (((w.alloc (.cells #[y0, y1, y2, y3, y4, y5] 38)).alloc (.cells #[.int .i64 1, .int .i64 at_, .int .u8 (a : Int), .int .u8 (b : Int), .int .i64 n, .slice kp kn kc] 42)).alloc (.cells #[.int .i64 0, .slice none 0 0, .slice none 0 0, .int .i64 0, .bool false, .int .i64 0] 38)) (.agg #[y0, y1, y2, y3, y4, y5]) r N) := hR.below HBW.out
  have HE1 : Hid (ErrT (((w.alloc (.cells #[y0, y1, y2, y3, y4, y5] 38)).alloc (.cells #[.int .i64 1, .int .i64 at_, .int .u8 (a : Int), .int .u8 (b : Int), .int .i64 n, .slice kp kn kc] 42)).alloc (.cells #[.int .i64 0, .slice none 0 0, .slice none 0 0, .int .i64 0, .bool false, .int .i64 0] 38))) := hE.below HBW.out
  have HS := hid2 hS
  have HONE := hid2 hone
  have hlt := hF.lt
  clear hF hR hE hS hone
  have hcode := (HS.out.trim at_).2
  have hsim := (HS.out.trim at_).1
  have KP := fun w' (hF : Fl w' B g N d) => trim_any hF hN at_
  rw [hcode] at KP
  have KT := rtrim_any HR1.out hN at_
  generalize (rtrim r at_).2 = code at *
  generalize (rtrim r at_).1 = r' at *
  have HKT : Hid (Calls Tryd.prog 24 #[.agg #[y0, y1, y2, y3, y4, y5], .int .i64 at_] (((w.alloc (.cells #[y0, y1, y2, y3, y4, y5] 38)).alloc (.cells #[.int .i64 1, .int .i64 at_, .int .u8 (a : Int), .int .u8 (b : Int), .int .i64 n, .slice kp kn kc] 42)).alloc (.cells #[.int .i64 0, .slice none 0 0, .slice none 0 0, .int .i64 0, .bool false, .int .i64 0] 38)) _) := KT
  have HKP : Hid (∀ w', Fl w' B g N d → Calls Tryd.prog 25 #[.pointer (some ⟨g, 0, none⟩), .int .i64 at_] w' fun e w'' => ∃ v, e = .returned v ∧ Fault w'' v code ∧ Fl w'' B g (N + 1) (trimP d at_).1 ∧ Fr B w' w'') := KP
  have HSIM := hid2 hsim
  have Q1 := X1
  have Q2 := X2
  clear KT KP hcode hsim
  go_enter Tryd.func9, Tryd.ntmps9
  go_wp2_with (first | (go_at_call 24; refine (show Calls _ _ _ _ _ from HKT).mono ?_; rintro e w2 ⟨rv', rfl, hrf, hb2⟩; obtain ⟨x0, x1, x2, x3, x4, x5, hrv, hon⟩ := hrf.parts; subst hrv; have z1 := heap_stays Q1.out hb2; have z2 := heap_stays Q2.out hb2; obtain ⟨⟨p0, p1, p2, p3, p4, p5⟩, _⟩ := six' z1; have hs2 : w.heap.size + 1 + 1 < w2.heap.size := (Array.getElem?_eq_some_iff.1 z2).1; have Z1 := hid2 z1; have Z2 := hid2 z2; have HRF2 := hid2 hrf; have HON := hid2 hon; have HB2 := hid2 hb2; clear z1 z2 hrf hon hb2) | (refine st_new w2 38 6 (size_of Tryd.info33m) rfl (.tmp 11) (.tmp 58) rfl _ rfl rfl #[.int .i64 0, .slice none 0 0, .slice none 0 0, .int .i64 0, .bool false, .int .i64 0] #[x0, x1, x2, x3, x4, x5] rfl rfl rfl rfl (all6 HON.out) ?_))
  have HS3 : Hid ((w2.alloc (.cells #[x0, x1, x2, x3, x4, x5] 38)).drew.heap[w2.heap.size]? = some (.cells #[x0, x1, x2, x3, x4, x5] 38 (0, 0))) := heap_alloc_last _ _
  have HO3 : Hid ((w2.alloc (.cells #[x0, x1, x2, x3, x4, x5] 38)).drew.heap[w.heap.size + 1]? = some (.cells #[.int .i64 1, .int .i64 at_, .int .u8 (a : Int), .int .u8 (b : Int), .int .i64 n, .slice kp kn kc] 42 (0, 0))) := heap_alloc_old Z1.out _
  have HZ3 : Hid ((w2.alloc (.cells #[x0, x1, x2, x3, x4, x5] 38)).drew.heap[w.heap.size + 1 + 1]? = some (.cells #[.int .i64 0, .slice none 0 0, .slice none 0 0, .int .i64 0, .bool false, .int .i64 0] 38 (0, 0))) := heap_alloc_old Z2.out _
  have HBA : Hid (Below w.heap.size w (w2.alloc (.cells #[x0, x1, x2, x3, x4, x5] 38)).drew) := ((HBW.out.trans (HB2.out.mono HBW.out.size)).alloc (by have := HBW.out.size; have := HB2.out.size; omega) _).drew
  have HF3 : Hid (Fl (w2.alloc (.cells #[x0, x1, x2, x3, x4, x5] 38)).drew B g N d) := HF0.out.below HBA.out
  have HRF3 : Hid (RfAt (w2.alloc (.cells #[x0, x1, x2, x3, x4, x5] 38)).drew (.agg #[x0, x1, x2, x3, x4, x5]) r' (N + 1)) := HRF2.out.below (by go_grown)
  have HE3 : Hid (ErrT (w2.alloc (.cells #[x0, x1, x2, x3, x4, x5] 38)).drew) := HE0.out.below HBA.out

  refine wp_region_held_drew (S := fun w' => w'.heap[w2.heap.size]? = some (.cells #[x0, x1, x2, x3, x4, x5] 38 (0, 0)) ∧ w'.heap[w.heap.size + 1]? = some (.cells #[.int .i64 1, .int .i64 at_, .int .u8 (a : Int), .int .u8 (b : Int), .int .i64 n, .slice kp kn kc] 42 (0, 0))) (by kernel_rfl) (⟨HS3.out, HO3.out⟩) (fun hS => ?_)
  change wpAnyH _ _ _ _ _ _ _ _ (World.drew _)
  refine wpAnyH_take (i := 0) (v := .agg #[x0, x1, x2, x3, x4, x5]) rfl (by kernel_rfl) (by kernel_rfl) (by kernel_rfl) (fun _ _ _ h => h) (Or.inl ⟨by kernel_rfl, ?_⟩) hS ?_
  · intro W hw
    obtain ⟨⟨q0, q1, q2, q3, q4, q5⟩, _⟩ := six' hw.1
    clear hw
    go_simp
  change wpAnyH _ _ _ _ _ _ _ (Act.put _ (some 60) _) _
  simp only [Act.put, List.setIfInBounds_toArray, List.set_cons_succ, List.set_cons_zero]
  refine wpAnyH_take (i := 1) (v := .pointer (some ⟨g, 0, none⟩)) rfl (by kernel_rfl) (by kernel_rfl) (by kernel_rfl) (fun _ _ _ h => h) (Or.inl ⟨by kernel_rfl, ?_⟩) hS ?_
  · intro w hw; clear hw; go_simp
  change wpAnyH _ _ _ _ _ _ _ (Act.put _ (some 61) _) _
  simp only [Act.put, List.setIfInBounds_toArray, List.set_cons_succ, List.set_cons_zero]
  refine wpAnyH_take (i := 2) (v := .pointer (some ⟨w.heap.size + 1, 1, none⟩)) rfl (by kernel_rfl) (by kernel_rfl) (by kernel_rfl) (fun _ _ _ h => h) (Or.inl ⟨by kernel_rfl, ?_⟩) hS ?_
  · intro w hw; clear hw; go_simp
  change wpAnyH _ _ _ _ _ _ _ (Act.put _ (some 62) _) _
  simp only [Act.put, List.setIfInBounds_toArray, List.set_cons_succ, List.set_cons_zero]
  refine wpAnyH_take (i := 3) (v := .int .i64 at_) rfl (by kernel_rfl) (by kernel_rfl) (by kernel_rfl) (fun _ _ _ h => h) (Or.inl ⟨by kernel_rfl, ?_⟩) hS ?_
  · intro W hw
    obtain ⟨⟨q0, q1, q2, q3, q4, q5⟩, _⟩ := six' hw.2
    clear hw
    go_simp
  change wpAnyH _ _ _ _ _ _ _ (Act.put _ (some 63) _) _
  simp only [Act.put, List.setIfInBounds_toArray, List.set_cons_succ, List.set_cons_zero]
  refine wpAnyH_take (i := 6) (v := .int .i64 code) rfl (by kernel_rfl) (by kernel_rfl) (by kernel_rfl) (fun _ _ _ h => h) (Or.inl ⟨by kernel_rfl, ?_⟩) hS ?_
  · intro w hw; clear hw; go_simp
  change wpAnyH _ _ _ _ _ _ _ (Act.put _ (some 66) _) _
  simp only [Act.put, List.setIfInBounds_toArray, List.set_cons_succ, List.set_cons_zero]
  refine wpAnyH_ready (rs := [4]) (by kernel_rfl) (by simp) ?_
  refine AllReadyH.cons rfl (fun K hK => ?_) AllReadyH.nil
  go_simp
  go_wp2_with (go_at_call 25; refine (HKP.out _ HF3.out).mono ?_; rintro e w4 ⟨v, rfl, hv, hF4, hR4⟩)
  refine hK.out _ _ (⟨heap_fr hR4 HS3.out, heap_fr hR4 HO3.out⟩) (fun hS => ?_)
  clear hK K
  skip
  refine wpAnyH_ready (rs := [5]) (by kernel_rfl) (by simp) ?_
  refine AllReadyH.cons rfl (fun K hK => ?_) AllReadyH.nil
  go_simp
  go_wp2_with (go_at_call 20; refine (of_code (HE3.out.fr hR4 hB) hv).mono ?_; rintro e w5 ⟨rfl, hb5⟩)
  refine hK.out _ _ (⟨heap_stays (heap_fr hR4 HS3.out) hb5, heap_stays (heap_fr hR4 HO3.out) hb5⟩) (fun hS => ?_)
  clear hK K
  skip
  refine wpAnyH_take (i := 7) (v := .bool true) rfl (by kernel_rfl) (by kernel_rfl) (by kernel_rfl) (fun _ _ _ h => h) (Or.inl ⟨by kernel_rfl, ?_⟩) hS ?_
  · intro w hw; clear hw; go_simp
  change wpAnyH _ _ _ _ _ _ _ (Act.put _ (some 67) _) _
  simp only [Act.put, List.setIfInBounds_toArray, List.set_cons_succ, List.set_cons_zero]
  refine wpAnyH_ready (rs := [8]) (by kernel_rfl) (by simp) ?_
  refine AllReadyH.cons rfl (fun K hK => ?_) AllReadyH.nil
  refine step_st33 rfl (.tmp 6) (.tmp 60) rfl (w.heap.size + 1 + 1) rfl _ _ _ _ _ _ _ (heap_stays (heap_fr hR4 HZ3.out) hb5) rfl rfl HON.out ?_
  intro w6 hw6 hg6
  refine hK.out _ _ (⟨heap_grown (heap_stays (heap_fr hR4 HS3.out) hb5) hg6 (by simp; omega), heap_grown (heap_stays (heap_fr hR4 HO3.out) hb5) hg6 (by simp)⟩) (fun hS => ?_)
  clear hK K
  change wpAnyH _ _ _ _ _ _ _ (Act.put _ (none) _) _
  simp only [Act.put]
  refine wpAnyH_take (i := 9) (v := .bool true) rfl (by kernel_rfl) (by kernel_rfl) (by kernel_rfl) (fun _ _ _ h => h) (Or.inl ⟨by kernel_rfl, ?_⟩) hS ?_
  · intro w hw; clear hw; go_simp
  change wpAnyH _ _ _ _ _ _ _ (Act.put _ (some 7) _) _
  simp only [Act.put, List.setIfInBounds_toArray, List.set_cons_succ, List.set_cons_zero]
  refine wpAnyH_done (by kernel_rfl) ?_ _
  go_wp2
  refine bodyPost_ret (v := .tuple #[.agg #[x0, x1, x2, x3, x4, x5], .bool true]) ?_ rfl ⟨_, _, _, _, _, _, rfl, ?_⟩
  · exact results33 Tryd.results9 _ _ (w.heap.size + 1 + 1) rfl _ _ _ _ _ _ 38 (0, 0) hw6 _ rfl
  · exact DoneAt.mk' (hF4.below hb5) ((HRF3.out.fr hR4).below hb5) HSIM.out (((Below.fr HBA.out).trans hR4).trans (Below.fr hb5)) (heap_stays (heap_fr hR4 HZ3.out) hb5) hg6 (by omega)

set_option maxHeartbeats 4000000 in
set_option maxRecDepth 10000 in
theorem do_flush {w : World} {B g N : Nat} {d : Dev} {r : Rf} {y0 y1 y2 y3 y4 y5 : Value} (hF : Fl w B g N d) (hR : RfAt w (.agg #[y0, y1, y2, y3, y4, y5]) r N) (hS : Sim d r) (hE : ErrT w) (hB : 0 < B) (hN : N < 900) (hone : y0.oneCell' = true ∧ y1.oneCell' = true ∧ y2.oneCell' = true ∧ y3.oneCell' = true ∧ y4.oneCell' = true ∧ y5.oneCell' = true)
    (at_ n : Int) (a b : Nat) (kp : Option Addr) (kn kc : Nat) :
    Calls Tryd.prog 9 #[.pointer (some ⟨g, 0, none⟩), .agg #[y0, y1, y2, y3, y4, y5], .agg #[.int .i64 3, .int .i64 at_, .int .u8 (a : Int), .int .u8 (b : Int), .int .i64 n, .slice kp kn kc]] w fun e w' => ∃ x0 x1 x2 x3 x4 x5, e = .returned (.tuple #[.agg #[x0, x1, x2, x3, x4, x5], .bool true]) ∧ DoneAt w w' B g (N + 1) (flushP d).1 (.agg #[x0, x1, x2, x3, x4, x5]) := by
  have HF0 := hid2 hF
  have HE0 := hid2 hE
  have hdo := hF.1
  obtain ⟨X0, X1, X2⟩ := heap3h w (.cells #[y0, y1, y2, y3, y4, y5] 38) (.cells #[.int .i64 3, .int .i64 at_, .int .u8 (a : Int), .int .u8 (b : Int), .int .i64 n, .slice kp kn kc] 42) (.cells #[.int .i64 0, .slice none 0 0, .slice none 0 0, .int .i64 0, .bool false, .int .i64 0] 38)
  have HBW : Hid (Below w.heap.size w (((w.alloc (.cells #[y0, y1, y2, y3, y4, y5] 38)).alloc (.cells #[.int .i64 3, .int .i64 at_, .int .u8 (a : Int), .int .u8 (b : Int), .int .i64 n, .slice kp kn kc] 42)).alloc (.cells #[.int .i64 0, .slice none 0 0, .slice none 0 0, .int .i64 0, .bool false, .int .i64 0] 38))) := by show Below _ _ _; go_grown
  have HF1 : Hid (Fl (((w.alloc (.cells #[y0, y1, y2, y3, y4, y5] 38)).alloc (.cells #[.int .i64 3, .int .i64 at_, .int .u8 (a : Int), .int .u8 (b : Int), .int .i64 n, .slice kp kn kc] 42)).alloc (.cells #[.int .i64 0, .slice none 0 0, .slice none 0 0, .int .i64 0, .bool false, .int .i64 0] 38)) B g N d) := hF.below HBW.out
  have HR1 : Hid (RfAt (((w.alloc (.cells #[y0, y1, y2, y3, y4, y5] 38)).alloc (.cells #[.int .i64 3, .int .i64 at_, .int .u8 (a : Int), .int .u8 (b : Int), .int .i64 n, .slice kp kn kc] 42)).alloc (.cells #[.int .i64 0, .slice none 0 0, .slice none 0 0, .int .i64 0, .bool false, .int .i64 0] 38)) (.agg #[y0, y1, y2, y3, y4, y5]) r N) := hR.below HBW.out
  have HE1 : Hid (ErrT (((w.alloc (.cells #[y0, y1, y2, y3, y4, y5] 38)).alloc (.cells #[.int .i64 3, .int .i64 at_, .int .u8 (a : Int), .int .u8 (b : Int), .int .i64 n, .slice kp kn kc] 42)).alloc (.cells #[.int .i64 0, .slice none 0 0, .slice none 0 0, .int .i64 0, .bool false, .int .i64 0] 38))) := hE.below HBW.out
  have HS := hid2 hS
  have HONE := hid2 hone
  have hlt := hF.lt
  clear hF hR hE hS hone
  have hcode := (HS.out.flush hdo).2
  have hsim := (HS.out.flush hdo).1
  have KP := fun w' (hF : Fl w' B g N d) => flush_any hF hN
  rw [hcode] at KP
  have KT := rflush_any HR1.out hN (sim_ll HS.out) (sim_ss HS.out hdo)
  generalize (rflush r).2 = code at *
  generalize (rflush r).1 = r' at *
  have HKT : Hid (Calls Tryd.prog 29 #[.agg #[y0, y1, y2, y3, y4, y5]] (((w.alloc (.cells #[y0, y1, y2, y3, y4, y5] 38)).alloc (.cells #[.int .i64 3, .int .i64 at_, .int .u8 (a : Int), .int .u8 (b : Int), .int .i64 n, .slice kp kn kc] 42)).alloc (.cells #[.int .i64 0, .slice none 0 0, .slice none 0 0, .int .i64 0, .bool false, .int .i64 0] 38)) _) := KT
  have HKP : Hid (∀ w', Fl w' B g N d → Calls Tryd.prog 30 #[.pointer (some ⟨g, 0, none⟩)] w' fun e w'' => ∃ v, e = .returned v ∧ Fault w'' v code ∧ Fl w'' B g (N + 1) (flushP d).1 ∧ Fr B w' w'') := KP
  have HSIM := hid2 hsim
  have Q1 := X1
  have Q2 := X2
  clear KT KP hcode hsim
  go_enter Tryd.func9, Tryd.ntmps9
  go_wp2_with (first | (go_at_call 29; refine (show Calls _ _ _ _ _ from HKT).mono ?_; rintro e w2 ⟨rv', rfl, hrf, hb2⟩; obtain ⟨x0, x1, x2, x3, x4, x5, hrv, hon⟩ := hrf.parts; subst hrv; have z1 := heap_stays Q1.out hb2; have z2 := heap_stays Q2.out hb2; obtain ⟨⟨p0, p1, p2, p3, p4, p5⟩, _⟩ := six' z1; have hs2 : w.heap.size + 1 + 1 < w2.heap.size := (Array.getElem?_eq_some_iff.1 z2).1; have Z1 := hid2 z1; have Z2 := hid2 z2; have HRF2 := hid2 hrf; have HON := hid2 hon; have HB2 := hid2 hb2; clear z1 z2 hrf hon hb2) | (refine st_new w2 38 6 (size_of Tryd.info33m) rfl (.tmp 17) (.tmp 99) rfl _ rfl rfl #[.int .i64 0, .slice none 0 0, .slice none 0 0, .int .i64 0, .bool false, .int .i64 0] #[x0, x1, x2, x3, x4, x5] rfl rfl rfl rfl (all6 HON.out) ?_))
  have HS3 : Hid ((w2.alloc (.cells #[x0, x1, x2, x3, x4, x5] 38)).drew.heap[w2.heap.size]? = some (.cells #[x0, x1, x2, x3, x4, x5] 38 (0, 0))) := heap_alloc_last _ _
  have HO3 : Hid ((w2.alloc (.cells #[x0, x1, x2, x3, x4, x5] 38)).drew.heap[w.heap.size + 1]? = some (.cells #[.int .i64 3, .int .i64 at_, .int .u8 (a : Int), .int .u8 (b : Int), .int .i64 n, .slice kp kn kc] 42 (0, 0))) := heap_alloc_old Z1.out _
  have HZ3 : Hid ((w2.alloc (.cells #[x0, x1, x2, x3, x4, x5] 38)).drew.heap[w.heap.size + 1 + 1]? = some (.cells #[.int .i64 0, .slice none 0 0, .slice none 0 0, .int .i64 0, .bool false, .int .i64 0] 38 (0, 0))) := heap_alloc_old Z2.out _
  have HBA : Hid (Below w.heap.size w (w2.alloc (.cells #[x0, x1, x2, x3, x4, x5] 38)).drew) := ((HBW.out.trans (HB2.out.mono HBW.out.size)).alloc (by have := HBW.out.size; have := HB2.out.size; omega) _).drew
  have HF3 : Hid (Fl (w2.alloc (.cells #[x0, x1, x2, x3, x4, x5] 38)).drew B g N d) := HF0.out.below HBA.out
  have HRF3 : Hid (RfAt (w2.alloc (.cells #[x0, x1, x2, x3, x4, x5] 38)).drew (.agg #[x0, x1, x2, x3, x4, x5]) r' (N + 1)) := HRF2.out.below (by go_grown)
  have HE3 : Hid (ErrT (w2.alloc (.cells #[x0, x1, x2, x3, x4, x5] 38)).drew) := HE0.out.below HBA.out

  refine wp_region_held_drew (S := fun w' => w'.heap[w2.heap.size]? = some (.cells #[x0, x1, x2, x3, x4, x5] 38 (0, 0)) ∧ w'.heap[w.heap.size + 1]? = some (.cells #[.int .i64 3, .int .i64 at_, .int .u8 (a : Int), .int .u8 (b : Int), .int .i64 n, .slice kp kn kc] 42 (0, 0))) (by kernel_rfl) (⟨HS3.out, HO3.out⟩) (fun hS => ?_)
  change wpAnyH _ _ _ _ _ _ _ _ (World.drew _)
  refine wpAnyH_take (i := 0) (v := .agg #[x0, x1, x2, x3, x4, x5]) rfl (by kernel_rfl) (by kernel_rfl) (by kernel_rfl) (fun _ _ _ h => h) (Or.inl ⟨by kernel_rfl, ?_⟩) hS ?_
  · intro W hw
    obtain ⟨⟨q0, q1, q2, q3, q4, q5⟩, _⟩ := six' hw.1
    clear hw
    go_simp
  change wpAnyH _ _ _ _ _ _ _ (Act.put _ (some 101) _) _
  simp only [Act.put, List.setIfInBounds_toArray, List.set_cons_succ, List.set_cons_zero]
  refine wpAnyH_take (i := 1) (v := .pointer (some ⟨g, 0, none⟩)) rfl (by kernel_rfl) (by kernel_rfl) (by kernel_rfl) (fun _ _ _ h => h) (Or.inl ⟨by kernel_rfl, ?_⟩) hS ?_
  · intro w hw; clear hw; go_simp
  change wpAnyH _ _ _ _ _ _ _ (Act.put _ (some 102) _) _
  simp only [Act.put, List.setIfInBounds_toArray, List.set_cons_succ, List.set_cons_zero]
  refine wpAnyH_take (i := 4) (v := .int .i64 code) rfl (by kernel_rfl) (by kernel_rfl) (by kernel_rfl) (fun _ _ _ h => h) (Or.inl ⟨by kernel_rfl, ?_⟩) hS ?_
  · intro w hw; clear hw; go_simp
  change wpAnyH _ _ _ _ _ _ _ (Act.put _ (some 105) _) _
  simp only [Act.put, List.setIfInBounds_toArray, List.set_cons_succ, List.set_cons_zero]
  refine wpAnyH_ready (rs := [2]) (by kernel_rfl) (by simp) ?_
  refine AllReadyH.cons rfl (fun K hK => ?_) AllReadyH.nil
  go_simp
  go_wp2_with (go_at_call 30; refine (HKP.out _ HF3.out).mono ?_; rintro e w4 ⟨v, rfl, hv, hF4, hR4⟩)
  refine hK.out _ _ (⟨heap_fr hR4 HS3.out, heap_fr hR4 HO3.out⟩) (fun hS => ?_)
  clear hK K
  skip
  refine wpAnyH_ready (rs := [3]) (by kernel_rfl) (by simp) ?_
  refine AllReadyH.cons rfl (fun K hK => ?_) AllReadyH.nil
  go_simp
  go_wp2_with (go_at_call 20; refine (of_code (HE3.out.fr hR4 hB) hv).mono ?_; rintro e w5 ⟨rfl, hb5⟩)
  refine hK.out _ _ (⟨heap_stays (heap_fr hR4 HS3.out) hb5, heap_stays (heap_fr hR4 HO3.out) hb5⟩) (fun hS => ?_)
  clear hK K
  skip
  refine wpAnyH_take (i := 5) (v := .bool true) rfl (by kernel_rfl) (by kernel_rfl) (by kernel_rfl) (fun _ _ _ h => h) (Or.inl ⟨by kernel_rfl, ?_⟩) hS ?_
  · intro w hw; clear hw; go_simp
  change wpAnyH _ _ _ _ _ _ _ (Act.put _ (some 106) _) _
  simp only [Act.put, List.setIfInBounds_toArray, List.set_cons_succ, List.set_cons_zero]
  refine wpAnyH_ready (rs := [6]) (by kernel_rfl) (by simp) ?_
  refine AllReadyH.cons rfl (fun K hK => ?_) AllReadyH.nil
  refine step_st33 rfl (.tmp 6) (.tmp 101) rfl (w.heap.size + 1 + 1) rfl _ _ _ _ _ _ _ (heap_stays (heap_fr hR4 HZ3.out) hb5) rfl rfl HON.out ?_
  intro w6 hw6 hg6
  refine hK.out _ _ (⟨heap_grown (heap_stays (heap_fr hR4 HS3.out) hb5) hg6 (by simp; omega), heap_grown (heap_stays (heap_fr hR4 HO3.out) hb5) hg6 (by simp)⟩) (fun hS => ?_)
  clear hK K
  change wpAnyH _ _ _ _ _ _ _ (Act.put _ (none) _) _
  simp only [Act.put]
  refine wpAnyH_take (i := 7) (v := .bool true) rfl (by kernel_rfl) (by kernel_rfl) (by kernel_rfl) (fun _ _ _ h => h) (Or.inl ⟨by kernel_rfl, ?_⟩) hS ?_
  · intro w hw; clear hw; go_simp
  change wpAnyH _ _ _ _ _ _ _ (Act.put _ (some 7) _) _
  simp only [Act.put, List.setIfInBounds_toArray, List.set_cons_succ, List.set_cons_zero]
  refine wpAnyH_done (by kernel_rfl) ?_ _
  go_wp2
  refine bodyPost_ret (v := .tuple #[.agg #[x0, x1, x2, x3, x4, x5], .bool true]) ?_ rfl ⟨_, _, _, _, _, _, rfl, ?_⟩
  · exact results33 Tryd.results9 _ _ (w.heap.size + 1 + 1) rfl _ _ _ _ _ _ 38 (0, 0) hw6 _ rfl
  · exact DoneAt.mk' (hF4.below hb5) ((HRF3.out.fr hR4).below hb5) HSIM.out (((Below.fr HBA.out).trans hR4).trans (Below.fr hb5)) (heap_stays (heap_fr hR4 HZ3.out) hb5) hg6 (by omega)
end Go.Proofs.YtkbfihnoohhojaaDoor.Fla
