/-
  An act, both ways: Write and Read.
-/
import Derived.Test.YtkbfihnoohhojaaDoorQFDoB
namespace Go.Proofs.YtkbfihnoohhojaaDoor.Fla
open Go.RowKit
theorem row5 {w : World} {b : Nat} {l : List Nat} (h : w.heap[b]? = some (.cells (pgV l) 5 (0, 0))) {n : Nat} (hl : l.length = 256) (hn : n ≤ 256) : BAt w (.slice (some ⟨b, 0, none⟩) n 256) (l.take n) := by
  have e : (l.take n).length = n := by rw [List.length_take]; omega
  refine ⟨some ⟨b, 0, none⟩, 256, by rw [e], by rw [e]; exact hn, by unfold maxLen; omega, by rw [U_length, Nat.mul_one], .inr ⟨b, 0, pgV l, rfl, ⟨5, (0, 0), h, by decide, by decide, by decide, by decide⟩, fun k u hk => ?_⟩⟩
  rw [← U_take, List.getElem?_take] at hk
  split at hk
  · simpa [pgV] using hk
  · cases hk
theorem bytes_at (w : World) (a b bn : Nat) (hbn : w.heap.size = bn) : Calls Tryd.prog 22 #[.int .u8 (a : Int), .int .u8 (b : Int)] w fun e w' => e = .returned (.slice (some ⟨bn, 0, none⟩) 256 256) ∧ w'.heap[bn]? = some (.cells (pgV (bytP a b)) 5 (0, 0)) ∧ Below w.heap.size w w' := by
  subst hbn
  exact bytes_any w a b
theorem sl46 (a : Addr) (w : World) : (Instr.sliceAt 23 (.slice (some a) 256 256) none (some (.int .i64 255)) none).run Tryd.prog w = .ok (.slice (some a) 255 256) w := by
  obtain ⟨ii, hi1, _, _, _⟩ := info_of Tryd.info5m
  simp [Instr.sliceAt, Instr.slice, run_underlying Tryd.underlying23, Instr.sliceBounds, go_sem, Result.andThen, sizeOf, typeInfo, hi1, Addr.add]
theorem take256 {l : List Nat} (h : l.length = 256) : l.take 256 = l := List.take_of_length_le (by omega)

set_option maxHeartbeats 4000000 in
set_option maxRecDepth 10000 in
theorem do_write {w : World} {B g N : Nat} {d : Dev} {r : Rf} {y0 y1 y2 y3 y4 y5 : Value} (hF : Fl w B g N d) (hR : RfAt w (.agg #[y0, y1, y2, y3, y4, y5]) r N) (hS : Sim d r) (hE : ErrT w) (hB : 0 < B) (hN : N < 900) (hone : y0.oneCell' = true ∧ y1.oneCell' = true ∧ y2.oneCell' = true ∧ y3.oneCell' = true ∧ y4.oneCell' = true ∧ y5.oneCell' = true)
    (at_ n : Int) (a b : Nat) (kp : Option Addr) (kn kc : Nat) (hab : a < 256 ∧ b < 256) (hm : (n.tmod 16 == 5) = false) :
    Calls Tryd.prog 9 #[.pointer (some ⟨g, 0, none⟩), .agg #[y0, y1, y2, y3, y4, y5], .agg #[.int .i64 0, .int .i64 at_, .int .u8 (a : Int), .int .u8 (b : Int), .int .i64 n, .slice kp kn kc]] w fun e w' => ∃ x0 x1 x2 x3 x4 x5, e = .returned (.tuple #[.agg #[x0, x1, x2, x3, x4, x5], .bool true]) ∧ DoneAt w w' B g (N + 1) (writeP d at_ ((bytP a b).take 256)).1 (.agg #[x0, x1, x2, x3, x4, x5]) := by
  have HF0 := hid2 hF
  have HE0 := hid2 hE
  obtain ⟨X0, X1, X2⟩ := heap3h w (.cells #[y0, y1, y2, y3, y4, y5] 38) (.cells #[.int .i64 0, .int .i64 at_, .int .u8 (a : Int), .int .u8 (b : Int), .int .i64 n, .slice kp kn kc] 42) (.cells #[.int .i64 0, .slice none 0 0, .slice none 0 0, .int .i64 0, .bool false, .int .i64 0] 38)
  have HBW : Hid (Below w.heap.size w (((w.alloc (.cells #[y0, y1, y2, y3, y4, y5] 38)).alloc (.cells #[.int .i64 0, .int .i64 at_, .int .u8 (a : Int), .int .u8 (b : Int), .int .i64 n, .slice kp kn kc] 42)).alloc (.cells #[.int .i64 0, .slice none 0 0, .slice none 0 0, .int .i64 0, .bool false, .int .i64 0] 38))) := by show Below _ _ _; go_grown
  have HF1 : Hid (Fl (((w.alloc (.cells #[y0, y1, y2, y3, y4, y5] 38)).alloc (.cells #[.int .i64 0, .int .i64 at_, .int .u8 (a : Int), .int .u8 (b : Int), .int .i64 n, .slice kp kn kc] 42)).alloc (.cells #[.int .i64 0, .slice none 0 0, .slice none 0 0, .int .i64 0, .bool false, .int .i64 0] 38)) B g N d) := hF.below HBW.out
  have HR1 : Hid (RfAt (((w.alloc (.cells #[y0, y1, y2, y3, y4, y5] 38)).alloc (.cells #[.int .i64 0, .int .i64 at_, .int .u8 (a : Int), .int .u8 (b : Int), .int .i64 n, .slice kp kn kc] 42)).alloc (.cells #[.int .i64 0, .slice none 0 0, .slice none 0 0, .int .i64 0, .bool false, .int .i64 0] 38)) (.agg #[y0, y1, y2, y3, y4, y5]) r N) := hR.below HBW.out
  have HE1 : Hid (ErrT (((w.alloc (.cells #[y0, y1, y2, y3, y4, y5] 38)).alloc (.cells #[.int .i64 0, .int .i64 at_, .int .u8 (a : Int), .int .u8 (b : Int), .int .i64 n, .slice kp kn kc] 42)).alloc (.cells #[.int .i64 0, .slice none 0 0, .slice none 0 0, .int .i64 0, .bool false, .int .i64 0] 38))) := hE.below HBW.out
  have HS := hid2 hS
  have HONE := hid2 hone
  have hlt := hF.lt
  clear hF hR hE hS hone
  have hcode := (HS.out.write at_ ((bytP a b).take 256)).2
  have hsim := (HS.out.write at_ ((bytP a b).take 256)).1
  have hby : ∀ x ∈ ((bytP a b).take 256), x < 256 := fun x hx => bytN_byt hab.1 hab.2 256 x (List.mem_of_mem_take hx)
  have KP := fun w' (hF : Fl w' B g N d) (v : Value) (hv : BAt w' v ((bytP a b).take 256)) => write_any hF hN at_ hv hby
  rw [hcode] at KP
  have KT := fun w' (hR : RfAt w' (.agg #[y0, y1, y2, y3, y4, y5]) r N) (v : Value) (hv : BAt w' v ((bytP a b).take 256)) => rwrite_any hR hN at_ hv
  generalize (rwrite r at_ ((bytP a b).take 256)).2 = code at *
  generalize (rwrite r at_ ((bytP a b).take 256)).1 = r' at *
  have HKR : Hid (∀ w', RfAt w' (.agg #[y0, y1, y2, y3, y4, y5]) r N → ∀ v, BAt w' v ((bytP a b).take 256) → Calls Tryd.prog 23 #[.agg #[y0, y1, y2, y3, y4, y5], .int .i64 at_, v] w' fun e w'' => ∃ rv', e = .returned (.tuple #[rv', .int .i64 code]) ∧ RfAt w'' rv' r' (N + 1) ∧ Below w'.heap.size w' w'') := KT
  have HKP : Hid (∀ w', Fl w' B g N d → ∀ v, BAt w' v ((bytP a b).take 256) → Calls Tryd.prog 12 #[.pointer (some ⟨g, 0, none⟩), .int .i64 at_, v] w' fun e w'' => ∃ v, e = .returned v ∧ Fault w'' v code ∧ Fl w'' B g (N + 1) (writeP d at_ ((bytP a b).take 256)).1 ∧ Fr B w' w'') := KP
  have HSIM := hid2 hsim
  have hsl := sl46
  have HPL : Hid ((bytP a b).length = 256) := bytN_length a b 256
  clear KT KP hcode hsim hby
  go_enter Tryd.func9, Tryd.ntmps9
  go_wp2_with (first | (go_at_call 22; refine (bytes_at _ a b (w.heap.size + 1 + 1 + 1) (by simp)).mono ?_; rintro e w1 ⟨rfl, hh1, hb1⟩; have q0 := heap_stays X0.out hb1; have q1 := heap_stays X1.out hb1; have q2 := heap_stays X2.out hb1; obtain ⟨⟨d0, d1, d2, d3, d4, d5⟩, _⟩ := six' q0; obtain ⟨⟨p0, p1, p2, p3, p4, p5⟩, _⟩ := six' q1; have hs1 : w.heap.size + 1 + 1 < w1.heap.size := (Array.getElem?_eq_some_iff.1 q2).1; have Q1 := hid2 q1; have Q2 := hid2 q2; have HB1 : Hid (Below w.heap.size w w1) := HBW.out.trans (hb1.mono HBW.out.size); have HBV := hid2 (row5 hh1 HPL.out (n := 256) (by omega)); have HKT : Hid (Calls Tryd.prog 23 #[.agg #[y0, y1, y2, y3, y4, y5], .int .i64 at_, .slice (some ⟨w.heap.size + 1 + 1 + 1, 0, none⟩) 256 256] w1 _) := HKR.out w1 (HR1.out.below hb1) _ HBV.out; clear q0 q1 q2 hh1 hb1) | (go_at_call 23; refine (show Calls _ _ _ _ _ from HKT).mono ?_; rintro e w2 ⟨rv', rfl, hrf, hb2⟩; obtain ⟨x0, x1, x2, x3, x4, x5, hrv, hon⟩ := hrf.parts; subst hrv; have z1 := heap_stays Q1.out hb2; have z2 := heap_stays Q2.out hb2; clear d0 d1 d2 d3 d4 d5 p0 p1 p2 p3 p4 p5; obtain ⟨⟨p0, p1, p2, p3, p4, p5⟩, _⟩ := six' z1; have hs2 : w.heap.size + 1 + 1 < w2.heap.size := (Array.getElem?_eq_some_iff.1 z2).1; have Z1 := hid2 z1; have Z2 := hid2 z2; have HRF2 := hid2 hrf; have HON := hid2 hon; have HB2 := hid2 hb2; clear z1 z2 hrf hon hb2) | (refine st_new w2 38 6 (size_of Tryd.info33m) rfl (.tmp 9) (.tmp 40) rfl _ rfl rfl #[.int .i64 0, .slice none 0 0, .slice none 0 0, .int .i64 0, .bool false, .int .i64 0] #[x0, x1, x2, x3, x4, x5] rfl rfl rfl rfl (all6 HON.out) ?_))
  have HS3 : Hid ((w2.alloc (.cells #[x0, x1, x2, x3, x4, x5] 38)).drew.heap[w2.heap.size]? = some (.cells #[x0, x1, x2, x3, x4, x5] 38 (0, 0))) := heap_alloc_last _ _
  have HO3 : Hid ((w2.alloc (.cells #[x0, x1, x2, x3, x4, x5] 38)).drew.heap[w.heap.size + 1]? = some (.cells #[.int .i64 0, .int .i64 at_, .int .u8 (a : Int), .int .u8 (b : Int), .int .i64 n, .slice kp kn kc] 42 (0, 0))) := heap_alloc_old Z1.out _
  have HZ3 : Hid ((w2.alloc (.cells #[x0, x1, x2, x3, x4, x5] 38)).drew.heap[w.heap.size + 1 + 1]? = some (.cells #[.int .i64 0, .slice none 0 0, .slice none 0 0, .int .i64 0, .bool false, .int .i64 0] 38 (0, 0))) := heap_alloc_old Z2.out _
  have HBA : Hid (Below w.heap.size w (w2.alloc (.cells #[x0, x1, x2, x3, x4, x5] 38)).drew) := ((HB1.out.trans (HB2.out.mono HB1.out.size)).alloc (by have := HB1.out.size; have := HB2.out.size; omega) _).drew
  have HF3 : Hid (Fl (w2.alloc (.cells #[x0, x1, x2, x3, x4, x5] 38)).drew B g N d) := HF0.out.below HBA.out
  have HRF3 : Hid (RfAt (w2.alloc (.cells #[x0, x1, x2, x3, x4, x5] 38)).drew (.agg #[x0, x1, x2, x3, x4, x5]) r' (N + 1)) := HRF2.out.below (by go_grown)
  have HE3 : Hid (ErrT (w2.alloc (.cells #[x0, x1, x2, x3, x4, x5] 38)).drew) := HE0.out.below HBA.out

  have HBV3 : Hid (BAt (w2.alloc (.cells #[x0, x1, x2, x3, x4, x5] 38)).drew (.slice (some ⟨w.heap.size + 1 + 1 + 1, 0, none⟩) 256 256) ((bytP a b).take 256)) := (HBV.out.below HB2.out).below (by go_grown)
  refine wp_region_held_drew (S := fun w' => w'.heap[w2.heap.size]? = some (.cells #[x0, x1, x2, x3, x4, x5] 38 (0, 0)) ∧ w'.heap[w.heap.size + 1]? = some (.cells #[.int .i64 0, .int .i64 at_, .int .u8 (a : Int), .int .u8 (b : Int), .int .i64 n, .slice kp kn kc] 42 (0, 0))) (by kernel_rfl) (⟨HS3.out, HO3.out⟩) (fun hS => ?_)
  change wpAnyH _ _ _ _ _ _ _ _ (World.drew _)
  refine wpAnyH_take (i := 0) (v := .agg #[x0, x1, x2, x3, x4, x5]) rfl (by kernel_rfl) (by kernel_rfl) (by kernel_rfl) (fun _ _ _ h => h) (Or.inl ⟨by kernel_rfl, ?_⟩) hS ?_
  · intro W hw
    obtain ⟨⟨q0, q1, q2, q3, q4, q5⟩, _⟩ := six' hw.1
    clear hw
    go_simp
  change wpAnyH _ _ _ _ _ _ _ (Act.put _ (some 42) _) _
  simp only [Act.put, List.setIfInBounds_toArray, List.set_cons_succ, List.set_cons_zero]
  refine wpAnyH_take (i := 1) (v := .pointer (some ⟨g, 0, none⟩)) rfl (by kernel_rfl) (by kernel_rfl) (by kernel_rfl) (fun _ _ _ h => h) (Or.inl ⟨by kernel_rfl, ?_⟩) hS ?_
  · intro w hw; clear hw; go_simp
  change wpAnyH _ _ _ _ _ _ _ (Act.put _ (some 43) _) _
  simp only [Act.put, List.setIfInBounds_toArray, List.set_cons_succ, List.set_cons_zero]
  refine wpAnyH_take (i := 2) (v := .pointer (some ⟨w.heap.size + 1, 1, none⟩)) rfl (by kernel_rfl) (by kernel_rfl) (by kernel_rfl) (fun _ _ _ h => h) (Or.inl ⟨by kernel_rfl, ?_⟩) hS ?_
  · intro w hw; clear hw; go_simp
  change wpAnyH _ _ _ _ _ _ _ (Act.put _ (some 44) _) _
  simp only [Act.put, List.setIfInBounds_toArray, List.set_cons_succ, List.set_cons_zero]
  refine wpAnyH_take (i := 3) (v := .int .i64 at_) rfl (by kernel_rfl) (by kernel_rfl) (by kernel_rfl) (fun _ _ _ h => h) (Or.inl ⟨by kernel_rfl, ?_⟩) hS ?_
  · intro W hw
    obtain ⟨⟨q0, q1, q2, q3, q4, q5⟩, _⟩ := six' hw.2
    clear hw
    go_simp
  change wpAnyH _ _ _ _ _ _ _ (Act.put _ (some 45) _) _
  simp only [Act.put, List.setIfInBounds_toArray, List.set_cons_succ, List.set_cons_zero]
  refine wpAnyH_take (i := 4) (v := .slice (some ⟨w.heap.size + 1 + 1 + 1, 0, none⟩) 256 256) rfl (by kernel_rfl) (by kernel_rfl) (by kernel_rfl) (fun _ _ _ h => h) (Or.inl ⟨by kernel_rfl, ?_⟩) hS ?_
  · intro w hw; clear hw; go_simp
  change wpAnyH _ _ _ _ _ _ _ (Act.put _ (some 46) _) _
  simp only [Act.put, List.setIfInBounds_toArray, List.set_cons_succ, List.set_cons_zero]
  refine wpAnyH_take (i := 7) (v := .int .i64 code) rfl (by kernel_rfl) (by kernel_rfl) (by kernel_rfl) (fun _ _ _ h => h) (Or.inl ⟨by kernel_rfl, ?_⟩) hS ?_
  · intro w hw; clear hw; go_simp
  change wpAnyH _ _ _ _ _ _ _ (Act.put _ (some 49) _) _
  simp only [Act.put, List.setIfInBounds_toArray, List.set_cons_succ, List.set_cons_zero]
  refine wpAnyH_ready (rs := [5]) (by kernel_rfl) (by simp) ?_
  refine AllReadyH.cons rfl (fun K hK => ?_) AllReadyH.nil
  go_simp
  go_wp2_with (go_at_call 12; refine (HKP.out _ HF3.out _ HBV3.out).mono ?_; rintro e w4 ⟨v, rfl, hv, hF4, hR4⟩)
  refine hK.out _ _ (⟨heap_fr hR4 HS3.out, heap_fr hR4 HO3.out⟩) (fun hS => ?_)
  clear hK K
  skip
  refine wpAnyH_ready (rs := [6]) (by kernel_rfl) (by simp) ?_
  refine AllReadyH.cons rfl (fun K hK => ?_) AllReadyH.nil
  go_simp
  go_wp2_with (go_at_call 20; refine (of_code (HE3.out.fr hR4 hB) hv).mono ?_; rintro e w5 ⟨rfl, hb5⟩)
  refine hK.out _ _ (⟨heap_stays (heap_fr hR4 HS3.out) hb5, heap_stays (heap_fr hR4 HO3.out) hb5⟩) (fun hS => ?_)
  clear hK K
  skip
  refine wpAnyH_take (i := 8) (v := .bool true) rfl (by kernel_rfl) (by kernel_rfl) (by kernel_rfl) (fun _ _ _ h => h) (Or.inl ⟨by kernel_rfl, ?_⟩) hS ?_
  · intro w hw; clear hw; go_simp
  change wpAnyH _ _ _ _ _ _ _ (Act.put _ (some 50) _) _
  simp only [Act.put, List.setIfInBounds_toArray, List.set_cons_succ, List.set_cons_zero]
  refine wpAnyH_ready (rs := [9]) (by kernel_rfl) (by simp) ?_
  refine AllReadyH.cons rfl (fun K hK => ?_) AllReadyH.nil
  refine step_st33 rfl (.tmp 6) (.tmp 42) rfl (w.heap.size + 1 + 1) rfl _ _ _ _ _ _ _ (heap_stays (heap_fr hR4 HZ3.out) hb5) rfl rfl HON.out ?_
  intro w6 hw6 hg6
  refine hK.out _ _ (⟨heap_grown (heap_stays (heap_fr hR4 HS3.out) hb5) hg6 (by simp; omega), heap_grown (heap_stays (heap_fr hR4 HO3.out) hb5) hg6 (by simp)⟩) (fun hS => ?_)
  clear hK K
  change wpAnyH _ _ _ _ _ _ _ (Act.put _ (none) _) _
  simp only [Act.put]
  refine wpAnyH_take (i := 10) (v := .bool true) rfl (by kernel_rfl) (by kernel_rfl) (by kernel_rfl) (fun _ _ _ h => h) (Or.inl ⟨by kernel_rfl, ?_⟩) hS ?_
  · intro w hw; clear hw; go_simp
  change wpAnyH _ _ _ _ _ _ _ (Act.put _ (some 7) _) _
  simp only [Act.put, List.setIfInBounds_toArray, List.set_cons_succ, List.set_cons_zero]
  refine wpAnyH_done (by kernel_rfl) ?_ _
  go_wp2
  refine bodyPost_ret (v := .tuple #[.agg #[x0, x1, x2, x3, x4, x5], .bool true]) ?_ rfl ⟨_, _, _, _, _, _, rfl, ?_⟩
  · exact results33 Tryd.results9 _ _ (w.heap.size + 1 + 1) rfl _ _ _ _ _ _ 38 (0, 0) hw6 _ rfl
  · exact DoneAt.mk' (hF4.below hb5) ((HRF3.out.fr hR4).below hb5) HSIM.out (((Below.fr HBA.out).trans hR4).trans (Below.fr hb5)) (heap_stays (heap_fr hR4 HZ3.out) hb5) hg6 (by omega)

set_option maxHeartbeats 4000000 in
set_option maxRecDepth 10000 in
theorem do_write_cut {w : World} {B g N : Nat} {d : Dev} {r : Rf} {y0 y1 y2 y3 y4 y5 : Value} (hF : Fl w B g N d) (hR : RfAt w (.agg #[y0, y1, y2, y3, y4, y5]) r N) (hS : Sim d r) (hE : ErrT w) (hB : 0 < B) (hN : N < 900) (hone : y0.oneCell' = true ∧ y1.oneCell' = true ∧ y2.oneCell' = true ∧ y3.oneCell' = true ∧ y4.oneCell' = true ∧ y5.oneCell' = true)
    (at_ n : Int) (a b : Nat) (kp : Option Addr) (kn kc : Nat) (hab : a < 256 ∧ b < 256) (hm : (n.tmod 16 == 5) = true) :
    Calls Tryd.prog 9 #[.pointer (some ⟨g, 0, none⟩), .agg #[y0, y1, y2, y3, y4, y5], .agg #[.int .i64 0, .int .i64 at_, .int .u8 (a : Int), .int .u8 (b : Int), .int .i64 n, .slice kp kn kc]] w fun e w' => ∃ x0 x1 x2 x3 x4 x5, e = .returned (.tuple #[.agg #[x0, x1, x2, x3, x4, x5], .bool true]) ∧ DoneAt w w' B g (N + 1) (writeP d at_ ((bytP a b).take 255)).1 (.agg #[x0, x1, x2, x3, x4, x5]) := by
  have HF0 := hid2 hF
  have HE0 := hid2 hE
  obtain ⟨X0, X1, X2⟩ := heap3h w (.cells #[y0, y1, y2, y3, y4, y5] 38) (.cells #[.int .i64 0, .int .i64 at_, .int .u8 (a : Int), .int .u8 (b : Int), .int .i64 n, .slice kp kn kc] 42) (.cells #[.int .i64 0, .slice none 0 0, .slice none 0 0, .int .i64 0, .bool false, .int .i64 0] 38)
  have HBW : Hid (Below w.heap.size w (((w.alloc (.cells #[y0, y1, y2, y3, y4, y5] 38)).alloc (.cells #[.int .i64 0, .int .i64 at_, .int .u8 (a : Int), .int .u8 (b : Int), .int .i64 n, .slice kp kn kc] 42)).alloc (.cells #[.int .i64 0, .slice none 0 0, .slice none 0 0, .int .i64 0, .bool false, .int .i64 0] 38))) := by show Below _ _ _; go_grown
  have HF1 : Hid (Fl (((w.alloc (.cells #[y0, y1, y2, y3, y4, y5] 38)).alloc (.cells #[.int .i64 0, .int .i64 at_, .int .u8 (a : Int), .int .u8 (b : Int), .int .i64 n, .slice kp kn kc] 42)).alloc (.cells #[.int .i64 0, .slice none 0 0, .slice none 0 0, .int .i64 0, .bool false, .int .i64 0] 38)) B g N d) := hF.below HBW.out
  have HR1 : Hid (RfAt (((w.alloc (.cells #[y0, y1, y2, y3, y4, y5] 38)).alloc (.cells #[.int .i64 0, .int .i64 at_, .int .u8 (a : Int), .int .u8 (b : Int), .int .i64 n, .slice kp kn kc] 42)).alloc (.cells #[.int .i64 0, .slice none 0 0, .slice none 0 0, .int .i64 0, .bool false, .int .i64 0] 38)) (.agg #[y0, y1, y2, y3, y4, y5]) r N) := hR.below HBW.out
  have HE1 : Hid (ErrT (((w.alloc (.cells #[y0, y1, y2, y3, y4, y5] 38)).alloc (.cells #[.int .i64 0, .int .i64 at_, .int .u8 (a : Int), .int .u8 (b : Int), .int .i64 n, .slice kp kn kc] 42)).alloc (.cells #[.int .i64 0, .slice none 0 0, .slice none 0 0, .int .i64 0, .bool false, .int .i64 0] 38))) := hE.below HBW.out
  have HS := hid2 hS
  have HONE := hid2 hone
  have hlt := hF.lt
  clear hF hR hE hS hone
  have hcode := (HS.out.write at_ ((bytP a b).take 255)).2
  have hsim := (HS.out.write at_ ((bytP a b).take 255)).1
  have hby : ∀ x ∈ ((bytP a b).take 255), x < 256 := fun x hx => bytN_byt hab.1 hab.2 256 x (List.mem_of_mem_take hx)
  have KP := fun w' (hF : Fl w' B g N d) (v : Value) (hv : BAt w' v ((bytP a b).take 255)) => write_any hF hN at_ hv hby
  rw [hcode] at KP
  have KT := fun w' (hR : RfAt w' (.agg #[y0, y1, y2, y3, y4, y5]) r N) (v : Value) (hv : BAt w' v ((bytP a b).take 255)) => rwrite_any hR hN at_ hv
  generalize (rwrite r at_ ((bytP a b).take 255)).2 = code at *
  generalize (rwrite r at_ ((bytP a b).take 255)).1 = r' at *
  have HKR : Hid (∀ w', RfAt w' (.agg #[y0, y1, y2, y3, y4, y5]) r N → ∀ v, BAt w' v ((bytP a b).take 255) → Calls Tryd.prog 23 #[.agg #[y0, y1, y2, y3, y4, y5], .int .i64 at_, v] w' fun e w'' => ∃ rv', e = .returned (.tuple #[rv', .int .i64 code]) ∧ RfAt w'' rv' r' (N + 1) ∧ Below w'.heap.size w' w'') := KT
  have HKP : Hid (∀ w', Fl w' B g N d → ∀ v, BAt w' v ((bytP a b).take 255) → Calls Tryd.prog 12 #[.pointer (some ⟨g, 0, none⟩), .int .i64 at_, v] w' fun e w'' => ∃ v, e = .returned v ∧ Fault w'' v code ∧ Fl w'' B g (N + 1) (writeP d at_ ((bytP a b).take 255)).1 ∧ Fr B w' w'') := KP
  have HSIM := hid2 hsim
  have hsl := sl46
  have HPL : Hid ((bytP a b).length = 256) := bytN_length a b 256
  clear KT KP hcode hsim hby
  go_enter Tryd.func9, Tryd.ntmps9
  go_wp2_with (first | (go_at_call 22; refine (bytes_at _ a b (w.heap.size + 1 + 1 + 1) (by simp)).mono ?_; rintro e w1 ⟨rfl, hh1, hb1⟩; have q0 := heap_stays X0.out hb1; have q1 := heap_stays X1.out hb1; have q2 := heap_stays X2.out hb1; obtain ⟨⟨d0, d1, d2, d3, d4, d5⟩, _⟩ := six' q0; obtain ⟨⟨p0, p1, p2, p3, p4, p5⟩, _⟩ := six' q1; have hs1 : w.heap.size + 1 + 1 < w1.heap.size := (Array.getElem?_eq_some_iff.1 q2).1; have Q1 := hid2 q1; have Q2 := hid2 q2; have HB1 : Hid (Below w.heap.size w w1) := HBW.out.trans (hb1.mono HBW.out.size); have HBV := hid2 (row5 hh1 HPL.out (n := 255) (by omega)); have HKT : Hid (Calls Tryd.prog 23 #[.agg #[y0, y1, y2, y3, y4, y5], .int .i64 at_, .slice (some ⟨w.heap.size + 1 + 1 + 1, 0, none⟩) 255 256] w1 _) := HKR.out w1 (HR1.out.below hb1) _ HBV.out; clear q0 q1 q2 hh1 hb1) | (go_at_call 23; refine (show Calls _ _ _ _ _ from HKT).mono ?_; rintro e w2 ⟨rv', rfl, hrf, hb2⟩; obtain ⟨x0, x1, x2, x3, x4, x5, hrv, hon⟩ := hrf.parts; subst hrv; have z1 := heap_stays Q1.out hb2; have z2 := heap_stays Q2.out hb2; clear d0 d1 d2 d3 d4 d5 p0 p1 p2 p3 p4 p5; obtain ⟨⟨p0, p1, p2, p3, p4, p5⟩, _⟩ := six' z1; have hs2 : w.heap.size + 1 + 1 < w2.heap.size := (Array.getElem?_eq_some_iff.1 z2).1; have Z1 := hid2 z1; have Z2 := hid2 z2; have HRF2 := hid2 hrf; have HON := hid2 hon; have HB2 := hid2 hb2; clear z1 z2 hrf hon hb2) | (refine st_new w2 38 6 (size_of Tryd.info33m) rfl (.tmp 9) (.tmp 40) rfl _ rfl rfl #[.int .i64 0, .slice none 0 0, .slice none 0 0, .int .i64 0, .bool false, .int .i64 0] #[x0, x1, x2, x3, x4, x5] rfl rfl rfl rfl (all6 HON.out) ?_))
  have HS3 : Hid ((w2.alloc (.cells #[x0, x1, x2, x3, x4, x5] 38)).drew.heap[w2.heap.size]? = some (.cells #[x0, x1, x2, x3, x4, x5] 38 (0, 0))) := heap_alloc_last _ _
  have HO3 : Hid ((w2.alloc (.cells #[x0, x1, x2, x3, x4, x5] 38)).drew.heap[w.heap.size + 1]? = some (.cells #[.int .i64 0, .int .i64 at_, .int .u8 (a : Int), .int .u8 (b : Int), .int .i64 n, .slice kp kn kc] 42 (0, 0))) := heap_alloc_old Z1.out _
  have HZ3 : Hid ((w2.alloc (.cells #[x0, x1, x2, x3, x4, x5] 38)).drew.heap[w.heap.size + 1 + 1]? = some (.cells #[.int .i64 0, .slice none 0 0, .slice none 0 0, .int .i64 0, .bool false, .int .i64 0] 38 (0, 0))) := heap_alloc_old Z2.out _
  have HBA : Hid (Below w.heap.size w (w2.alloc (.cells #[x0, x1, x2, x3, x4, x5] 38)).drew) := ((HB1.out.trans (HB2.out.mono HB1.out.size)).alloc (by have := HB1.out.size; have := HB2.out.size; omega) _).drew
  have HF3 : Hid (Fl (w2.alloc (.cells #[x0, x1, x2, x3, x4, x5] 38)).drew B g N d) := HF0.out.below HBA.out
  have HRF3 : Hid (RfAt (w2.alloc (.cells #[x0, x1, x2, x3, x4, x5] 38)).drew (.agg #[x0, x1, x2, x3, x4, x5]) r' (N + 1)) := HRF2.out.below (by go_grown)
  have HE3 : Hid (ErrT (w2.alloc (.cells #[x0, x1, x2, x3, x4, x5] 38)).drew) := HE0.out.below HBA.out

  have HBV3 : Hid (BAt (w2.alloc (.cells #[x0, x1, x2, x3, x4, x5] 38)).drew (.slice (some ⟨w.heap.size + 1 + 1 + 1, 0, none⟩) 255 256) ((bytP a b).take 255)) := (HBV.out.below HB2.out).below (by go_grown)
  refine wp_region_held_drew (S := fun w' => w'.heap[w2.heap.size]? = some (.cells #[x0, x1, x2, x3, x4, x5] 38 (0, 0)) ∧ w'.heap[w.heap.size + 1]? = some (.cells #[.int .i64 0, .int .i64 at_, .int .u8 (a : Int), .int .u8 (b : Int), .int .i64 n, .slice kp kn kc] 42 (0, 0))) (by kernel_rfl) (⟨HS3.out, HO3.out⟩) (fun hS => ?_)
  change wpAnyH _ _ _ _ _ _ _ _ (World.drew _)
  refine wpAnyH_take (i := 0) (v := .agg #[x0, x1, x2, x3, x4, x5]) rfl (by kernel_rfl) (by kernel_rfl) (by kernel_rfl) (fun _ _ _ h => h) (Or.inl ⟨by kernel_rfl, ?_⟩) hS ?_
  · intro W hw
    obtain ⟨⟨q0, q1, q2, q3, q4, q5⟩, _⟩ := six' hw.1
    clear hw
    go_simp
  change wpAnyH _ _ _ _ _ _ _ (Act.put _ (some 42) _) _
  simp only [Act.put, List.setIfInBounds_toArray, List.set_cons_succ, List.set_cons_zero]
  refine wpAnyH_take (i := 1) (v := .pointer (some ⟨g, 0, none⟩)) rfl (by kernel_rfl) (by kernel_rfl) (by kernel_rfl) (fun _ _ _ h => h) (Or.inl ⟨by kernel_rfl, ?_⟩) hS ?_
  · intro w hw; clear hw; go_simp
  change wpAnyH _ _ _ _ _ _ _ (Act.put _ (some 43) _) _
  simp only [Act.put, List.setIfInBounds_toArray, List.set_cons_succ, List.set_cons_zero]
  refine wpAnyH_take (i := 2) (v := .pointer (some ⟨w.heap.size + 1, 1, none⟩)) rfl (by kernel_rfl) (by kernel_rfl) (by kernel_rfl) (fun _ _ _ h => h) (Or.inl ⟨by kernel_rfl, ?_⟩) hS ?_
  · intro w hw; clear hw; go_simp
  change wpAnyH _ _ _ _ _ _ _ (Act.put _ (some 44) _) _
  simp only [Act.put, List.setIfInBounds_toArray, List.set_cons_succ, List.set_cons_zero]
  refine wpAnyH_take (i := 3) (v := .int .i64 at_) rfl (by kernel_rfl) (by kernel_rfl) (by kernel_rfl) (fun _ _ _ h => h) (Or.inl ⟨by kernel_rfl, ?_⟩) hS ?_
  · intro W hw
    obtain ⟨⟨q0, q1, q2, q3, q4, q5⟩, _⟩ := six' hw.2
    clear hw
    go_simp
  change wpAnyH _ _ _ _ _ _ _ (Act.put _ (some 45) _) _
  simp only [Act.put, List.setIfInBounds_toArray, List.set_cons_succ, List.set_cons_zero]
  refine wpAnyH_take (i := 4) (v := .slice (some ⟨w.heap.size + 1 + 1 + 1, 0, none⟩) 255 256) rfl (by kernel_rfl) (by kernel_rfl) (by kernel_rfl) (fun _ _ _ h => h) (Or.inl ⟨by kernel_rfl, ?_⟩) hS ?_
  · intro w hw; clear hw; go_simp
  change wpAnyH _ _ _ _ _ _ _ (Act.put _ (some 46) _) _
  simp only [Act.put, List.setIfInBounds_toArray, List.set_cons_succ, List.set_cons_zero]
  refine wpAnyH_take (i := 7) (v := .int .i64 code) rfl (by kernel_rfl) (by kernel_rfl) (by kernel_rfl) (fun _ _ _ h => h) (Or.inl ⟨by kernel_rfl, ?_⟩) hS ?_
  · intro w hw; clear hw; go_simp
  change wpAnyH _ _ _ _ _ _ _ (Act.put _ (some 49) _) _
  simp only [Act.put, List.setIfInBounds_toArray, List.set_cons_succ, List.set_cons_zero]
  refine wpAnyH_ready (rs := [5]) (by kernel_rfl) (by simp) ?_
  refine AllReadyH.cons rfl (fun K hK => ?_) AllReadyH.nil
  go_simp
  go_wp2_with (go_at_call 12; refine (HKP.out _ HF3.out _ HBV3.out).mono ?_; rintro e w4 ⟨v, rfl, hv, hF4, hR4⟩)
  refine hK.out _ _ (⟨heap_fr hR4 HS3.out, heap_fr hR4 HO3.out⟩) (fun hS => ?_)
  clear hK K
  skip
  refine wpAnyH_ready (rs := [6]) (by kernel_rfl) (by simp) ?_
  refine AllReadyH.cons rfl (fun K hK => ?_) AllReadyH.nil
  go_simp
  go_wp2_with (go_at_call 20; refine (of_code (HE3.out.fr hR4 hB) hv).mono ?_; rintro e w5 ⟨rfl, hb5⟩)
  refine hK.out _ _ (⟨heap_stays (heap_fr hR4 HS3.out) hb5, heap_stays (heap_fr hR4 HO3.out) hb5⟩) (fun hS => ?_)
  clear hK K
  skip
  refine wpAnyH_take (i := 8) (v := .bool true) rfl (by kernel_rfl) (by kernel_rfl) (by kernel_rfl) (fun _ _ _ h => h) (Or.inl ⟨by kernel_rfl, ?_⟩) hS ?_
  · intro w hw; clear hw; go_simp
  change wpAnyH _ _ _ _ _ _ _ (Act.put _ (some 50) _) _
  simp only [Act.put, List.setIfInBounds_toArray, List.set_cons_succ, List.set_cons_zero]
  refine wpAnyH_ready (rs := [9]) (by kernel_rfl) (by simp) ?_
  refine AllReadyH.cons rfl (fun K hK => ?_) AllReadyH.nil
  refine step_st33 rfl (.tmp 6) (.tmp 42) rfl (w.heap.size + 1 + 1) rfl _ _ _ _ _ _ _ (heap_stays (heap_fr hR4 HZ3.out) hb5) rfl rfl HON.out ?_
  intro w6 hw6 hg6
  refine hK.out _ _ (⟨heap_grown (heap_stays (heap_fr hR4 HS3.out) hb5) hg6 (by simp; omega), heap_grown (heap_stays (heap_fr hR4 HO3.out) hb5) hg6 (by simp)⟩) (fun hS => ?_)
  clear hK K
  change wpAnyH _ _ _ _ _ _ _ (Act.put _ (none) _) _
  simp only [Act.put]
  refine wpAnyH_take (i := 10) (v := .bool true) rfl (by kernel_rfl) (by kernel_rfl) (by kernel_rfl) (fun _ _ _ h => h) (Or.inl ⟨by kernel_rfl, ?_⟩) hS ?_
  · intro w hw; clear hw; go_simp
  change wpAnyH _ _ _ _ _ _ _ (Act.put _ (some 7) _) _
  simp only [Act.put, List.setIfInBounds_toArray, List.set_cons_succ, List.set_cons_zero]
  refine wpAnyH_done (by kernel_rfl) ?_ _
  go_wp2
  refine bodyPost_ret (v := .tuple #[.agg #[x0, x1, x2, x3, x4, x5], .bool true]) ?_ rfl ⟨_, _, _, _, _, _, rfl, ?_⟩
  · exact results33 Tryd.results9 _ _ (w.heap.size + 1 + 1) rfl _ _ _ _ _ _ 38 (0, 0) hw6 _ rfl
  · exact DoneAt.mk' (hF4.below hb5) ((HRF3.out.fr hR4).below hb5) HSIM.out (((Below.fr HBA.out).trans hR4).trans (Below.fr hb5)) (heap_stays (heap_fr hR4 HZ3.out) hb5) hg6 (by omega)

set_option maxHeartbeats 4000000 in
set_option maxRecDepth 10000 in
theorem do_read {w : World} {B g N : Nat} {d : Dev} {r : Rf} {y0 y1 y2 y3 y4 y5 : Value} (hF : Fl w B g N d) (hR : RfAt w (.agg #[y0, y1, y2, y3, y4, y5]) r N) (hS : Sim d r) (hE : ErrT w) (_hB : 0 < B) (hN : N < 900) (hone : y0.oneCell' = true ∧ y1.oneCell' = true ∧ y2.oneCell' = true ∧ y3.oneCell' = true ∧ y4.oneCell' = true ∧ y5.oneCell' = true)
    (at_ n : Int) (a b : Nat) (kp : Option Addr) (kn kc : Nat) :
    Calls Tryd.prog 9 #[.pointer (some ⟨g, 0, none⟩), .agg #[y0, y1, y2, y3, y4, y5], .agg #[.int .i64 2, .int .i64 at_, .int .u8 (a : Int), .int .u8 (b : Int), .int .i64 n, .slice kp kn kc]] w fun e w' => ∃ x0 x1 x2 x3 x4 x5, e = .returned (.tuple #[.agg #[x0, x1, x2, x3, x4, x5], .bool true]) ∧ DoneAt w w' B g (N + 1) d (.agg #[x0, x1, x2, x3, x4, x5]) := by
  have HF0 := hid2 hF
  have HE0 := hid2 hE
  have hdo := hF.1
  obtain ⟨X0, X1, X2⟩ := heap3h w (.cells #[y0, y1, y2, y3, y4, y5] 38) (.cells #[.int .i64 2, .int .i64 at_, .int .u8 (a : Int), .int .u8 (b : Int), .int .i64 n, .slice kp kn kc] 42) (.cells #[.int .i64 0, .slice none 0 0, .slice none 0 0, .int .i64 0, .bool false, .int .i64 0] 38)
  have HBW : Hid (Below w.heap.size w (((w.alloc (.cells #[y0, y1, y2, y3, y4, y5] 38)).alloc (.cells #[.int .i64 2, .int .i64 at_, .int .u8 (a : Int), .int .u8 (b : Int), .int .i64 n, .slice kp kn kc] 42)).alloc (.cells #[.int .i64 0, .slice none 0 0, .slice none 0 0, .int .i64 0, .bool false, .int .i64 0] 38))) := by show Below _ _ _; go_grown
  have HF1 : Hid (Fl (((w.alloc (.cells #[y0, y1, y2, y3, y4, y5] 38)).alloc (.cells #[.int .i64 2, .int .i64 at_, .int .u8 (a : Int), .int .u8 (b : Int), .int .i64 n, .slice kp kn kc] 42)).alloc (.cells #[.int .i64 0, .slice none 0 0, .slice none 0 0, .int .i64 0, .bool false, .int .i64 0] 38)) B g N d) := hF.below HBW.out
  have HR1 : Hid (RfAt (((w.alloc (.cells #[y0, y1, y2, y3, y4, y5] 38)).alloc (.cells #[.int .i64 2, .int .i64 at_, .int .u8 (a : Int), .int .u8 (b : Int), .int .i64 n, .slice kp kn kc] 42)).alloc (.cells #[.int .i64 0, .slice none 0 0, .slice none 0 0, .int .i64 0, .bool false, .int .i64 0] 38)) (.agg #[y0, y1, y2, y3, y4, y5]) r N) := hR.below HBW.out
  have HE1 : Hid (ErrT (((w.alloc (.cells #[y0, y1, y2, y3, y4, y5] 38)).alloc (.cells #[.int .i64 2, .int .i64 at_, .int .u8 (a : Int), .int .u8 (b : Int), .int .i64 n, .slice kp kn kc] 42)).alloc (.cells #[.int .i64 0, .slice none 0 0, .slice none 0 0, .int .i64 0, .bool false, .int .i64 0] 38))) := hE.below HBW.out
  have HS := hid2 hS
  have HONE := hid2 hone
  have hlt := hF.lt
  clear hF hR hE hS hone
  have hread : rreadP r at_ = readP d at_ := by unfold rreadP readP; rw [HS.out.refuses, HS.out.look]
  have KP := fun w' (hF : Fl w' B g N d) => read_any hF (by omega) at_
  have KT := rread_any HR1.out at_
  rw [hread] at KT
  generalize readP d at_ = pc at *
  obtain ⟨pb, code⟩ := pc
  dsimp only at *
  have HKT : Hid (Calls Tryd.prog 26 #[.agg #[y0, y1, y2, y3, y4, y5], .int .i64 at_] (((w.alloc (.cells #[y0, y1, y2, y3, y4, y5] 38)).alloc (.cells #[.int .i64 2, .int .i64 at_, .int .u8 (a : Int), .int .u8 (b : Int), .int .i64 n, .slice kp kn kc] 42)).alloc (.cells #[.int .i64 0, .slice none 0 0, .slice none 0 0, .int .i64 0, .bool false, .int .i64 0] 38)) fun e w' => ∃ v, e = .returned (.tuple #[v, .int .i64 code]) ∧ BAt w' v pb ∧ Below (((w.alloc (.cells #[y0, y1, y2, y3, y4, y5] 38)).alloc (.cells #[.int .i64 2, .int .i64 at_, .int .u8 (a : Int), .int .u8 (b : Int), .int .i64 n, .slice kp kn kc] 42)).alloc (.cells #[.int .i64 0, .slice none 0 0, .slice none 0 0, .int .i64 0, .bool false, .int .i64 0] 38)).heap.size (((w.alloc (.cells #[y0, y1, y2, y3, y4, y5] 38)).alloc (.cells #[.int .i64 2, .int .i64 at_, .int .u8 (a : Int), .int .u8 (b : Int), .int .i64 n, .slice kp kn kc] 42)).alloc (.cells #[.int .i64 0, .slice none 0 0, .slice none 0 0, .int .i64 0, .bool false, .int .i64 0] 38)) w') := KT
  have HKP : Hid (∀ w', Fl w' B g N d → Calls Tryd.prog 27 #[.pointer (some ⟨g, 0, none⟩), .int .i64 at_] w' fun e w'' => ∃ v u, e = .returned (.tuple #[v, u]) ∧ Fault w'' u code ∧ BAt w'' v pb ∧ Below w'.heap.size w' w'') := KP
  clear KT KP hread
  go_enter Tryd.func9, Tryd.ntmps9
  go_wp2_with (first | (go_at_call 26; refine (show Calls _ _ _ _ _ from HKT).mono ?_; rintro e w1 ⟨xv, rfl, hx1, hb1⟩; have q1 := heap_stays X1.out hb1; obtain ⟨⟨p0, p1, p2, p3, p4, p5⟩, _⟩ := six' q1; have hs1 : w.heap.size + 1 < w1.heap.size := (Array.getElem?_eq_some_iff.1 q1).1; have HB1 := hid2 hb1; have HX1 := hid2 hx1; clear q1 hx1 hb1) | (go_at_call 27; refine (HKP.out _ (HF1.out.below HB1.out)).mono ?_; rintro e w2 ⟨bv, ev, rfl, hfa, hbv, hb2⟩; have HFA := hid2 hfa; have HBV := hid2 hbv; have HB2 := hid2 hb2; have z0 := heap_stays (heap_stays X0.out HB1.out) hb2; have z2 := heap_stays (heap_stays X2.out HB1.out) hb2; have Z0 := hid2 z0; have Z2 := hid2 z2; have hs2 : w.heap.size + 1 + 1 < w2.heap.size := (Array.getElem?_eq_some_iff.1 z2).1; clear z0 z2 hfa hbv hb2))
  have HB3 : Hid (Below w.heap.size w w2.drew) := ((HBW.out.trans (HB1.out.mono HBW.out.size)).trans (HB2.out.mono (Nat.le_trans HBW.out.size HB1.out.size))).drew
  have HXV : Hid (BAt w2.drew xv pb) := (HX1.out.below HB2.out).below (Below.refl _ _).drew
  have HFA3 : Hid (Fault w2.drew ev code) := HFA.out.below (Below.refl _ _).drew
  have HBV3 : Hid (BAt w2.drew bv pb) := HBV.out.below (Below.refl _ _).drew
  have HF3 : Hid (Fl w2.drew B g N d) := HF0.out.below HB3.out
  have HR3 : Hid (RfAt w2.drew (.agg #[y0, y1, y2, y3, y4, y5]) r N) := ((HR1.out.below HB1.out).below HB2.out).below (Below.refl _ _).drew
  have HE3 : Hid (ErrT w2.drew) := HE0.out.below HB3.out
  have HZ3 : Hid (w2.drew.heap[w.heap.size + 1 + 1]? = some (.cells #[.int .i64 0, .slice none 0 0, .slice none 0 0, .int .i64 0, .bool false, .int .i64 0] 38 (0, 0))) := Z2.out
  refine wp_region_held_drew (S := fun w' => w'.heap[w.heap.size]? = some (.cells #[y0, y1, y2, y3, y4, y5] 38 (0, 0)) ∧ True) (by kernel_rfl) (⟨Z0.out, trivial⟩) (fun hS => ?_)
  change wpAnyH _ _ _ _ _ _ _ _ (World.drew _)
  refine wpAnyH_take (i := 0) (v := .agg #[y0, y1, y2, y3, y4, y5]) rfl (by kernel_rfl) (by kernel_rfl) (by kernel_rfl) (fun _ _ _ h => h) (Or.inl ⟨by kernel_rfl, ?_⟩) hS ?_
  · intro W hw
    obtain ⟨⟨q0, q1, q2, q3, q4, q5⟩, _⟩ := six' hw.1
    clear hw
    go_simp
  change wpAnyH _ _ _ _ _ _ _ (Act.put _ (some 84) _) _
  simp only [Act.put, List.setIfInBounds_toArray, List.set_cons_succ, List.set_cons_zero]
  refine wpAnyH_take (i := 1) (v := ev) rfl (by kernel_rfl) (by kernel_rfl) (by kernel_rfl) (fun _ _ _ h => h) (Or.inl ⟨by kernel_rfl, ?_⟩) hS ?_
  · intro w hw; clear hw; go_simp
  change wpAnyH _ _ _ _ _ _ _ (Act.put _ (some 85) _) _
  simp only [Act.put, List.setIfInBounds_toArray, List.set_cons_succ, List.set_cons_zero]
  refine wpAnyH_take (i := 3) (v := .int .i64 code) rfl (by kernel_rfl) (by kernel_rfl) (by kernel_rfl) (fun _ _ _ h => h) (Or.inl ⟨by kernel_rfl, ?_⟩) hS ?_
  · intro w hw; clear hw; go_simp
  change wpAnyH _ _ _ _ _ _ _ (Act.put _ (some 87) _) _
  simp only [Act.put, List.setIfInBounds_toArray, List.set_cons_succ, List.set_cons_zero]
  refine wpAnyH_ready (rs := [2]) (by kernel_rfl) (by simp) ?_
  refine AllReadyH.cons rfl (fun K hK => ?_) AllReadyH.nil
  go_simp
  go_wp2_with (go_at_call 20; refine (of_code HE3.out HFA3.out).mono ?_; rintro e w5 ⟨rfl, hb5⟩)
  refine hK.out _ _ (⟨heap_stays hS.1 hb5, trivial⟩) (fun hS => ?_)
  clear hK K
  skip
  refine wpAnyH_take (i := 4) (v := .bool true) rfl (by kernel_rfl) (by kernel_rfl) (by kernel_rfl) (fun _ _ _ h => h) (Or.inl ⟨by kernel_rfl, ?_⟩) hS ?_
  · intro w hw; clear hw; go_simp
  change wpAnyH _ _ _ _ _ _ _ (Act.put _ (some 88) _) _
  simp only [Act.put, List.setIfInBounds_toArray, List.set_cons_succ, List.set_cons_zero]
  refine wpAnyH_take (i := 5) (v := .bool true) rfl (by kernel_rfl) (by kernel_rfl) (by kernel_rfl) (fun _ _ _ h => h) (Or.inl ⟨by kernel_rfl, ?_⟩) hS ?_
  · intro w hw; clear hw; go_simp
  change wpAnyH _ _ _ _ _ _ _ (Act.put _ (some 89) _) _
  simp only [Act.put, List.setIfInBounds_toArray, List.set_cons_succ, List.set_cons_zero]
  refine wpAnyH_take (i := 6) (v := bv) rfl (by kernel_rfl) (by kernel_rfl) (by kernel_rfl) (fun _ _ _ h => h) (Or.inl ⟨by kernel_rfl, ?_⟩) hS ?_
  · intro w hw; clear hw; go_simp
  change wpAnyH _ _ _ _ _ _ _ (Act.put _ (some 90) _) _
  simp only [Act.put, List.setIfInBounds_toArray, List.set_cons_succ, List.set_cons_zero]
  refine wpAnyH_take (i := 7) (v := xv) rfl (by kernel_rfl) (by kernel_rfl) (by kernel_rfl) (fun _ _ _ h => h) (Or.inl ⟨by kernel_rfl, ?_⟩) hS ?_
  · intro w hw; clear hw; go_simp
  change wpAnyH _ _ _ _ _ _ _ (Act.put _ (some 91) _) _
  simp only [Act.put, List.setIfInBounds_toArray, List.set_cons_succ, List.set_cons_zero]
  refine wpAnyH_ready (rs := [8]) (by kernel_rfl) (by simp) ?_
  refine AllReadyH.cons rfl (fun K hK => ?_) AllReadyH.nil
  go_simp
  go_wp2_with (go_at_call 28; refine (same02_any (HBV3.out.below hb5) (HXV.out.below hb5)).mono ?_; rintro e w7 ⟨rfl, hb7⟩)
  refine hK.out _ _ (⟨heap_stays hS.1 hb7, trivial⟩) (fun hS => ?_)
  clear hK K
  skip
  refine wpAnyH_take (i := 9) (v := .bool true) rfl (by kernel_rfl) (by kernel_rfl) (by kernel_rfl) (fun _ _ _ h => h) (Or.inl ⟨by kernel_rfl, ?_⟩) hS ?_
  · intro w hw; clear hw; go_simp
  change wpAnyH _ _ _ _ _ _ _ (Act.put _ (some 93) _) _
  simp only [Act.put, List.setIfInBounds_toArray, List.set_cons_succ, List.set_cons_zero]
  refine wpAnyH_ready (rs := [10]) (by kernel_rfl) (by simp) ?_
  refine AllReadyH.cons rfl (fun K hK => ?_) AllReadyH.nil
  refine step_st33 rfl (.tmp 6) (.tmp 84) rfl (w.heap.size + 1 + 1) rfl _ _ _ _ _ _ _ (heap_stays (heap_stays HZ3.out hb5) hb7) rfl rfl HONE.out ?_
  intro w6 hw6 hg6
  refine hK.out _ _ (⟨heap_grown hS.1 hg6 (by simp; omega), trivial⟩) (fun hS => ?_)
  clear hK K
  change wpAnyH _ _ _ _ _ _ _ (Act.put _ (none) _) _
  simp only [Act.put]
  refine wpAnyH_take (i := 11) (v := .bool true) rfl (by kernel_rfl) (by kernel_rfl) (by kernel_rfl) (fun _ _ _ h => h) (Or.inl ⟨by kernel_rfl, ?_⟩) hS ?_
  · intro w hw; clear hw; go_simp
  change wpAnyH _ _ _ _ _ _ _ (Act.put _ (some 7) _) _
  simp only [Act.put, List.setIfInBounds_toArray, List.set_cons_succ, List.set_cons_zero]
  refine wpAnyH_done (by kernel_rfl) ?_ _
  go_wp2
  refine bodyPost_ret (v := .tuple #[.agg #[y0, y1, y2, y3, y4, y5], .bool true]) ?_ rfl ⟨_, _, _, _, _, _, rfl, ?_⟩
  · exact results33 Tryd.results9 _ _ (w.heap.size + 1 + 1) rfl _ _ _ _ _ _ 38 (0, 0) hw6 _ rfl
  · exact DoneAt.mk' ((((HF3.out.below hb5).below hb7)).more (by omega)) ((((HR3.out.below hb5).below hb7)).more (by omega)) HS.out (((Below.fr HB3.out).trans (Below.fr hb5)).trans (Below.fr hb7)) (heap_stays (heap_stays HZ3.out hb5) hb7) hg6 (by omega)
end Go.Proofs.YtkbfihnoohhojaaDoor.Fla
