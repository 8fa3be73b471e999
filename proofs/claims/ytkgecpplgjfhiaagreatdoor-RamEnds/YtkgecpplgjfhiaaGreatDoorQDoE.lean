/-
  An act of the law, both ways: Sweep; no act.
-/
import Derived.Test.YtkgecpplgjfhiaaGreatDoorQDoC
namespace Go.Proofs.YtkgecpplgjfhiaaGreatDoor
open Go.RowKit
open Ite (Ent zeroE checkE sizeE)
open Lis (Lst but Tag)
variable {w : World} {B g : Nat} {lim : Int} {L R : List Ent} {M : Nat} {p : Option Addr} {cap : Nat} {x : Ent} {q : Option Addr} {c : Nat} {kd now : Int}

set_option maxHeartbeats 4000000 in
set_option maxRecDepth 10000 in
theorem do_sweep (h : Tier w B g lim L M) (_hM : M ≤ 900) (hE : Es w B (.slice p R.length cap) R) (hz : p = none → cap = 0) (hR : R.length ≤ 640) (hx : Bq w B (.slice q x.val.length c) x.val) (he : ErrT w) (h0 : 0 < B) (_hkk : x.key.size ≤ 1000) (_hkv : x.val.length ≤ 5000) :
    Calls Tryz.prog 13 #[.pointer (some ⟨g, 0, none⟩), .agg #[.int .i64 lim, .slice p R.length cap], .agg #[.int .i64 4, .string x.key, .int .i64 x.ver, .int .i64 x.asof, .int .i64 x.ends, .slice q x.val.length c, .int .i64 now]] w fun e w' => ∃ p' cap' b, e = .returned (.tuple #[.agg #[.int .i64 lim, .slice p' (sweepP R now).length cap'], .bool b]) ∧ (L = R → b = true) ∧ Es w' B (.slice p' (sweepP R now).length cap') (sweepP R now) ∧ (p' = none → cap' = 0) ∧ Tier w' B g lim (sweepP L now) (M + 1) ∧ Fr B w w' := by
  have hfine := h.fine
  have hBw : B ≤ w.heap.size := Nat.le_of_lt hfine.2.2.2.2.2.2
  obtain ⟨S0, A0⟩ := do_start (lim := lim) (p := p) (R := R) (cap := cap) (kd := 4) (x := x) (q := q) (c := c) (now := now) hE hx he h0 hBw
  have HT1 := hid2 (h.below A0)
  have HS1 := hid2 S0
  have HZ := hid2 hz
  have HF := hid2 hfine
  have HH := hid2 h
  obtain ⟨w1, hw1⟩ : ∃ w1, w1 = (((w.alloc (.cells #[.int .i64 lim, .slice p R.length cap] 37)).alloc (.cells #[.int .i64 4, .string x.key, .int .i64 x.ver, .int .i64 x.asof, .int .i64 x.ends, .slice q x.val.length c, .int .i64 now] 44)).alloc (.cells #[.int .i64 0, .slice none 0 0] 37)) := ⟨_, rfl⟩
  have HW := hid2 hw1
  rw [← hw1] at HT1 HS1
  clear hw1 h hE hz hx he S0 A0 hfine
  obtain ⟨⟨k0, k1, k2, k3, k4⟩, k5, k6⟩ := HS1.out.cells
  go_enter Tryz.func13, Tryz.ntmps13
  have KR := hid2 (fun W (s : DoS w B lim R p cap 4 x q c now W) => rsweep_t (lim := lim) s.es (Nat.le_trans hR (by omega)) (Nat.le_trans hBw s.fr.size) now)
  have KP := hid2 (fun W (t : Tier W B g lim L M) => sweep_t t now)
  have HEQ : Hid (L = R → (L.length : Int) - ((sweepP L now).length : Int) = (R.length : Int) - ((sweepP R now).length : Int)) := fun e => by rw [e]
  generalize (L.length : Int) - ((sweepP L now).length : Int) = nl at *
  generalize (R.length : Int) - ((sweepP R now).length : Int) = nr at *
  generalize sweepP R now = R' at *
  go_upto_region 1 with fail
  rw [← HW.out]
  clear HW
  go_wp2_with ((refine wpList_load_mid rfl 37 (.tmp 4) rfl w.heap.size 0 rfl _ _ k5 und_rm.choose_spec rfl size_rm ?_))
  refine (show Calls _ _ _ _ _ from KR.out _ HS1.out).mono ?_
  rintro e w2 ⟨p', cap', rfl, hes, hz', hb⟩
  have HS2 := hid2 (HS1.out.below hb h0)
  have HT2 := hid2 (HT1.out.below hb)
  have HE2 := hid2 hes
  have HZ' := hid2 hz'
  clear hes hz'
  clear hb HS1 HT1 k0 k1 k2 k3 k4 k5 k6
  obtain ⟨⟨k0, k1, k2, k3, k4⟩, k5, k6⟩ := HS2.out.cells
  go_wp2_with fail
  obtain ⟨w3, hw3⟩ : ∃ w3, w3 = w2.alloc (.cells #[.int .i64 lim, .slice p' R'.length cap'] 37) := ⟨_, rfl⟩
  rw [← hw3]
  obtain ⟨b24, hb24⟩ : ∃ b24, b24 = w2.heap.size := ⟨_, rfl⟩
  rw [← hb24]
  have A3 : Below w2.heap.size w2 w3 := by rw [hw3]; go_grown
  have Hb24 : Hid (w3.heap[b24]? = some (.cells #[.int .i64 lim, .slice p' R'.length cap'] 37 (0, 0))) := by show _ = _; rw [hw3, hb24]; exact heap_alloc_new w2 _
  have HLb24 : Hid (w.heap.size + 2 < b24) := by show _ < _; rw [hb24]; exact k0
  have HS3 := hid2 (HS2.out.below A3 h0)
  have HT3 := hid2 (HT2.out.below A3)
  have HE3 := hid2 (HE2.out.stays A3)
  clear hw3 hb24 A3 HS2 HT2 HE2 k0 k1 k2 k3 k4 k5 k6
  obtain ⟨⟨k0, k1, k2, k3, k4⟩, k5, k6⟩ := HS3.out.cells
  have hdr4 : Below w3.heap.size w3 (World.drew w3) := drew_below_m w3 1 _
  obtain ⟨w4, hw4⟩ : ∃ w4, w4 = World.drew w3 := ⟨_, rfl⟩
  rw [← hw4] at hdr4
  have HS4 := hid2 (HS3.out.below hdr4 h0)
  have HT4 := hid2 (HT3.out.below hdr4)
  have HE4 := hid2 (HE3.out.stays hdr4)
  have Hb24 := hid2 (heap_stays Hb24.out hdr4)
  have hS0 : Hid ((fun W => Two W b24 (.int .i64 lim) (.slice p' R'.length cap') ∧ W.heap[w.heap.size + 1]? = some (.cells #[.int .i64 4, .string x.key, .int .i64 x.ver, .int .i64 x.asof, .int .i64 x.ends, .slice q x.val.length c, .int .i64 now] 44 (0, 0))) w4) := ⟨Hb24.out, HS4.out.o⟩
  clear HS3 HT3 HE3 k0 k1 k2 k3 k4 k5 k6
  refine wp_region_held_drew (S := fun W => Two W b24 (.int .i64 lim) (.slice p' R'.length cap') ∧ W.heap[w.heap.size + 1]? = some (.cells #[.int .i64 4, .string x.key, .int .i64 x.ver, .int .i64 x.asof, .int .i64 x.ends, .slice q x.val.length c, .int .i64 now] 44 (0, 0))) (by kernel_rfl) (by rw [← hw4]; exact hS0.out) (fun hS => ?_)
  rw [← hw4] at hS ⊢
  clear hw4 hS0
  refine wpAnyH_take (i := 0) (v := (.agg #[.int .i64 lim, .slice p' R'.length cap'])) rfl (by kernel_rfl) (by kernel_rfl) (by kernel_rfl) (fun _ _ _ h => h) (yieldsIf_load_mid (by kernel_rfl) 37 (.tmp 24) rfl b24 0 rfl ([.int .i64 lim, .slice p' R'.length cap']) _ (fun W hw => two_range hw.1) und_rm.choose_spec rfl (size_rm)) hS ?_
  change wpAnyH _ _ _ _ _ _ _ (Act.put _ (some 173) _) _
  simp only [Act.put, List.setIfInBounds_toArray, List.set_cons_succ, List.set_cons_zero]
  refine wpAnyH_take (i := 1) (v := .pointer (some ⟨g, 0, none⟩)) rfl (by kernel_rfl) (by kernel_rfl) (by kernel_rfl) (fun _ _ _ h => h) (Or.inl ⟨by kernel_rfl, ?_⟩) hS ?_
  · intro w hw; clear hw; go_simp
  change wpAnyH _ _ _ _ _ _ _ (Act.put _ (some 174) _) _
  simp only [Act.put, List.setIfInBounds_toArray, List.set_cons_succ, List.set_cons_zero]
  refine wpAnyH_take (i := 2) (v := .pointer (some ⟨w.heap.size + 1, 6, none⟩)) rfl (by kernel_rfl) (by kernel_rfl) (by kernel_rfl) (fun _ _ _ h => h) (Or.inl ⟨by kernel_rfl, ?_⟩) hS ?_
  · intro w hw; clear hw; go_simp
  change wpAnyH _ _ _ _ _ _ _ (Act.put _ (some 175) _) _
  simp only [Act.put, List.setIfInBounds_toArray, List.set_cons_succ, List.set_cons_zero]
  refine wpAnyH_take (i := 3) (v := .int .i64 now) rfl (by kernel_rfl) (by kernel_rfl) (by kernel_rfl) (fun _ _ _ h => h) (Or.inl ⟨by kernel_rfl, ?_⟩) hS ?_
  · intro w hw
    obtain ⟨e0, e1⟩ := op_now hw.2
    clear hw
    go_simp
  change wpAnyH _ _ _ _ _ _ _ (Act.put _ (some 176) _) _
  simp only [Act.put, List.setIfInBounds_toArray, List.set_cons_succ, List.set_cons_zero]
  refine wpAnyH_take (i := 5) (v := .int .i64 nr) rfl (by kernel_rfl) (by kernel_rfl) (by kernel_rfl) (fun _ _ _ h => h) (Or.inl ⟨by kernel_rfl, ?_⟩) hS ?_
  · intro w hw; clear hw; go_simp
  change wpAnyH _ _ _ _ _ _ _ (Act.put _ (some 178) _) _
  simp only [Act.put, List.setIfInBounds_toArray, List.set_cons_succ, List.set_cons_zero]
  refine wpAnyH_ready (rs := [4]) (by kernel_rfl) (by simp) ?_
  refine AllReadyH.cons rfl (fun K hK => ?_) AllReadyH.nil
  go_simp
  go_wp2_with fail
  refine (show Calls _ _ _ _ _ from KP.out _ HT4.out).mono ?_
  rintro e w5 ⟨rfl, hf, ht⟩
  have HS5 := hid2 (HS4.out.next hf h0)
  have HT5 := hid2 ht
  have HE5 := hid2 (HE4.out.fr hf)
  refine hK.out _ _ (⟨hS.1.fr hf, hf.ent hS.2 (by decide)⟩) (fun hS => ?_)
  clear hK K
  skip
  clear hf ht
  refine wpAnyH_take (i := 6) (v := .bool (nl == nr)) rfl (by kernel_rfl) (by kernel_rfl) (by kernel_rfl) (fun _ _ _ h => h) (Or.inl ⟨by kernel_rfl, ?_⟩) hS ?_
  · intro w hw; clear hw; go_simp
  change wpAnyH _ _ _ _ _ _ _ (Act.put _ (some 179) _) _
  simp only [Act.put, List.setIfInBounds_toArray, List.set_cons_succ, List.set_cons_zero]
  refine wpAnyH_ready (rs := [7]) (by kernel_rfl) (by simp) ?_
  refine AllReadyH.cons rfl (fun K hK => ?_) AllReadyH.nil
  refine step_st37 rfl (.tmp 6) (.tmp 173) rfl (w.heap.size + 2) rfl _ _ _ HS5.out.z rfl rfl ⟨rfl, rfl⟩ ?_
  intro wz TZ gz
  refine hK.out _ _ (⟨Two.grown hS.1 gz (by simp; have := HLb24.out; omega), (gz.block _ (lt_of_block hS.2) (by simp)).trans hS.2⟩) (fun hS => ?_)
  clear hK K
  change wpAnyH _ _ _ _ _ _ _ (Act.put _ (none) _) _
  simp only [Act.put]
  refine wpAnyH_take (i := 8) (v := .bool (nl == nr)) rfl (by kernel_rfl) (by kernel_rfl) (by kernel_rfl) (fun _ _ _ h => h) (Or.inl ⟨by kernel_rfl, ?_⟩) hS ?_
  · intro w hw; clear hw; go_simp
  change wpAnyH _ _ _ _ _ _ _ (Act.put _ (some 7) _) _
  simp only [Act.put, List.setIfInBounds_toArray, List.set_cons_succ, List.set_cons_zero]
  refine wpAnyH_done (by kernel_rfl) ?_ _
  go_wp2_with fail
  have fz := HS5.out.fr.box gz (Nat.le_add_right _ _)
  have tz := (HT5.out.boxed gz (Nat.le_trans hBw (Nat.le_add_right _ _)) HS5.out.z.tag good_rm).more
  have ez := HE5.out.box2 gz (Nat.le_trans hBw (Nat.le_add_right _ _)) HS5.out.z.tag (by decide) (by decide)
  refine bodyPost_ret (results_rm Tryz.results13 _ _ (w.heap.size + 2) rfl _ _ TZ _ rfl) rfl ⟨p', cap', (nl == nr), rfl, (fun e => by have e1 := HEQ.out e; rw [e1]; simp), ez, HZ'.out, tz, fz⟩

set_option maxHeartbeats 4000000 in
set_option maxRecDepth 10000 in
theorem do_none (h : Tier w B g lim L M) (_hM : M ≤ 900) (hE : Es w B (.slice p R.length cap) R) (hz : p = none → cap = 0) (_hR : R.length ≤ 640) (hx : Bq w B (.slice q x.val.length c) x.val) (he : ErrT w) (h0 : 0 < B) (_hkk : x.key.size ≤ 1000) (_hkv : x.val.length ≤ 5000) (hk0 : ¬ kd = 0) (hk1 : ¬ kd = 1) (hk2 : ¬ kd = 2) (hk3 : ¬ kd = 3) (hk4 : ¬ kd = 4) :
    Calls Tryz.prog 13 #[.pointer (some ⟨g, 0, none⟩), .agg #[.int .i64 lim, .slice p R.length cap], .agg #[.int .i64 kd, .string x.key, .int .i64 x.ver, .int .i64 x.asof, .int .i64 x.ends, .slice q x.val.length c, .int .i64 now]] w fun e w' => ∃ p' cap' b, e = .returned (.tuple #[.agg #[.int .i64 lim, .slice p' (R).length cap'], .bool b]) ∧ (L = R → b = true) ∧ Es w' B (.slice p' (R).length cap') (R) ∧ (p' = none → cap' = 0) ∧ Tier w' B g lim (L) (M + 1) ∧ Fr B w w' := by
  have hfine := h.fine
  have hBw : B ≤ w.heap.size := Nat.le_of_lt hfine.2.2.2.2.2.2
  obtain ⟨S0, A0⟩ := do_start (lim := lim) (p := p) (R := R) (cap := cap) (kd := kd) (x := x) (q := q) (c := c) (now := now) hE hx he h0 hBw
  have HT1 := hid2 (h.below A0)
  have HS1 := hid2 S0
  have HZ := hid2 hz
  have HF := hid2 hfine
  have HH := hid2 h
  obtain ⟨w1, hw1⟩ : ∃ w1, w1 = (((w.alloc (.cells #[.int .i64 lim, .slice p R.length cap] 37)).alloc (.cells #[.int .i64 kd, .string x.key, .int .i64 x.ver, .int .i64 x.asof, .int .i64 x.ends, .slice q x.val.length c, .int .i64 now] 44)).alloc (.cells #[.int .i64 0, .slice none 0 0] 37)) := ⟨_, rfl⟩
  have HW := hid2 hw1
  rw [← hw1] at HT1 HS1
  clear hw1 h hE hz hx he S0 A0 hfine
  obtain ⟨⟨k0, k1, k2, k3, k4⟩, k5, k6⟩ := HS1.out.cells
  go_enter Tryz.func13, Tryz.ntmps13
  go_upto_region 1 with fail
  rw [← HW.out]
  clear HW
  go_wp2_with (first | (refine wpList_load_mid rfl 37 (.tmp 4) rfl w.heap.size 0 rfl _ _ k5 und_rm.choose_spec rfl size_rm ?_) | (refine st37 rfl (.tmp 6) (.tmp 180) rfl (w.heap.size + 2) rfl _ _ _ HS1.out.z rfl rfl ⟨rfl, rfl⟩ ?_; intro wz TZ gz))
  have fz := HS1.out.fr.box gz (Nat.le_add_right _ _)
  have tz := (HT1.out.boxed gz (Nat.le_trans hBw (Nat.le_add_right _ _)) HS1.out.z.tag good_rm).more
  have ez := HS1.out.es.box2 gz (Nat.le_trans hBw (Nat.le_add_right _ _)) HS1.out.z.tag (by decide) (by decide)
  refine bodyPost_ret (results_rm Tryz.results13 _ _ (w.heap.size + 2) rfl _ _ TZ _ rfl) rfl ⟨p, cap, true, rfl, (fun _ => rfl), ez, HZ.out, tz, fz⟩
end Go.Proofs.YtkgecpplgjfhiaaGreatDoor
