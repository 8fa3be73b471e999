/-
  An act of the law, both ways: Set.
-/
import Derived.Test.YtkgecpplgjfhiaaGreatDoorQDoS
namespace Go.Proofs.YtkgecpplgjfhiaaGreatDoor
open Go.RowKit
open Ite (Ent zeroE checkE sizeE)
open Lis (Lst but Tag)
variable {w : World} {B g : Nat} {lim : Int} {L R : List Ent} {M : Nat} {p : Option Addr} {cap : Nat} {x : Ent} {q : Option Addr} {c : Nat} {kd now : Int}

set_option maxHeartbeats 4000000 in
set_option maxRecDepth 10000 in
theorem do_set (h : Tier w B g lim L M) (hM : M ≤ 900) (hE : Es w B (.slice p L.length cap) L) (hz : p = none → cap = 0) (hR : L.length ≤ 640) (hx : Bq w B (.slice q x.val.length c) x.val) (he : ErrT w) (h0 : 0 < B) (hkk : x.key.size ≤ 1000) (hkv : x.val.length ≤ 5000) :
    Calls Tryz.prog 13 #[.pointer (some ⟨g, 0, none⟩), .agg #[.int .i64 lim, .slice p L.length cap], .agg #[.int .i64 0, .string x.key, .int .i64 x.ver, .int .i64 x.asof, .int .i64 x.ends, .slice q x.val.length c, .int .i64 now]] w fun e w' => ∃ p' cap' b, e = .returned (.tuple #[.agg #[.int .i64 lim, .slice p' ((setP lim L x now).1).length cap'], .bool b]) ∧ b = true ∧ Es w' B (.slice p' ((setP lim L x now).1).length cap') ((setP lim L x now).1) ∧ (p' = none → cap' = 0) ∧ Tier w' B g lim ((setP lim L x now).1) (M + 1) ∧ Fr B w w' := by
  have hfine := h.fine
  have hBw : B ≤ w.heap.size := Nat.le_of_lt hfine.2.2.2.2.2.2
  obtain ⟨S0, A0⟩ := do_start (lim := lim) (p := p) (R := L) (cap := cap) (kd := 0) (x := x) (q := q) (c := c) (now := now) hE hx he h0 hBw
  have HT1 := hid2 (h.below A0)
  have HS1 := hid2 S0
  have HZ := hid2 hz
  have HF := hid2 hfine
  have HH := hid2 h
  obtain ⟨w1, hw1⟩ : ∃ w1, w1 = (((w.alloc (.cells #[.int .i64 lim, .slice p L.length cap] 37)).alloc (.cells #[.int .i64 0, .string x.key, .int .i64 x.ver, .int .i64 x.asof, .int .i64 x.ends, .slice q x.val.length c, .int .i64 now] 44)).alloc (.cells #[.int .i64 0, .slice none 0 0] 37)) := ⟨_, rfl⟩
  have HW := hid2 hw1
  rw [← hw1] at HT1 HS1
  clear hw1 h hE hz hx he S0 A0 hfine
  obtain ⟨⟨k0, k1, k2, k3, k4⟩, k5, k6⟩ := HS1.out.cells
  go_enter Tryz.func13, Tryz.ntmps13
  have KR := hid2 (fun W (s : DoS w B lim L p cap 0 x q c now W) => rset_t s.es HZ.out (Nat.le_trans hR (by omega)) (Nat.le_trans hBw s.fr.size) HF.out.1 HF.out.2.1 ⟨HF.out.2.2.2.1, HF.out.2.2.2.2.1⟩ x s.xs hkk hkv now)
  have KP := hid2 (fun W (t : Tier W B g lim L M) (s : DoS w B lim L p cap 0 x q c now W) => set_t t hM x s.xs hkk hkv now)
  generalize setP lim L x now = sp at *
  obtain ⟨L', gn, cd⟩ := sp
  dsimp only at KR KP ⊢
  go_upto_region 1 with fail
  rw [← HW.out]
  clear HW
  go_wp2_with (first | (refine wpList_load_mid rfl 37 (.tmp 4) rfl w.heap.size 0 rfl _ _ k5 und_rm.choose_spec rfl size_rm ?_) | (refine wpList_load_mid rfl 25 (.tmp 32) rfl (w.heap.size + 1) 1 rfl _ _ k6 Ite.Tryz.und24.choose_spec rfl Ite.Tryz.size24 ?_))
  refine (show Calls _ _ _ _ _ from KR.out _ HS1.out).mono ?_
  rintro e w2 ⟨p', cap', gv, rfl, hes, hz', hgv, hb⟩
  have HS2 := hid2 (HS1.out.below hb h0)
  have HT2 := hid2 (HT1.out.below hb)
  have HE2 := hid2 hes
  have HG2 := hid2 hgv
  have HZ' := hid2 hz'
  clear hes hgv hz'
  clear hb HS1 HT1 k0 k1 k2 k3 k4 k5 k6
  obtain ⟨⟨k0, k1, k2, k3, k4⟩, k5, k6⟩ := HS2.out.cells
  go_upto_region 4 with fail
  obtain ⟨w3, hw3⟩ : ∃ w3, w3 = w2.alloc (.cells #[.int .i64 lim, .slice p' L'.length cap'] 37) := ⟨_, rfl⟩
  rw [← hw3]
  obtain ⟨b8, hb8⟩ : ∃ b8, b8 = w2.heap.size := ⟨_, rfl⟩
  rw [← hb8]
  have A3 : Below w2.heap.size w2 w3 := by rw [hw3]; go_grown
  have Hb8 : Hid (w3.heap[b8]? = some (.cells #[.int .i64 lim, .slice p' L'.length cap'] 37 (0, 0))) := by show _ = _; rw [hw3, hb8]; exact heap_alloc_new w2 _
  have HLb8 : Hid (w.heap.size + 2 < b8) := by show _ < _; rw [hb8]; exact k0
  have HS3 := hid2 (HS2.out.below A3 h0)
  have HT3 := hid2 (HT2.out.below A3)
  have HE3 := hid2 (HE2.out.stays A3)
  have HG3 := hid2 (HG2.out.stays A3)
  clear hw3 hb8 A3 HS2 HT2 HE2 HG2 k0 k1 k2 k3 k4 k5 k6
  obtain ⟨⟨k0, k1, k2, k3, k4⟩, k5, k6⟩ := HS3.out.cells
  go_wp2_with ((refine wpList_load_mid rfl 25 (.tmp 42) rfl (w.heap.size + 1) 1 rfl _ _ k6 Ite.Tryz.und24.choose_spec rfl Ite.Tryz.size24 ?_))
  refine (show Calls _ _ _ _ _ from KP.out _ HT3.out HS3.out).mono ?_
  rintro e w4 ⟨gp, ev, rfl, hgp, hev, hf, ht⟩
  have HS4 := hid2 (HS3.out.next hf h0)
  have HT4 := hid2 ht
  have HE4 := hid2 (HE3.out.fr hf)
  have HG4 := hid2 (HG3.out.fr hf)
  have Hb8 := hid2 (hf.ent Hb8.out (by decide))
  have HP4 := hid2 hgp
  have HV4 := hid2 hev
  clear hgp hev ht
  clear hf HS3 HT3 HE3 HG3 k0 k1 k2 k3 k4 k5 k6
  obtain ⟨⟨k0, k1, k2, k3, k4⟩, k5, k6⟩ := HS4.out.cells
  go_wp2_with fail
  have hdr5 : Below w4.heap.size w4 (World.drew w4) := drew_below_m w4 1 _
  obtain ⟨w5, hw5⟩ : ∃ w5, w5 = World.drew w4 := ⟨_, rfl⟩
  rw [← hw5] at hdr5
  have HS5 := hid2 (HS4.out.below hdr5 h0)
  have HT5 := hid2 (HT4.out.below hdr5)
  have HE5 := hid2 (HE4.out.stays hdr5)
  have HG5 := hid2 (HG4.out.stays hdr5)
  have HP5 := hid2 (HP4.out.stays hdr5)
  have HV5 := hid2 (HV4.out.below hdr5)
  have Hb8 := hid2 (heap_stays Hb8.out hdr5)
  have hS0 : Hid (Two w5 b8 (.int .i64 lim) (.slice p' L'.length cap')) := Hb8
  clear HS4 HT4 HE4 HG4 HP4 HV4 k0 k1 k2 k3 k4 k5 k6
  refine wp_region_held_drew (S := fun W => Two W b8 (.int .i64 lim) (.slice p' L'.length cap')) (by kernel_rfl) (by rw [← hw5]; exact hS0.out) (fun hS => ?_)
  rw [← hw5] at hS ⊢
  clear hw5 hS0
  refine wpAnyH_take (i := 0) (v := (.agg #[.int .i64 lim, .slice p' L'.length cap'])) rfl (by kernel_rfl) (by kernel_rfl) (by kernel_rfl) (fun _ _ _ h => h) (yieldsIf_load_mid (by kernel_rfl) 37 (.tmp 8) rfl b8 0 rfl ([.int .i64 lim, .slice p' L'.length cap']) _ (fun W hw => two_range hw) und_rm.choose_spec rfl (size_rm)) hS ?_
  change wpAnyH _ _ _ _ _ _ _ (Act.put _ (some 49) _) _
  simp only [Act.put, List.setIfInBounds_toArray, List.set_cons_succ, List.set_cons_zero]
  refine wpAnyH_take (i := 1) (v := gp) rfl (by kernel_rfl) (by kernel_rfl) (by kernel_rfl) (fun _ _ _ h => h) (Or.inl ⟨by kernel_rfl, ?_⟩) hS ?_
  · intro w hw; clear hw; go_simp
  change wpAnyH _ _ _ _ _ _ _ (Act.put _ (some 50) _) _
  simp only [Act.put, List.setIfInBounds_toArray, List.set_cons_succ, List.set_cons_zero]
  refine wpAnyH_take (i := 2) (v := gv) rfl (by kernel_rfl) (by kernel_rfl) (by kernel_rfl) (fun _ _ _ h => h) (Or.inl ⟨by kernel_rfl, ?_⟩) hS ?_
  · intro w hw; clear hw; go_simp
  change wpAnyH _ _ _ _ _ _ _ (Act.put _ (some 51) _) _
  simp only [Act.put, List.setIfInBounds_toArray, List.set_cons_succ, List.set_cons_zero]
  refine wpAnyH_ready (rs := [3]) (by kernel_rfl) (by simp) ?_
  refine AllReadyH.cons rfl (fun K hK => ?_) AllReadyH.nil
  go_simp
  go_wp2_with fail
  refine (Ite.sameall_eq HP5.out.es HG5.out.es).mono ?_
  rintro e w6 ⟨rfl, hb6⟩
  have HS6 := hid2 (HS5.out.below hb6 h0)
  have HT6 := hid2 (HT5.out.below hb6)
  have HE6 := hid2 (HE5.out.stays hb6)
  have HV6 := hid2 (HV5.out.below hb6)

  refine hK.out _ _ (Two.stays hS hb6) (fun hS => ?_)
  clear hK K
  skip
  clear hb6
  refine wpAnyH_take (i := 4) (v := .bool true) rfl (by kernel_rfl) (by kernel_rfl) (by kernel_rfl) (fun _ _ _ h => h) (Or.inl ⟨by kernel_rfl, ?_⟩) hS ?_
  · intro w hw; clear hw; go_simp
  change wpAnyH _ _ _ _ _ _ _ (Act.put _ (some 53) _) _
  simp only [Act.put, List.setIfInBounds_toArray, List.set_cons_succ, List.set_cons_zero]
  refine wpAnyH_take (i := 5) (v := ev) rfl (by kernel_rfl) (by kernel_rfl) (by kernel_rfl) (fun _ _ _ h => h) (Or.inl ⟨by kernel_rfl, ?_⟩) hS ?_
  · intro w hw; clear hw; go_simp
  change wpAnyH _ _ _ _ _ _ _ (Act.put _ (some 54) _) _
  simp only [Act.put, List.setIfInBounds_toArray, List.set_cons_succ, List.set_cons_zero]
  refine wpAnyH_take (i := 7) (v := .int .i64 cd) rfl (by kernel_rfl) (by kernel_rfl) (by kernel_rfl) (fun _ _ _ h => h) (Or.inl ⟨by kernel_rfl, ?_⟩) hS ?_
  · intro w hw; clear hw; go_simp
  change wpAnyH _ _ _ _ _ _ _ (Act.put _ (some 56) _) _
  simp only [Act.put, List.setIfInBounds_toArray, List.set_cons_succ, List.set_cons_zero]
  refine wpAnyH_ready (rs := [6]) (by kernel_rfl) (by simp) ?_
  refine AllReadyH.cons rfl (fun K hK => ?_) AllReadyH.nil
  go_simp
  go_wp2_with fail
  refine (Ite.of_code HS6.out.er HV6.out.fault).mono ?_
  rintro e w7 ⟨rfl, hb7⟩
  have HS7 := hid2 (HS6.out.below hb7 h0)
  have HT7 := hid2 (HT6.out.below hb7)
  have HE7 := hid2 (HE6.out.stays hb7)

  refine hK.out _ _ (Two.stays hS hb7) (fun hS => ?_)
  clear hK K
  skip
  clear hb7
  refine wpAnyH_take (i := 8) (v := .bool true) rfl (by kernel_rfl) (by kernel_rfl) (by kernel_rfl) (fun _ _ _ h => h) (Or.inl ⟨by kernel_rfl, ?_⟩) hS ?_
  · intro w hw; clear hw; go_simp
  change wpAnyH _ _ _ _ _ _ _ (Act.put _ (some 57) _) _
  simp only [Act.put, List.setIfInBounds_toArray, List.set_cons_succ, List.set_cons_zero]
  refine wpAnyH_take (i := 9) (v := .bool true) rfl (by kernel_rfl) (by kernel_rfl) (by kernel_rfl) (fun _ _ _ h => h) (Or.inl ⟨by kernel_rfl, ?_⟩) hS ?_
  · intro w hw; clear hw; go_simp
  change wpAnyH _ _ _ _ _ _ _ (Act.put _ (some 58) _) _
  simp only [Act.put, List.setIfInBounds_toArray, List.set_cons_succ, List.set_cons_zero]
  refine wpAnyH_ready (rs := [10]) (by kernel_rfl) (by simp) ?_
  refine AllReadyH.cons rfl (fun K hK => ?_) AllReadyH.nil
  refine step_st37 rfl (.tmp 6) (.tmp 49) rfl (w.heap.size + 2) rfl _ _ _ HS7.out.z rfl rfl ⟨rfl, rfl⟩ ?_
  intro wz TZ gz
  refine hK.out _ _ (Two.grown hS gz (by simp; have := HLb8.out; omega)) (fun hS => ?_)
  clear hK K
  change wpAnyH _ _ _ _ _ _ _ (Act.put _ (none) _) _
  simp only [Act.put]
  refine wpAnyH_take (i := 11) (v := .bool true) rfl (by kernel_rfl) (by kernel_rfl) (by kernel_rfl) (fun _ _ _ h => h) (Or.inl ⟨by kernel_rfl, ?_⟩) hS ?_
  · intro w hw; clear hw; go_simp
  change wpAnyH _ _ _ _ _ _ _ (Act.put _ (some 7) _) _
  simp only [Act.put, List.setIfInBounds_toArray, List.set_cons_succ, List.set_cons_zero]
  refine wpAnyH_done (by kernel_rfl) ?_ _
  go_wp2_with fail
  have fz := HS7.out.fr.box gz (Nat.le_add_right _ _)
  have tz := HT7.out.boxed gz (Nat.le_trans hBw (Nat.le_add_right _ _)) HS7.out.z.tag good_rm
  have ez := HE7.out.box2 gz (Nat.le_trans hBw (Nat.le_add_right _ _)) HS7.out.z.tag (by decide) (by decide)
  refine bodyPost_ret (results_rm Tryz.results13 _ _ (w.heap.size + 2) rfl _ _ TZ _ rfl) rfl ⟨p', cap', true, rfl, rfl, ez, HZ'.out, tz, fz⟩
  trace_state
end Go.Proofs.YtkgecpplgjfhiaaGreatDoor
