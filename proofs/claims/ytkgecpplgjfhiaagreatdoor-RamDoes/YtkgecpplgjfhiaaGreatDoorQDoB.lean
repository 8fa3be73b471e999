/-
  An act of the law, both ways: Get.
-/
import Derived.Test.YtkgecpplgjfhiaaGreatDoorQDoS
namespace Go.Proofs.YtkgecpplgjfhiaaGreatDoor
open Go.RowKit
open Ite (Ent zeroE checkE sizeE)
open Lis (Lst but Tag)
variable {w : World} {B g : Nat} {lim : Int} {L R : List Ent} {M : Nat} {p : Option Addr} {cap : Nat} {x : Ent} {q : Option Addr} {c : Nat} {kd now : Int}

set_option maxHeartbeats 4000000 in
set_option maxRecDepth 10000 in
theorem do_get (h : Tier w B g lim L M) (hM : M ≤ 900) (hE : Es w B (.slice p R.length cap) R) (hz : p = none → cap = 0) (hR : R.length ≤ 640) (hx : Bq w B (.slice q x.val.length c) x.val) (he : ErrT w) (h0 : 0 < B) (hkk : x.key.size ≤ 1000) (_hkv : x.val.length ≤ 5000) :
    Calls Tryz.prog 13 #[.pointer (some ⟨g, 0, none⟩), .agg #[.int .i64 lim, .slice p R.length cap], .agg #[.int .i64 1, .string x.key, .int .i64 x.ver, .int .i64 x.asof, .int .i64 x.ends, .slice q x.val.length c, .int .i64 now]] w fun e w' => ∃ p' cap' b, e = .returned (.tuple #[.agg #[.int .i64 lim, .slice p' ((getP R x.key now).1).length cap'], .bool b]) ∧ (L = R → b = true) ∧ Es w' B (.slice p' ((getP R x.key now).1).length cap') ((getP R x.key now).1) ∧ (p' = none → cap' = 0) ∧ Tier w' B g lim ((getP L x.key now).1) (M + 1) ∧ Fr B w w' := by
  have hfine := h.fine
  have hBw : B ≤ w.heap.size := Nat.le_of_lt hfine.2.2.2.2.2.2
  obtain ⟨S0, A0⟩ := do_start (lim := lim) (p := p) (R := R) (cap := cap) (kd := 1) (x := x) (q := q) (c := c) (now := now) hE hx he h0 hBw
  have HT1 := hid2 (h.below A0)
  have HS1 := hid2 S0
  have HZ := hid2 hz
  have HF := hid2 hfine
  have HH := hid2 h
  obtain ⟨w1, hw1⟩ : ∃ w1, w1 = (((w.alloc (.cells #[.int .i64 lim, .slice p R.length cap] 37)).alloc (.cells #[.int .i64 1, .string x.key, .int .i64 x.ver, .int .i64 x.asof, .int .i64 x.ends, .slice q x.val.length c, .int .i64 now] 44)).alloc (.cells #[.int .i64 0, .slice none 0 0] 37)) := ⟨_, rfl⟩
  have HW := hid2 hw1
  rw [← hw1] at HT1 HS1
  clear hw1 h hE hz hx he S0 A0 hfine
  obtain ⟨⟨k0, k1, k2, k3, k4⟩, k5, k6⟩ := HS1.out.cells
  go_enter Tryz.func13, Tryz.ntmps13
  have KR := hid2 (fun W (s : DoS w B lim R p cap 1 x q c now W) => rget_t (lim := lim) s.es HZ.out (Nat.le_trans hR (by omega)) (Nat.le_trans hBw s.fr.size) x.key now)
  have KP := hid2 (fun W (t : Tier W B g lim L M) => get_t t hM x.key now hkk)
  generalize hgr : getP R x.key now = sr at *
  generalize hgl : getP L x.key now = sl at *
  obtain ⟨R', xr, br⟩ := sr
  obtain ⟨L', xl, bl⟩ := sl
  have HGR := hid2 hgr
  have HGL := hid2 hgl
  dsimp only at KR KP ⊢
  clear hgr hgl
  go_upto_region 1 with fail
  rw [← HW.out]
  clear HW
  go_wp2_with ((refine wpList_load_mid rfl 37 (.tmp 4) rfl w.heap.size 0 rfl _ _ k5 und_rm.choose_spec rfl size_rm ?_))
  refine (show Calls _ _ _ _ _ from KR.out _ HS1.out).mono ?_
  rintro e w2 ⟨p', cap', qr, cr, rfl, hes, hz', hqr, hb⟩
  have HS2 := hid2 (HS1.out.below hb h0)
  have HT2 := hid2 (HT1.out.below hb)
  have HE2 := hid2 hes
  have HX2 := hid2 hqr
  have HZ' := hid2 hz'
  clear hes hqr hz'
  clear hb HS1 HT1 k0 k1 k2 k3 k4 k5 k6
  obtain ⟨⟨k0, k1, k2, k3, k4⟩, k5, k6⟩ := HS2.out.cells
  go_upto_region 8 with fail
  obtain ⟨wm3, hwm3⟩ : ∃ wm3, wm3 = w2.alloc (.cells #[.int .i64 lim, .slice p' R'.length cap'] 37) := ⟨_, rfl⟩
  rw [← hwm3]
  obtain ⟨w3, hw3⟩ : ∃ w3, w3 = wm3.alloc (.cells #[.string xr.key, .int .i64 xr.ver, .int .i64 xr.asof, .int .i64 xr.ends, .slice qr xr.val.length cr] 25) := ⟨_, rfl⟩
  rw [← hw3]
  obtain ⟨b13, hb13⟩ : ∃ b13, b13 = w2.heap.size := ⟨_, rfl⟩
  rw [← hb13]
  obtain ⟨b14, hb14⟩ : ∃ b14, b14 = b13 + 1 := ⟨_, rfl⟩
  rw [← hb14]
  have A13 : Below w2.heap.size w2 wm3 := by rw [hwm3]; go_grown
  have sz3 : wm3.heap.size = b14 := by rw [hb14, hb13, hwm3]; simp
  have A23 : Below wm3.heap.size wm3 w3 := by rw [hw3]; go_grown
  have Hb13 : Hid (w3.heap[b13]? = some (.cells #[.int .i64 lim, .slice p' R'.length cap'] 37 (0, 0))) := by
    have e : wm3.heap[b13]? = some (.cells #[.int .i64 lim, .slice p' R'.length cap'] 37 (0, 0)) := by rw [hwm3, hb13]; exact heap_alloc_new w2 _
    exact heap_stays e A23
  have Hb14 : Hid (w3.heap[b14]? = some (.cells #[.string xr.key, .int .i64 xr.ver, .int .i64 xr.asof, .int .i64 xr.ends, .slice qr xr.val.length cr] 25 (0, 0))) := by show _ = _; rw [hw3, ← sz3]; exact heap_alloc_new wm3 _
  have A3 := A13.trans (A23.mono A13.size)
  have HLb13 : Hid (w.heap.size + 2 < b13) := by show _ < _; rw [hb13]; exact k0
  have HLb14 : Hid (w.heap.size + 2 < b14) := by show _ < _; rw [hb14, hb13]; omega
  have HS3 := hid2 (HS2.out.below A3 h0)
  have HT3 := hid2 (HT2.out.below A3)
  have HE3 := hid2 (HE2.out.stays A3)
  have HX3 := hid2 (HX2.out.stays A3)
  clear hwm3 hw3 hb13 hb14 A3 A13 A23 sz3 HS2 HT2 HE2 HX2 k0 k1 k2 k3 k4 k5 k6
  obtain ⟨⟨k0, k1, k2, k3, k4⟩, k5, k6⟩ := HS3.out.cells
  go_wp2_with fail
  refine (show Calls _ _ _ _ _ from KP.out _ HT3.out).mono ?_
  rintro e w4 ⟨ql, cl, rfl, hql, hf, ht⟩
  have HS4 := hid2 (HS3.out.next hf h0)
  have HT4 := hid2 ht
  have HE4 := hid2 (HE3.out.fr hf)
  have HX4 := hid2 (HX3.out.fr hf)
  have Hb13 := hid2 (hf.ent Hb13.out (by decide))
  have Hb14 := hid2 (hf.ent Hb14.out (by decide))
  have HY4 := hid2 hql
  clear hql ht
  clear hf HS3 HT3 HE3 HX3 k0 k1 k2 k3 k4 k5 k6
  obtain ⟨⟨k0, k1, k2, k3, k4⟩, k5, k6⟩ := HS4.out.cells
  go_wp2_with fail
  obtain ⟨w5, hw5⟩ : ∃ w5, w5 = w4.alloc (.cells #[.string xl.key, .int .i64 xl.ver, .int .i64 xl.asof, .int .i64 xl.ends, .slice ql xl.val.length cl] 25) := ⟨_, rfl⟩
  rw [← hw5]
  obtain ⟨b16, hb16⟩ : ∃ b16, b16 = w4.heap.size := ⟨_, rfl⟩
  rw [← hb16]
  have A5 : Below w4.heap.size w4 w5 := by rw [hw5]; go_grown
  have Hb16 : Hid (w5.heap[b16]? = some (.cells #[.string xl.key, .int .i64 xl.ver, .int .i64 xl.asof, .int .i64 xl.ends, .slice ql xl.val.length cl] 25 (0, 0))) := by show _ = _; rw [hw5, hb16]; exact heap_alloc_new w4 _
  have HLb16 : Hid (w.heap.size + 2 < b16) := by show _ < _; rw [hb16]; exact k0
  have HS5 := hid2 (HS4.out.below A5 h0)
  have HT5 := hid2 (HT4.out.below A5)
  have HE5 := hid2 (HE4.out.stays A5)
  have HX5 := hid2 (HX4.out.stays A5)
  have HY5 := hid2 (HY4.out.stays A5)
  have hA5 := A5
  clear hw5 hb16 A5 HS4 HT4 HE4 HX4 HY4 k0 k1 k2 k3 k4 k5 k6
  obtain ⟨⟨k0, k1, k2, k3, k4⟩, k5, k6⟩ := HS5.out.cells
  have Hb13 := hid2 (heap_stays Hb13.out hA5)
  have Hb14 := hid2 (heap_stays Hb14.out hA5)
  have hdr6 : Below w5.heap.size w5 (World.drew w5) := drew_below_m w5 1 _
  obtain ⟨w6, hw6⟩ : ∃ w6, w6 = World.drew w5 := ⟨_, rfl⟩
  rw [← hw6] at hdr6
  have HS6 := hid2 (HS5.out.below hdr6 h0)
  have HT6 := hid2 (HT5.out.below hdr6)
  have HE6 := hid2 (HE5.out.stays hdr6)
  have HX6 := hid2 (HX5.out.stays hdr6)
  have HY6 := hid2 (HY5.out.stays hdr6)
  have Hb13 := hid2 (heap_stays Hb13.out hdr6)
  have Hb14 := hid2 (heap_stays Hb14.out hdr6)
  have Hb16 := hid2 (heap_stays Hb16.out hdr6)
  have hS0 : Hid ((fun W => Two W b13 (.int .i64 lim) (.slice p' R'.length cap') ∧ W.heap[b14]? = some (.cells #[.string xr.key, .int .i64 xr.ver, .int .i64 xr.asof, .int .i64 xr.ends, .slice qr xr.val.length cr] 25 (0, 0)) ∧ W.heap[b16]? = some (.cells #[.string xl.key, .int .i64 xl.ver, .int .i64 xl.asof, .int .i64 xl.ends, .slice ql xl.val.length cl] 25 (0, 0))) w6) := ⟨Hb13.out, Hb14.out, Hb16.out⟩
  have KS := hid2 (Ite.rsame6_any xr.key xl.key xr.ver xr.asof xr.ends xl.ver xl.asof xl.ends HX6.out.bs HY6.out.bs)
  generalize hsb : Ite.sameB xr.key xl.key xr.ver xr.asof xr.ends xl.ver xl.asof xl.ends xr.val xl.val = sb at *
  have HSB := hid2 hsb
  clear hA5 HS5 HT5 HE5 HX5 HY5 hsb k0 k1 k2 k3 k4 k5 k6
  cases sb with
  | true =>
    refine wp_region_held_drew (S := fun W => Two W b13 (.int .i64 lim) (.slice p' R'.length cap') ∧ W.heap[b14]? = some (.cells #[.string xr.key, .int .i64 xr.ver, .int .i64 xr.asof, .int .i64 xr.ends, .slice qr xr.val.length cr] 25 (0, 0)) ∧ W.heap[b16]? = some (.cells #[.string xl.key, .int .i64 xl.ver, .int .i64 xl.asof, .int .i64 xl.ends, .slice ql xl.val.length cl] 25 (0, 0))) (by kernel_rfl) (by rw [← hw6]; exact hS0.out) (fun hS => ?_)
    rw [← hw6] at hS ⊢
    clear hw6 hS0
    refine wpAnyH_take (i := 0) (v := (.agg #[.int .i64 lim, .slice p' R'.length cap'])) rfl (by kernel_rfl) (by kernel_rfl) (by kernel_rfl) (fun _ _ _ h => h) (yieldsIf_load_mid (by kernel_rfl) 37 (.tmp 13) rfl b13 0 rfl ([.int .i64 lim, .slice p' R'.length cap']) _ (fun W hw => two_range hw.1) und_rm.choose_spec rfl (size_rm)) hS ?_
    change wpAnyH _ _ _ _ _ _ _ (Act.put _ (some 82) _) _
    simp only [Act.put, List.setIfInBounds_toArray, List.set_cons_succ, List.set_cons_zero]
    refine wpAnyH_take (i := 1) (v := (.agg #[.string xr.key, .int .i64 xr.ver, .int .i64 xr.asof, .int .i64 xr.ends, .slice qr xr.val.length cr])) rfl (by kernel_rfl) (by kernel_rfl) (by kernel_rfl) (fun _ _ _ h => h) (yieldsIf_load_mid (by kernel_rfl) 25 (.tmp 14) rfl b14 0 rfl ([.string xr.key, .int .i64 xr.ver, .int .i64 xr.asof, .int .i64 xr.ends, .slice qr xr.val.length cr]) _ (fun W hw => box_range hw.2.1) Ite.Tryz.und24.choose_spec rfl (Ite.Tryz.size24)) hS ?_
    change wpAnyH _ _ _ _ _ _ _ (Act.put _ (some 83) _) _
    simp only [Act.put, List.setIfInBounds_toArray, List.set_cons_succ, List.set_cons_zero]
    refine wpAnyH_take (i := 2) (v := (.agg #[.string xl.key, .int .i64 xl.ver, .int .i64 xl.asof, .int .i64 xl.ends, .slice ql xl.val.length cl])) rfl (by kernel_rfl) (by kernel_rfl) (by kernel_rfl) (fun _ _ _ h => h) (yieldsIf_load_mid (by kernel_rfl) 25 (.tmp 16) rfl b16 0 rfl ([.string xl.key, .int .i64 xl.ver, .int .i64 xl.asof, .int .i64 xl.ends, .slice ql xl.val.length cl]) _ (fun W hw => box_range hw.2.2) Ite.Tryz.und24.choose_spec rfl (Ite.Tryz.size24)) hS ?_
    change wpAnyH _ _ _ _ _ _ _ (Act.put _ (some 84) _) _
    simp only [Act.put, List.setIfInBounds_toArray, List.set_cons_succ, List.set_cons_zero]
    refine wpAnyH_ready (rs := [3]) (by kernel_rfl) (by simp) ?_
    refine AllReadyH.cons rfl (fun K hK => ?_) AllReadyH.nil
    go_simp
    go_wp2_with fail
    refine (show Calls _ _ _ _ _ from KS.out).mono ?_
    rintro e w7 ⟨rfl, hb7⟩
    have HS7 := hid2 (HS6.out.below hb7 h0)
    have HT7 := hid2 (HT6.out.below hb7)
    have HE7 := hid2 (HE6.out.stays hb7)

    refine hK.out _ _ (⟨Two.stays hS.1 hb7, heap_stays hS.2.1 hb7, heap_stays hS.2.2 hb7⟩) (fun hS => ?_)
    clear hK K
    skip
    clear hb7
    refine wpAnyH_take (i := 4) (v := .bool true) rfl (by kernel_rfl) (by kernel_rfl) (by kernel_rfl) (fun _ _ _ h => h) (Or.inl ⟨by kernel_rfl, ?_⟩) hS ?_
    · intro w hw; clear hw; go_simp
    change wpAnyH _ _ _ _ _ _ _ (Act.put _ (some 86) _) _
    simp only [Act.put, List.setIfInBounds_toArray, List.set_cons_succ, List.set_cons_zero]
    refine wpAnyH_take (i := 5) (v := .bool br) rfl (by kernel_rfl) (by kernel_rfl) (by kernel_rfl) (fun _ _ _ h => h) (Or.inl ⟨by kernel_rfl, ?_⟩) hS ?_
    · intro w hw; clear hw; go_simp
    change wpAnyH _ _ _ _ _ _ _ (Act.put _ (some 87) _) _
    simp only [Act.put, List.setIfInBounds_toArray, List.set_cons_succ, List.set_cons_zero]
    refine wpAnyH_take (i := 6) (v := .bool bl) rfl (by kernel_rfl) (by kernel_rfl) (by kernel_rfl) (fun _ _ _ h => h) (Or.inl ⟨by kernel_rfl, ?_⟩) hS ?_
    · intro w hw; clear hw; go_simp
    change wpAnyH _ _ _ _ _ _ _ (Act.put _ (some 88) _) _
    simp only [Act.put, List.setIfInBounds_toArray, List.set_cons_succ, List.set_cons_zero]
    refine wpAnyH_take (i := 7) (v := .bool (br == bl)) rfl (by kernel_rfl) (by kernel_rfl) (by kernel_rfl) (fun _ _ _ h => h) (Or.inl ⟨by kernel_rfl, ?_⟩) hS ?_
    · intro w hw; clear hw; go_simp
    change wpAnyH _ _ _ _ _ _ _ (Act.put _ (some 89) _) _
    simp only [Act.put, List.setIfInBounds_toArray, List.set_cons_succ, List.set_cons_zero]
    refine wpAnyH_take (i := 8) (v := .bool (br == bl)) rfl (by kernel_rfl) (by kernel_rfl) (by kernel_rfl) (fun _ _ _ h => h) (Or.inl ⟨by kernel_rfl, ?_⟩) hS ?_
    · intro w hw; clear hw; go_simp
    change wpAnyH _ _ _ _ _ _ _ (Act.put _ (some 90) _) _
    simp only [Act.put, List.setIfInBounds_toArray, List.set_cons_succ, List.set_cons_zero]
    refine wpAnyH_ready (rs := [9]) (by kernel_rfl) (by simp) ?_
    refine AllReadyH.cons rfl (fun K hK => ?_) AllReadyH.nil
    refine step_st37 rfl (.tmp 6) (.tmp 82) rfl (w.heap.size + 2) rfl _ _ _ HS7.out.z rfl rfl ⟨rfl, rfl⟩ ?_
    intro wz TZ gz
    refine hK.out _ _ (⟨Two.grown hS.1 gz (by simp; have := HLb13.out; omega), (by rw [gz.block _ (lt_of_block hS.2.1) (by simp; have := HLb14.out; omega)]; exact hS.2.1), (by rw [gz.block _ (lt_of_block hS.2.2) (by simp; have := HLb16.out; omega)]; exact hS.2.2)⟩) (fun hS => ?_)
    clear hK K
    change wpAnyH _ _ _ _ _ _ _ (Act.put _ (none) _) _
    simp only [Act.put]
    refine wpAnyH_take (i := 10) (v := .bool (br == bl)) rfl (by kernel_rfl) (by kernel_rfl) (by kernel_rfl) (fun _ _ _ h => h) (Or.inl ⟨by kernel_rfl, ?_⟩) hS ?_
    · intro w hw; clear hw; go_simp
    change wpAnyH _ _ _ _ _ _ _ (Act.put _ (some 7) _) _
    simp only [Act.put, List.setIfInBounds_toArray, List.set_cons_succ, List.set_cons_zero]
    refine wpAnyH_done (by kernel_rfl) ?_ _
    go_wp2_with fail
    have fz := HS7.out.fr.box gz (Nat.le_add_right _ _)
    have tz := HT7.out.boxed gz (Nat.le_trans hBw (Nat.le_add_right _ _)) HS7.out.z.tag good_rm
    have ez := HE7.out.box2 gz (Nat.le_trans hBw (Nat.le_add_right _ _)) HS7.out.z.tag (by decide) (by decide)
    refine bodyPost_ret (results_rm Tryz.results13 _ _ (w.heap.size + 2) rfl _ _ TZ _ rfl) rfl ⟨p', cap', (br == bl), rfl, (fun e => by have e1 := HGR.out; rw [← e, HGL.out] at e1; cases e1; simp), ez, HZ'.out, tz, fz⟩
  | false =>
    refine wp_region_held_drew (S := fun W => Two W b13 (.int .i64 lim) (.slice p' R'.length cap') ∧ W.heap[b14]? = some (.cells #[.string xr.key, .int .i64 xr.ver, .int .i64 xr.asof, .int .i64 xr.ends, .slice qr xr.val.length cr] 25 (0, 0)) ∧ W.heap[b16]? = some (.cells #[.string xl.key, .int .i64 xl.ver, .int .i64 xl.asof, .int .i64 xl.ends, .slice ql xl.val.length cl] 25 (0, 0))) (by kernel_rfl) (by rw [← hw6]; exact hS0.out) (fun hS => ?_)
    rw [← hw6] at hS ⊢
    clear hw6 hS0
    refine wpAnyH_take (i := 0) (v := (.agg #[.int .i64 lim, .slice p' R'.length cap'])) rfl (by kernel_rfl) (by kernel_rfl) (by kernel_rfl) (fun _ _ _ h => h) (yieldsIf_load_mid (by kernel_rfl) 37 (.tmp 13) rfl b13 0 rfl ([.int .i64 lim, .slice p' R'.length cap']) _ (fun W hw => two_range hw.1) und_rm.choose_spec rfl (size_rm)) hS ?_
    change wpAnyH _ _ _ _ _ _ _ (Act.put _ (some 82) _) _
    simp only [Act.put, List.setIfInBounds_toArray, List.set_cons_succ, List.set_cons_zero]
    refine wpAnyH_take (i := 1) (v := (.agg #[.string xr.key, .int .i64 xr.ver, .int .i64 xr.asof, .int .i64 xr.ends, .slice qr xr.val.length cr])) rfl (by kernel_rfl) (by kernel_rfl) (by kernel_rfl) (fun _ _ _ h => h) (yieldsIf_load_mid (by kernel_rfl) 25 (.tmp 14) rfl b14 0 rfl ([.string xr.key, .int .i64 xr.ver, .int .i64 xr.asof, .int .i64 xr.ends, .slice qr xr.val.length cr]) _ (fun W hw => box_range hw.2.1) Ite.Tryz.und24.choose_spec rfl (Ite.Tryz.size24)) hS ?_
    change wpAnyH _ _ _ _ _ _ _ (Act.put _ (some 83) _) _
    simp only [Act.put, List.setIfInBounds_toArray, List.set_cons_succ, List.set_cons_zero]
    refine wpAnyH_take (i := 2) (v := (.agg #[.string xl.key, .int .i64 xl.ver, .int .i64 xl.asof, .int .i64 xl.ends, .slice ql xl.val.length cl])) rfl (by kernel_rfl) (by kernel_rfl) (by kernel_rfl) (fun _ _ _ h => h) (yieldsIf_load_mid (by kernel_rfl) 25 (.tmp 16) rfl b16 0 rfl ([.string xl.key, .int .i64 xl.ver, .int .i64 xl.asof, .int .i64 xl.ends, .slice ql xl.val.length cl]) _ (fun W hw => box_range hw.2.2) Ite.Tryz.und24.choose_spec rfl (Ite.Tryz.size24)) hS ?_
    change wpAnyH _ _ _ _ _ _ _ (Act.put _ (some 84) _) _
    simp only [Act.put, List.setIfInBounds_toArray, List.set_cons_succ, List.set_cons_zero]
    refine wpAnyH_ready (rs := [3]) (by kernel_rfl) (by simp) ?_
    refine AllReadyH.cons rfl (fun K hK => ?_) AllReadyH.nil
    go_simp
    go_wp2_with fail
    refine (show Calls _ _ _ _ _ from KS.out).mono ?_
    rintro e w7 ⟨rfl, hb7⟩
    have HS7 := hid2 (HS6.out.below hb7 h0)
    have HT7 := hid2 (HT6.out.below hb7)
    have HE7 := hid2 (HE6.out.stays hb7)

    refine hK.out _ _ (⟨Two.stays hS.1 hb7, heap_stays hS.2.1 hb7, heap_stays hS.2.2 hb7⟩) (fun hS => ?_)
    clear hK K
    skip
    clear hb7
    refine wpAnyH_take (i := 4) (v := .bool false) rfl (by kernel_rfl) (by kernel_rfl) (by kernel_rfl) (fun _ _ _ h => h) (Or.inl ⟨by kernel_rfl, ?_⟩) hS ?_
    · intro w hw; clear hw; go_simp
    change wpAnyH _ _ _ _ _ _ _ (Act.put _ (some 86) _) _
    simp only [Act.put, List.setIfInBounds_toArray, List.set_cons_succ, List.set_cons_zero]
    refine wpAnyH_take (i := 5) (v := undef) rfl (by kernel_rfl) (by kernel_rfl) (by kernel_rfl) (fun _ _ _ h => h) (Or.inr ⟨by kernel_rfl, rfl⟩) hS ?_
    change wpAnyH _ _ _ _ _ _ _ (Act.put _ (some 87) _) _
    simp only [Act.put, List.setIfInBounds_toArray, List.set_cons_succ, List.set_cons_zero]
    refine wpAnyH_take (i := 6) (v := undef) rfl (by kernel_rfl) (by kernel_rfl) (by kernel_rfl) (fun _ _ _ h => h) (Or.inr ⟨by kernel_rfl, rfl⟩) hS ?_
    change wpAnyH _ _ _ _ _ _ _ (Act.put _ (some 88) _) _
    simp only [Act.put, List.setIfInBounds_toArray, List.set_cons_succ, List.set_cons_zero]
    refine wpAnyH_take (i := 7) (v := undef) rfl (by kernel_rfl) (by kernel_rfl) (by kernel_rfl) (fun _ _ _ h => h) (Or.inr ⟨by kernel_rfl, rfl⟩) hS ?_
    change wpAnyH _ _ _ _ _ _ _ (Act.put _ (some 89) _) _
    simp only [Act.put, List.setIfInBounds_toArray, List.set_cons_succ, List.set_cons_zero]
    refine wpAnyH_take (i := 8) (v := .bool false) rfl (by kernel_rfl) (by kernel_rfl) (by kernel_rfl) (fun _ _ _ h => h) (Or.inl ⟨by kernel_rfl, ?_⟩) hS ?_
    · intro w hw; clear hw; go_simp
    change wpAnyH _ _ _ _ _ _ _ (Act.put _ (some 90) _) _
    simp only [Act.put, List.setIfInBounds_toArray, List.set_cons_succ, List.set_cons_zero]
    refine wpAnyH_ready (rs := [9]) (by kernel_rfl) (by simp) ?_
    refine AllReadyH.cons rfl (fun K hK => ?_) AllReadyH.nil
    refine step_st37 rfl (.tmp 6) (.tmp 82) rfl (w.heap.size + 2) rfl _ _ _ HS7.out.z rfl rfl ⟨rfl, rfl⟩ ?_
    intro wz TZ gz
    refine hK.out _ _ (⟨Two.grown hS.1 gz (by simp; have := HLb13.out; omega), (by rw [gz.block _ (lt_of_block hS.2.1) (by simp; have := HLb14.out; omega)]; exact hS.2.1), (by rw [gz.block _ (lt_of_block hS.2.2) (by simp; have := HLb16.out; omega)]; exact hS.2.2)⟩) (fun hS => ?_)
    clear hK K
    change wpAnyH _ _ _ _ _ _ _ (Act.put _ (none) _) _
    simp only [Act.put]
    refine wpAnyH_take (i := 10) (v := .bool false) rfl (by kernel_rfl) (by kernel_rfl) (by kernel_rfl) (fun _ _ _ h => h) (Or.inl ⟨by kernel_rfl, ?_⟩) hS ?_
    · intro w hw; clear hw; go_simp
    change wpAnyH _ _ _ _ _ _ _ (Act.put _ (some 7) _) _
    simp only [Act.put, List.setIfInBounds_toArray, List.set_cons_succ, List.set_cons_zero]
    refine wpAnyH_done (by kernel_rfl) ?_ _
    go_wp2_with fail
    have fz := HS7.out.fr.box gz (Nat.le_add_right _ _)
    have tz := HT7.out.boxed gz (Nat.le_trans hBw (Nat.le_add_right _ _)) HS7.out.z.tag good_rm
    have ez := HE7.out.box2 gz (Nat.le_trans hBw (Nat.le_add_right _ _)) HS7.out.z.tag (by decide) (by decide)
    refine bodyPost_ret (results_rm Tryz.results13 _ _ (w.heap.size + 2) rfl _ _ TZ _ rfl) rfl ⟨p', cap', false, rfl, (fun e => by have e1 := HGR.out; rw [← e, HGL.out] at e1; cases e1; have e2 := HSB.out; rw [Ite.sameB_self] at e2; cases e2), ez, HZ'.out, tz, fz⟩
end Go.Proofs.YtkgecpplgjfhiaaGreatDoor
