/-
  The document's tier: Set, where it says no.
-/
import Derived.Test.YtkgecpplgjfhiaaGreatDoorQRefD
namespace Go.Proofs.YtkgecpplgjfhiaaGreatDoor
open Go.RowKit
open Ite (Ent zeroE checkE sizeE)
open Lis (Lst but Tag)

theorem results_3b {fn : Func} {p1 u v : Tmp} {t1 : TypeId} (h : fn.results = #[.cell p1 t1, .tmp u, .tmp v]) (tmps : Array Value) (P : Program) (w : World) :
    (results fn tmps).run P w = ((asAddr (tmps.getD p1 undef)).run P w).andThen fun a w₁ => ((loadVar t1 a).run P w₁).andThen fun v1 w₂ => .ok (.tuple #[v1, tmps.getD u undef, tmps.getD v undef]) w₂ := by
  simp only [results, h]
  simp [Sem.run_bind, Result.andThen]
theorem results_set {fn : Func} {p1 u v : Tmp} (h : fn.results = #[.cell p1 37, .tmp u, .tmp v]) (tmps : Array Value) (w : World) (b1 : Nat) (h1 : tmps.getD p1 undef = .pointer (some ⟨b1, 0, none⟩)) (y0 y1 a b : Value) (hc1 : Two w b1 y0 y1) (ha : tmps.getD u undef = a) (hb : tmps.getD v undef = b) : (results fn tmps).run Tryz.prog w = .ok (.tuple #[.agg #[y0, y1], a, b]) w := by
  rw [results_3b h, h1, ha, hb]
  simp only [asAddr, Sem.run_pure, Result.andThen_ok, load37 w b1 y0 y1 _ _ hc1]
theorem Es.rg {w w' : World} {B : Nat} {p : Option Addr} {m cap : Nat} {xs : List Ent} (h : Es w B (.slice p m cap) xs) (r : Rg 25 B w w') (e : ∀ a, p = some a → w'.heap[a.block]? = w.heap[a.block]?) : Es w' B (.slice p m cap) xs := by
  obtain ⟨p', cap', h1, h2, h3, h4⟩ := h
  cases h1
  refine ⟨p, cap, rfl, h2, h3, fun i x hx => ?_⟩
  obtain ⟨b, off, q, c, e1, e2, e3, a0, a1, a2, a3, a4, a5⟩ := h4 i x hx
  have e := e _ e1
  exact ⟨b, off, q, c, e1, Nat.lt_of_lt_of_le e2 r.size, e3.imp id fun k => k.same e, (cell_eq e _).trans a0, (cell_eq e _).trans a1, (cell_eq e _).trans a2, (cell_eq e _).trans a3, (cell_eq e _).trans a4, r.bq (by decide) _ _ a5⟩

set_option maxHeartbeats 1000000 in
set_option maxRecDepth 8000 in
theorem rfits_t {w : World} {lim : Int} {p : Option Addr} {m cap : Nat} (x : Ent) {q : Option Addr} {c : Nat} (he : checkE x = 0) (hx : Ite.Bs w (.slice q x.val.length c) x.val) :
    Calls Tryz.prog 19 #[.agg #[.int .i64 lim, .slice p m cap], .agg #[.string x.key, .int .i64 x.ver, .int .i64 x.asof, .int .i64 x.ends, .slice q x.val.length c]] w fun e w' => e = .returned (.bool (fitsX lim x)) ∧ Below w.heap.size w w' := by
  obtain ⟨g, hg⟩ : ∃ g, g = w.heap.size := ⟨_, rfl⟩
  obtain ⟨wa, hwa⟩ : ∃ wa, wa = w.alloc (.cells #[.int .i64 lim, .slice p m cap] 37) := ⟨_, rfl⟩
  obtain ⟨wb, hwb⟩ : ∃ wb, wb = wa.alloc (.cells #[.string x.key, .int .i64 x.ver, .int .i64 x.asof, .int .i64 x.ends, .slice q x.val.length c] 25) := ⟨_, rfl⟩
  have sa : wa.heap.size = g + 1 := by rw [hwa, hg]; simp
  have A1 : Below w.heap.size w wa := by rw [hwa]; go_grown
  have A2 : Below wa.heap.size wa wb := by rw [hwb]; go_grown
  have Za : Two wa g (.int .i64 lim) (.slice p m cap) := by rw [hwa, hg]; exact heap_alloc_new w _
  have Zb : wb.heap[g + 1]? = some (.cells #[.string x.key, .int .i64 x.ver, .int .i64 x.asof, .int .i64 x.ends, .slice q x.val.length c] 25 (0, 0)) := by rw [hwb, ← sa]; exact heap_alloc_new wa _
  have Z0 := hid2 (Za.stays A2)
  have Z1 := hid2 Zb
  have HB := hid2 (A1.trans (A2.mono A1.size))
  have HX := hid2 (hx.stays (A1.trans (A2.mono A1.size)))
  have HG := hid2 hg
  have HWA := hid2 hwa
  have HWB := hid2 hwb
  have HE := hid2 he
  have hfc := fine_class he
  have hfx : fitsX lim x = decide (tk x ≤ lim) := by unfold fitsX; rw [decide_eq_true hfc.1]; rfl
  rw [hfx]
  have hpos : 0 < tk x := by omega
  have KT := hid2 (fun W (h : Ite.Bs W (.slice q x.val.length c) x.val) => takes_t x q c W he h)
  clear hx A1 A2 Za Zb hwa hwb hg he hfc hfx
  generalize tk x = tx at *
  go_enter Tryz.func19, Tryz.ntmps19
  go_wp2_with fail
  rw [← HWA.out, ← HWB.out, ← HG.out]
  refine wp_region_held_drew (S := fun W => Below wb.heap.size wb W) (by kernel_rfl) (drew_below_m wb 1 _) (fun hS => ?_)
  change wpAnyH _ _ _ _ _ _ _ _ (World.drew _)
  refine wpAnyH_take (i := 0) (v := .agg #[.string x.key, .int .i64 x.ver, .int .i64 x.asof, .int .i64 x.ends, .slice q x.val.length c]) rfl (by kernel_rfl) (by kernel_rfl) (by kernel_rfl) (fun _ _ _ h => h) (yieldsIf_load_mid (by kernel_rfl) 25 (.tmp 3) rfl (g + 1) 0 rfl ([.string x.key, .int .i64 x.ver, .int .i64 x.asof, .int .i64 x.ends, .slice q x.val.length c]) _ (fun W hw => box_range (heap_stays Z1.out hw)) Ite.Tryz.und24.choose_spec rfl (Ite.Tryz.size24)) hS ?_
  change wpAnyH _ _ _ _ _ _ _ (Act.put _ (some 5) _) _
  simp only [Act.put, List.setIfInBounds_toArray, List.set_cons_succ, List.set_cons_zero]
  refine wpAnyH_ready (rs := [1]) (by kernel_rfl) (by simp) ?_
  refine AllReadyH.cons rfl (fun K hK => ?_) AllReadyH.nil
  go_simp
  go_wp2_with fail
  refine (KT.out _ (HX.out.stays hS)).mono ?_
  rintro e w8 ⟨rfl, hb8⟩
  refine hK.out _ _ (Below.trans hS (Below.mono hb8 (Below.size hS))) (fun hS => ?_)
  clear hK K
  skip
  refine wpAnyH_take (i := 2) (v := .bool true) rfl (by kernel_rfl) (by kernel_rfl) (by kernel_rfl) (fun _ _ _ h => h) (Or.inl ⟨by kernel_rfl, ?_⟩) hS ?_
  · intro w hw; clear hw; go_simp
  change wpAnyH _ _ _ _ _ _ _ (Act.put _ (some 7) _) _
  simp only [Act.put, List.setIfInBounds_toArray, List.set_cons_succ, List.set_cons_zero]
  refine wpAnyH_take (i := 3) (v := .bool true) rfl (by kernel_rfl) (by kernel_rfl) (by kernel_rfl) (fun _ _ _ h => h) (Or.inl ⟨by kernel_rfl, ?_⟩) hS ?_
  · intro w hw; clear hw; go_simp
  change wpAnyH _ _ _ _ _ _ _ (Act.put _ (some 8) _) _
  simp only [Act.put, List.setIfInBounds_toArray, List.set_cons_succ, List.set_cons_zero]
  refine wpAnyH_take (i := 4) (v := .agg #[.string x.key, .int .i64 x.ver, .int .i64 x.asof, .int .i64 x.ends, .slice q x.val.length c]) rfl (by kernel_rfl) (by kernel_rfl) (by kernel_rfl) (fun _ _ _ h => h) (yieldsIf_load_mid (by kernel_rfl) 25 (.tmp 3) rfl (g + 1) 0 rfl ([.string x.key, .int .i64 x.ver, .int .i64 x.asof, .int .i64 x.ends, .slice q x.val.length c]) _ (fun W hw => box_range (heap_stays Z1.out hw)) Ite.Tryz.und24.choose_spec rfl (Ite.Tryz.size24)) hS ?_
  change wpAnyH _ _ _ _ _ _ _ (Act.put _ (some 9) _) _
  simp only [Act.put, List.setIfInBounds_toArray, List.set_cons_succ, List.set_cons_zero]
  refine wpAnyH_take (i := 6) (v := .pointer (some ⟨g, 0, none⟩)) rfl (by kernel_rfl) (by kernel_rfl) (by kernel_rfl) (fun _ _ _ h => h) (Or.inl ⟨by kernel_rfl, ?_⟩) hS ?_
  · intro w hw; clear hw; go_simp
  change wpAnyH _ _ _ _ _ _ _ (Act.put _ (some 11) _) _
  simp only [Act.put, List.setIfInBounds_toArray, List.set_cons_succ, List.set_cons_zero]
  refine wpAnyH_take (i := 7) (v := .int .i64 lim) rfl (by kernel_rfl) (by kernel_rfl) (by kernel_rfl) (fun _ _ _ h => h) (Or.inl ⟨by kernel_rfl, ?_⟩) hS ?_
  · intro w hw
    obtain ⟨e0, e1, e2, e3⟩ := (Z0.out.stays hw).cells
    go_simp
  change wpAnyH _ _ _ _ _ _ _ (Act.put _ (some 12) _) _
  simp only [Act.put, List.setIfInBounds_toArray, List.set_cons_succ, List.set_cons_zero]
  refine wpAnyH_ready (rs := [5]) (by kernel_rfl) (by simp) ?_
  refine AllReadyH.cons rfl (fun K hK => ?_) AllReadyH.nil
  go_simp
  go_wp2_with fail
  refine (KT.out _ (HX.out.stays hS)).mono ?_
  rintro e w9 ⟨rfl, hb9⟩
  have HB9 := hid2 (Below.trans hS (Below.mono hb9 (Below.size hS)))
  refine hK.out _ _ (HB9.out) (fun hS => ?_)
  clear hK K
  skip
  refine wpAnyH_take (i := 8) (v := .bool (decide (tx ≤ lim))) rfl (by kernel_rfl) (by kernel_rfl) (by kernel_rfl) (fun _ _ _ h => h) (Or.inl ⟨by kernel_rfl, ?_⟩) hS ?_
  · intro w hw; clear hw; go_simp
  change wpAnyH _ _ _ _ _ _ _ (Act.put _ (some 13) _) _
  simp only [Act.put, List.setIfInBounds_toArray, List.set_cons_succ, List.set_cons_zero]
  refine wpAnyH_take (i := 9) (v := .bool (decide (tx ≤ lim))) rfl (by kernel_rfl) (by kernel_rfl) (by kernel_rfl) (fun _ _ _ h => h) (Or.inl ⟨by kernel_rfl, ?_⟩) hS ?_
  · intro w hw; clear hw; go_simp
  change wpAnyH _ _ _ _ _ _ _ (Act.put _ (some 14) _) _
  simp only [Act.put, List.setIfInBounds_toArray, List.set_cons_succ, List.set_cons_zero]
  refine wpAnyH_take (i := 10) (v := .bool (decide (tx ≤ lim))) rfl (by kernel_rfl) (by kernel_rfl) (by kernel_rfl) (fun _ _ _ h => h) (Or.inl ⟨by kernel_rfl, ?_⟩) hS ?_
  · intro w hw; clear hw; go_simp
  change wpAnyH _ _ _ _ _ _ _ (Act.put _ (some 4) _) _
  simp only [Act.put, List.setIfInBounds_toArray, List.set_cons_succ, List.set_cons_zero]
  refine wpAnyH_done (by kernel_rfl) ?_ _
  skip
  clear hS
  have BF := HB.out.trans (HB9.out.mono HB.out.size)
  go_wp2
  go_ret
  exact ⟨rfl, BF⟩
end Go.Proofs.YtkgecpplgjfhiaaGreatDoor

namespace Go.Proofs.YtkgecpplgjfhiaaGreatDoor
open Go.RowKit
open Ite (Ent zeroE checkE sizeE)
open Lis (Lst but Tag)

set_option maxHeartbeats 4000000 in
set_option maxRecDepth 8000 in
theorem rset_bad {w : World} {B : Nat} {lim : Int} {p : Option Addr} {cap : Nat} {L : List Ent} (h : Es w B (.slice p L.length cap) L) (hz : p = none → cap = 0) (_hl : L.length ≤ 1000) (_hBw : B ≤ w.heap.size) (hf : ∀ y ∈ L, checkE y = 0) (hnd : (L.map (·.key)).Nodup) (_hlim : 1 ≤ lim ∧ lim ≤ 20000) (x : Ent) {q : Option Addr} {c : Nat} (hx : Bq w B (.slice q x.val.length c) x.val) (hkk : x.key.size ≤ 1000) (hkv : x.val.length ≤ 5000) (now : Int) (hbad : checkE x ≠ 0 ∨ lv x now = false ∨ fitsX lim x = false) :
    Calls Tryz.prog 39 #[.agg #[.int .i64 lim, .slice p L.length cap], .agg #[.string x.key, .int .i64 x.ver, .int .i64 x.asof, .int .i64 x.ends, .slice q x.val.length c], .int .i64 now] w fun e w' => ∃ p' cap' gv, e = .returned (.tuple #[.agg #[.int .i64 lim, .slice p' (setP lim L x now).1.length cap'], gv, .int .i64 (setP lim L x now).2.2]) ∧ Es w' B (.slice p' (setP lim L x now).1.length cap') (setP lim L x now).1 ∧ (p' = none → cap' = 0) ∧ Es w' B gv (setP lim L x now).2.1 ∧ Below w.heap.size w w' := by
  have HE0 := hid2 h
  have hcap : L.length ≤ cap ∧ cap ≤ maxLen := by obtain ⟨_, _, e, h1, h2, _⟩ := h; cases e; exact ⟨h1, h2⟩
  obtain ⟨hc1, hc2⟩ := hcap
  unfold maxLen at hc2
  obtain ⟨g, hg⟩ : ∃ g, g = w.heap.size := ⟨_, rfl⟩
  obtain ⟨wa, hwa⟩ : ∃ wa, wa = w.alloc (.cells #[.int .i64 lim, .slice p L.length cap] 37) := ⟨_, rfl⟩
  obtain ⟨wb, hwb⟩ : ∃ wb, wb = wa.alloc (.cells #[.string x.key, .int .i64 x.ver, .int .i64 x.asof, .int .i64 x.ends, .slice q x.val.length c] 25) := ⟨_, rfl⟩
  obtain ⟨wc, hwc⟩ : ∃ wc, wc = wb.alloc (.cells #[.int .i64 0, .slice none 0 0] 37) := ⟨_, rfl⟩
  have sa : wa.heap.size = g + 1 := by rw [hwa, hg]; simp
  have sb : wb.heap.size = g + 2 := by rw [hwb]; simp [sa]
  have A1 : Below w.heap.size w wa := by rw [hwa]; go_grown
  have A2 : Below wa.heap.size wa wb := by rw [hwb]; go_grown
  have A3 : Below wb.heap.size wb wc := by rw [hwc]; go_grown
  have Za : Two wa g (.int .i64 lim) (.slice p L.length cap) := by rw [hwa, hg]; exact heap_alloc_new w _
  have Zb : wb.heap[g + 1]? = some (.cells #[.string x.key, .int .i64 x.ver, .int .i64 x.asof, .int .i64 x.ends, .slice q x.val.length c] 25 (0, 0)) := by rw [hwb, ← sa]; exact heap_alloc_new wa _
  have Zc : Two wc (g + 2) (.int .i64 0) (.slice none 0 0) := by rw [hwc, ← sb]; exact heap_alloc_new wb _
  have Bc := (A1.trans (A2.mono A1.size)).trans (A3.mono (Nat.le_trans A1.size A2.size))
  have Z0 := hid2 ((Za.stays A2).stays A3)
  have Z1 := hid2 (heap_stays Zb A3)
  have Z2' := hid2 Zc
  have HBc := hid2 Bc
  have HE := hid2 (h.stays Bc)
  have HX := hid2 (hx.stays Bc)
  have HG := hid2 hg
  have HWA := hid2 hwa
  have HWB := hid2 hwb
  have HWC := hid2 hwc
  have HZ := hid2 hz
  have KC := hid2 (Ite.rcheck_any x.key x.ver x.asof x.ends q x.val.length c wc (Nat.le_trans hkk (by unfold maxLen; omega)) (Nat.le_trans hkv (by unfold maxLen; omega)))
  rw [show Ite.chk x.key x.ver x.asof x.ends x.val.length = checkE x from rfl] at KC
  have KL := hid2 (fun W => Ite.rlive_any x.key x.ver x.asof x.ends now q x.val.length c W)
  rw [show Ite.liveB x.ends now = lv x now from rfl] at KL
  have HF := hid2 hf
  have HND := hid2 hnd
  unfold setP
  by_cases hc0 : checkE x = 0
  · rw [if_neg (by simpa using hc0)]
    have HC0 := hid2 hc0
    cases hlv : lv x now with
    | false =>
      rw [if_pos rfl]
      rw [hlv] at KL
      clear hc0 hbad hlv
      clear h hx hz A1 A2 A3 Za Zb Zc Bc hwa hwb hwc hg hf hnd
      go_enter Tryz.func39, Tryz.ntmps39
      obtain ⟨⟨q0, q1, q2, q3, q4⟩, qf⟩ := Ite.five24 Z1.out
      have hqlt := lt_of_block Z1.out
      go_wp2_with fail
      rw [← HWA.out, ← HWB.out, ← HWC.out, ← HG.out]
      refine (show Calls _ _ _ _ _ from KC.out).mono ?_
      rintro e w1 ⟨rfl, hb1⟩
      have HB1 := hid2 (HBc.out.trans (hb1.mono HBc.out.size))
      have Z01 := hid2 (Z0.out.stays hb1)
      have Z11 := hid2 (heap_stays Z1.out hb1)
      have Z21 := hid2 (Z2'.out.stays hb1)
      have HE1 := hid2 (HE.out.stays hb1)
      have HX1 := hid2 (HX.out.stays hb1)
      clear hb1 KC q0 q1 q2 q3 q4 qf hqlt
      obtain ⟨⟨q0, q1, q2, q3, q4⟩, qf⟩ := Ite.five24 Z11.out
      have hqlt := lt_of_block Z11.out
      rw [HC0.out]
      go_wp2_with fail
      refine (show Calls _ _ _ _ _ from KL.out _).mono ?_
      rintro e w2 ⟨rfl, hb2⟩
      have HB2 := hid2 (HB1.out.trans (hb2.mono HB1.out.size))
      have Z02 := hid2 (Z01.out.stays hb2)
      have Z12 := hid2 (heap_stays Z11.out hb2)
      have Z22 := hid2 (Z21.out.stays hb2)
      have HE2 := hid2 (HE1.out.stays hb2)
      have HX2 := hid2 (HX1.out.stays hb2)
      obtain ⟨⟨q0, q1, q2, q3, q4⟩, qf⟩ := Ite.five24 Z12.out
      have hqlt := lt_of_block Z12.out
      clear hb2
      obtain ⟨z0, z1, z2, z3⟩ := Z02.out.cells
      go_wp2_with (refine st37 rfl (.tmp 6) (.tmp 24) rfl (g + 2) rfl _ _ _ Z22.out rfl rfl ⟨rfl, rfl⟩ ?_; intro wz hzz hgz)
      have BZ : Below w.heap.size w wz := HB2.out.grown hgz HB2.out.size (fun j hj => by cases hj; have := HG.out; omega)
      refine bodyPost_ret (v := .tuple #[.agg #[.int .i64 lim, .slice p L.length cap], .slice none 0 0, .int .i64 10]) ?_ rfl ⟨p, cap, .slice none 0 0, rfl, HE0.out.stays BZ, HZ.out, Es.nil _ _, BZ⟩
      exact results_set Tryz.results39 _ _ (g + 2) rfl _ _ _ _ hzz rfl rfl
    | true =>
      cases hfx : fitsX lim x with
      | true => rw [hlv, hfx] at hbad; simp [hc0] at hbad
      | false =>
        rw [if_neg (by simp), if_pos rfl]
        rw [hlv] at KL
        clear hc0 hbad hlv
        clear h hx hz A1 A2 A3 Za Zb Zc Bc hwa hwb hwc hg hf hnd
        go_enter Tryz.func39, Tryz.ntmps39
        obtain ⟨⟨q0, q1, q2, q3, q4⟩, qf⟩ := Ite.five24 Z1.out
        have hqlt := lt_of_block Z1.out
        go_wp2_with fail
        rw [← HWA.out, ← HWB.out, ← HWC.out, ← HG.out]
        refine (show Calls _ _ _ _ _ from KC.out).mono ?_
        rintro e w1 ⟨rfl, hb1⟩
        have HB1 := hid2 (HBc.out.trans (hb1.mono HBc.out.size))
        have Z01 := hid2 (Z0.out.stays hb1)
        have Z11 := hid2 (heap_stays Z1.out hb1)
        have Z21 := hid2 (Z2'.out.stays hb1)
        have HE1 := hid2 (HE.out.stays hb1)
        have HX1 := hid2 (HX.out.stays hb1)
        clear hb1 KC q0 q1 q2 q3 q4 qf hqlt
        obtain ⟨⟨q0, q1, q2, q3, q4⟩, qf⟩ := Ite.five24 Z11.out
        have hqlt := lt_of_block Z11.out
        rw [HC0.out]
        go_wp2_with fail
        refine (show Calls _ _ _ _ _ from KL.out _).mono ?_
        rintro e w2 ⟨rfl, hb2⟩
        have HB2 := hid2 (HB1.out.trans (hb2.mono HB1.out.size))
        have Z02 := hid2 (Z01.out.stays hb2)
        have Z12 := hid2 (heap_stays Z11.out hb2)
        have Z22 := hid2 (Z21.out.stays hb2)
        have HE2 := hid2 (HE1.out.stays hb2)
        have HX2 := hid2 (HX1.out.stays hb2)
        obtain ⟨⟨q0, q1, q2, q3, q4⟩, qf⟩ := Ite.five24 Z12.out
        have hqlt := lt_of_block Z12.out
        clear hb2
        obtain ⟨z0, z1, z2, z3⟩ := Z02.out.cells
        go_wp2_with fail
        refine (rfits_t x HC0.out HX2.out.bs).mono ?_
        rintro e w3 ⟨rfl, hb3⟩
        rw [hfx]
        have HB3 := hid2 (HB2.out.trans (hb3.mono HB2.out.size))
        have Z03 := hid2 (Z02.out.stays hb3)
        have Z13 := hid2 (heap_stays Z12.out hb3)
        have Z23 := hid2 (Z22.out.stays hb3)
        have HE3 := hid2 (HE2.out.stays hb3)
        have HX3 := hid2 (HX2.out.stays hb3)
        obtain ⟨⟨q0, q1, q2, q3, q4⟩, qf⟩ := Ite.five24 Z13.out
        have hqlt := lt_of_block Z13.out
        clear hb3
        obtain ⟨z0, z1, z2, z3⟩ := Z03.out.cells
        go_wp2_with (refine st37 rfl (.tmp 6) (.tmp 29) rfl (g + 2) rfl _ _ _ Z23.out rfl rfl ⟨rfl, rfl⟩ ?_; intro wz hzz hgz)
        have BZ : Below w.heap.size w wz := HB3.out.grown hgz HB3.out.size (fun j hj => by cases hj; have := HG.out; omega)
        refine bodyPost_ret (v := .tuple #[.agg #[.int .i64 lim, .slice p L.length cap], .slice none 0 0, .int .i64 3]) ?_ rfl ⟨p, cap, .slice none 0 0, rfl, HE0.out.stays BZ, HZ.out, Es.nil _ _, BZ⟩
        exact results_set Tryz.results39 _ _ (g + 2) rfl _ _ _ _ hzz rfl rfl
  · rw [if_pos hc0]
    have hne : (checkE x != 0) = true := by simpa using hc0
    clear hbad hc0
    clear h hx hz A1 A2 A3 Za Zb Zc Bc hwa hwb hwc hg hf hnd
    go_enter Tryz.func39, Tryz.ntmps39
    obtain ⟨⟨q0, q1, q2, q3, q4⟩, qf⟩ := Ite.five24 Z1.out
    have hqlt := lt_of_block Z1.out
    go_wp2_with fail
    rw [← HWA.out, ← HWB.out, ← HWC.out, ← HG.out]
    refine (show Calls _ _ _ _ _ from KC.out).mono ?_
    rintro e w1 ⟨rfl, hb1⟩
    have HB1 := hid2 (HBc.out.trans (hb1.mono HBc.out.size))
    have Z01 := hid2 (Z0.out.stays hb1)
    have Z11 := hid2 (heap_stays Z1.out hb1)
    have Z21 := hid2 (Z2'.out.stays hb1)
    have HE1 := hid2 (HE.out.stays hb1)
    have HX1 := hid2 (HX.out.stays hb1)
    clear hb1 KC q0 q1 q2 q3 q4 qf hqlt
    obtain ⟨⟨q0, q1, q2, q3, q4⟩, qf⟩ := Ite.five24 Z11.out
    have hqlt := lt_of_block Z11.out
    obtain ⟨z0, z1, z2, z3⟩ := Z01.out.cells
    go_wp2_with (refine st37 rfl (.tmp 6) (.tmp 18) rfl (g + 2) rfl _ _ _ Z21.out rfl rfl ⟨rfl, rfl⟩ ?_; intro wz hzz hgz)
    have BZ : Below w.heap.size w wz := HB1.out.grown hgz HB1.out.size (fun j hj => by cases hj; have := HG.out; omega)
    refine bodyPost_ret (v := .tuple #[.agg #[.int .i64 lim, .slice p L.length cap], .slice none 0 0, .int .i64 (checkE x)]) ?_ rfl ⟨p, cap, .slice none 0 0, rfl, HE0.out.stays BZ, HZ.out, Es.nil _ _, BZ⟩
    exact results_set Tryz.results39 _ _ (g + 2) rfl _ _ _ _ hzz rfl rfl
end Go.Proofs.YtkgecpplgjfhiaaGreatDoor
