/-
  The document's Put, whole, and Firm.
-/
import Derived.Test.YtkbfihnoohhojaaGreatDoorQR10c
namespace Go.Proofs.YtkbfihnoohhojaaGreatDoor
open Go.RowKit Go.Extern.Stop Go.Stop Go.Extern
open Fla (Rf RfAt rall rflush rtrim rwrite)

theorem rtput_any {w : World} {x0 x1 x2 x3 x4 x5 : Value} {r : Rf} {N : Nat} {n kind : Int} (hR : RfAt w (.agg #[x0, x1, x2, x3, x4, x5]) r N) (hN : N < 900) (h1 : (x0.oneCell' = true ∧ x1.oneCell' = true ∧ x2.oneCell' = true ∧ x3.oneCell' = true ∧ x4.oneCell' = true ∧ x5.oneCell' = true)) {bb : Nat} {p : Option Addr} {cap : Nat} {b : List Nat} (at_ : Int) (hb : Lea.SlAt w bb (.slice p b.length cap) (Lea.U b)) (hby : Lea.Byt b) :
    Calls Tryz.prog 9 #[.agg #[x0, x1, x2, x3, x4, x5, .int .i64 n], .int .i64 at_, .int .i64 kind, .slice p b.length cap] w fun e w' => ∃ y0 y1 y2 y3 y4 y5, e = .returned (.tuple #[.agg #[y0, y1, y2, y3, y4, y5, .int .i64 (rputP r n at_ kind b).2.1], .int .i64 (rputP r n at_ kind b).2.2]) ∧ (y0.oneCell' = true ∧ y1.oneCell' = true ∧ y2.oneCell' = true ∧ y3.oneCell' = true ∧ y4.oneCell' = true ∧ y5.oneCell' = true) ∧ RfAt w' (.agg #[y0, y1, y2, y3, y4, y5]) (rputP r n at_ kind b).1 (N + 1) ∧ Below w.heap.size w w' := by
  by_cases hc : Lea.checkC n kind b.length = 0
  · exact rtput_good hR hN h1 at_ hb hby hc
  · exact rtput_bad (bb := bb) hR hN h1 at_ hc

set_option maxHeartbeats 4000000 in
set_option maxRecDepth 10000 in
theorem rtfirm_any {w : World} {x0 x1 x2 x3 x4 x5 : Value} {r : Rf} {N : Nat} {n kind : Int} (hR : RfAt w (.agg #[x0, x1, x2, x3, x4, x5]) r N) (hN : N < 890) (h1 : (x0.oneCell' = true ∧ x1.oneCell' = true ∧ x2.oneCell' = true ∧ x3.oneCell' = true ∧ x4.oneCell' = true ∧ x5.oneCell' = true)) {bb : Nat} {p : Option Addr} {cap : Nat} {b : List Nat} (at_ : Int) (hb : Lea.SlAt w bb (.slice p b.length cap) (Lea.U b)) (hby : Lea.Byt b)
    (hLL : ∀ c ∈ (rputP r n at_ kind b).1.loose, c.trim = false → c.p.length = 256) (hSS : ∀ f k at_', (Fla.rsafe (Fla.settleN (rputP r n at_ kind b).1.cells (rputP r n at_ kind b).1.loose f k) at_').length = 256) :
    Calls Tryz.prog 12 #[.agg #[x0, x1, x2, x3, x4, x5, .int .i64 n], .int .i64 at_, .int .i64 kind, .slice p b.length cap] w fun e w' => ∃ y0 y1 y2 y3 y4 y5, e = .returned (.tuple #[.agg #[y0, y1, y2, y3, y4, y5, .int .i64 (rfirmP r n at_ kind b).2.1], .int .i64 (rfirmP r n at_ kind b).2.2]) ∧ (y0.oneCell' = true ∧ y1.oneCell' = true ∧ y2.oneCell' = true ∧ y3.oneCell' = true ∧ y4.oneCell' = true ∧ y5.oneCell' = true) ∧ RfAt w' (.agg #[y0, y1, y2, y3, y4, y5]) (rfirmP r n at_ kind b).1 (N + 2) ∧ Below w.heap.size w w' := by
  obtain ⟨X0, X1⟩ := heap2t w (.cells #[x0, x1, x2, x3, x4, x5, .int .i64 n] 38) (.cells #[.int .i64 0, .slice none 0 0, .slice none 0 0, .int .i64 0, .bool false, .int .i64 0, .int .i64 0] 38)
  have HB0 : Hid (Below w.heap.size w ((w.alloc (.cells #[x0, x1, x2, x3, x4, x5, .int .i64 n] 38)).alloc (.cells #[.int .i64 0, .slice none 0 0, .slice none 0 0, .int .i64 0, .bool false, .int .i64 0, .int .i64 0] 38))) := by show Below _ _ _; go_grown
  have HKP := hid2 (rtput_any (n := n) (kind := kind) (hR.below HB0.out) (by omega) h1 at_ (hb.stays HB0.out) hby)
  have HLL := hid2 hLL
  have HSS := hid2 hSS
  unfold rfirmP
  clear hR h1 hb hby hLL hSS
  generalize rputP r n at_ kind b = rr at *
  obtain ⟨r2, n2, code⟩ := rr
  dsimp only at HLL HSS HKP ⊢
  generalize b.length = m at *
  go_enter Tryz.func12, Tryz.ntmps12
  go_wp2_with fail
  refine (show Calls _ _ _ _ _ from HKP).mono ?_
  rintro e w2 ⟨y0, y1, y2, y3, y4, y5, rfl, hone, hr2, hb2⟩
  have HY := hid2 hone
  have HR2 := hid2 hr2
  have HY1 := hid2 (heap_stays X1.out hb2)
  have HB2 := hid2 (HB0.out.trans (hb2.mono HB0.out.size))
  have hs2' : w.heap.size + 1 < w2.heap.size := (Array.getElem?_eq_some_iff.1 HY1.out).1
  have HA2 := hid2 (heap_alloc_new w2 (.cells #[.int .i64 0, .slice none 0 0, .slice none 0 0, .int .i64 0, .bool false, .int .i64 0, .int .i64 0] 38))
  clear hone hr2 hb2 HKP
  by_cases hcode : code = 0
  · subst hcode
    go_wp2_with (refine st38 rfl (.tmp 10) (.tmp 18) rfl w2.heap.size rfl _ _ _ _ _ _ _ _ HA2.out rfl rfl HY.out rfl ?_; intro w3 hz3 hg3; have hb3 := box_below hg3; have HB3 := hid2 (HB2.out.trans (hb3.mono HB2.out.size)); have HR3 := hid2 (HR2.out.below hb3); have HZ1 := hid2 (heap_stays HY1.out hb3); obtain ⟨⟨q0, q1, q2, q3, q4, q5, q6⟩, qf⟩ := seven hz3; clear hb3 hg3)
    refine (rtflush_any HR3.out (by omega) HY.out HLL.out HSS.out).mono ?_
    rintro e w4 ⟨z0, z1, z2, z3, z4, z5, rfl, hone, hr4, hb4⟩
    have HZ := hid2 hone
    have HR4 := hid2 hr4
    have HV1 := hid2 (heap_stays HZ1.out hb4)
    have HB4 := hid2 (HB3.out.trans (hb4.mono HB3.out.size))
    clear hone hr4 hb4 q0 q1 q2 q3 q4 q5 q6 qf
    go_wp2_with (refine st38 rfl (.tmp 8) (.tmp 26) rfl (w.heap.size + 1) rfl _ _ _ _ _ _ _ _ HV1.out rfl rfl HZ.out rfl ?_; intro w6 hw6 hg6)
    have HB6 : Below w.heap.size w w6 := HB4.out.grown hg6 HB4.out.size (fun j hj => by cases hj; omega)
    try rw [if_pos rfl]
    refine bodyPost_ret (v := .tuple #[.agg #[z0, z1, z2, z3, z4, z5, .int .i64 n2], .int .i64 (rflush r2).2]) ?_ rfl ⟨z0, z1, z2, z3, z4, z5, rfl, HZ.out, rf_boxT HR4.out HV1.out hg6, HB6⟩
    exact results38 Tryz.results12 _ _ (w.heap.size + 1) rfl _ _ _ _ _ _ _ 38 (0, 0) hw6 _ rfl
  · have hcd : (code != 0) = true := by simpa using hcode
    have HC := hid2 hcode
    clear hcode
    go_wp2_with (first | (refine st38 rfl (.tmp 10) (.tmp 18) rfl w2.heap.size rfl _ _ _ _ _ _ _ _ HA2.out rfl rfl HY.out rfl ?_; intro w3 hz3 hg3; have hb3 := box_below hg3; have HB3 := hid2 (HB2.out.trans (hb3.mono HB2.out.size)); have HR3 := hid2 (HR2.out.below hb3); have HZ1 := hid2 (heap_stays HY1.out hb3); obtain ⟨⟨q0, q1, q2, q3, q4, q5, q6⟩, qf⟩ := seven hz3; clear hb3 hg3) | (refine st38 rfl (.tmp 8) (.tmp 22) rfl (w.heap.size + 1) rfl _ _ _ _ _ _ _ _ HZ1.out rfl rfl HY.out rfl ?_; intro w6 hw6 hg6))
    have HB6 : Below w.heap.size w w6 := HB3.out.grown hg6 HB3.out.size (fun j hj => by cases hj; omega)
    try rw [if_neg HC.out]
    refine bodyPost_ret (v := .tuple #[.agg #[y0, y1, y2, y3, y4, y5, .int .i64 n2], .int .i64 code]) ?_ rfl ⟨y0, y1, y2, y3, y4, y5, rfl, HY.out, (rf_boxT HR3.out HZ1.out hg6).more (by omega), HB6⟩
    exact results38 Tryz.results12 _ _ (w.heap.size + 1) rfl _ _ _ _ _ _ _ 38 (0, 0) hw6 _ rfl
end Go.Proofs.YtkbfihnoohhojaaGreatDoor
