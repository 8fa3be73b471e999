/-
  The document's ticket: Put and Firm.
-/
import Derived.Test.YtkbfihnoohhojaaGreatDoorQR10b
namespace Go.Proofs.YtkbfihnoohhojaaGreatDoor
open Go.RowKit Go.Extern.Stop Go.Stop Go.Extern
open Fla (Rf RfAt rall rflush rtrim rwrite)

set_option maxHeartbeats 4000000 in
set_option maxRecDepth 10000 in
theorem rtput_bad {w : World} {x0 x1 x2 x3 x4 x5 : Value} {r : Rf} {N : Nat} {n kind : Int} (hR : RfAt w (.agg #[x0, x1, x2, x3, x4, x5]) r N) (_hN : N < 900) (h1 : (x0.oneCell' = true ∧ x1.oneCell' = true ∧ x2.oneCell' = true ∧ x3.oneCell' = true ∧ x4.oneCell' = true ∧ x5.oneCell' = true)) {bb : Nat} {p : Option Addr} {cap : Nat} {b : List Nat} (at_ : Int) (hc : Lea.checkC n kind b.length ≠ 0) :
    Calls Tryz.prog 9 #[.agg #[x0, x1, x2, x3, x4, x5, .int .i64 n], .int .i64 at_, .int .i64 kind, .slice p b.length cap] w fun e w' => ∃ y0 y1 y2 y3 y4 y5, e = .returned (.tuple #[.agg #[y0, y1, y2, y3, y4, y5, .int .i64 (rputP r n at_ kind b).2.1], .int .i64 (rputP r n at_ kind b).2.2]) ∧ (y0.oneCell' = true ∧ y1.oneCell' = true ∧ y2.oneCell' = true ∧ y3.oneCell' = true ∧ y4.oneCell' = true ∧ y5.oneCell' = true) ∧ RfAt w' (.agg #[y0, y1, y2, y3, y4, y5]) (rputP r n at_ kind b).1 (N + 1) ∧ Below w.heap.size w w' := by
  have _ := bb
  have e0 : rputP r n at_ kind b = (r, n, Lea.checkC n kind b.length) := by unfold rputP; rw [if_neg hc]
  rw [e0]
  obtain ⟨X0, X1⟩ := heap2t w (.cells #[x0, x1, x2, x3, x4, x5, .int .i64 n] 38) (.cells #[.int .i64 0, .slice none 0 0, .slice none 0 0, .int .i64 0, .bool false, .int .i64 0, .int .i64 0] 38)
  have HB0 : Hid (Below w.heap.size w ((w.alloc (.cells #[x0, x1, x2, x3, x4, x5, .int .i64 n] 38)).alloc (.cells #[.int .i64 0, .slice none 0 0, .slice none 0 0, .int .i64 0, .bool false, .int .i64 0, .int .i64 0] 38))) := by show Below _ _ _; go_grown
  have HR := hid2 hR
  have HONE := hid2 h1
  have HKP := hid2 (Lea.rput_bad (s := n) (k := kind) (p := p) (cap := cap) ((w.alloc (.cells #[x0, x1, x2, x3, x4, x5, .int .i64 n] 38)).alloc (.cells #[.int .i64 0, .slice none 0 0, .slice none 0 0, .int .i64 0, .bool false, .int .i64 0, .int .i64 0] 38)) hc)
  have hcc : (Lea.checkC n kind b.length != 0) = true := by simpa using hc
  clear hR h1 e0 hc
  generalize Lea.checkC n kind b.length = code at *
  generalize b.length = m at *
  go_enter Tryz.func9, Tryz.ntmps9
  go_wp2_with fail
  refine (show Calls _ _ _ _ _ from HKP).mono ?_
  rintro e w2 ⟨rfl, hb2⟩
  have HX1 := hid2 (heap_stays X1.out hb2)
  have HB2 := hid2 (HB0.out.trans (hb2.mono HB0.out.size))
  obtain ⟨⟨q0, q1, q2, q3, q4, q5, q6⟩, qf⟩ := seven (heap_stays X0.out hb2)
  clear hb2
  go_wp2_with (refine st38 rfl (.tmp 8) (.tmp 26) rfl (w.heap.size + 1) rfl _ _ _ _ _ _ _ _ HX1.out rfl rfl HONE.out rfl ?_; intro w6 hw6 hg6)
  have HB6 : Below w.heap.size w w6 := HB2.out.grown hg6 HB2.out.size (fun j hj => by cases hj; omega)
  refine bodyPost_ret (v := .tuple #[.agg #[x0, x1, x2, x3, x4, x5, .int .i64 n], .int .i64 code]) ?_ rfl ⟨x0, x1, x2, x3, x4, x5, rfl, HONE.out, (HR.out.below HB6).more (by omega), HB6⟩
  exact results38 Tryz.results9 _ _ (w.heap.size + 1) rfl _ _ _ _ _ _ _ 38 (0, 0) hw6 _ rfl

set_option maxHeartbeats 4000000 in
set_option maxRecDepth 10000 in
theorem rtput_good {w : World} {x0 x1 x2 x3 x4 x5 : Value} {r : Rf} {N : Nat} {n kind : Int} (hR : RfAt w (.agg #[x0, x1, x2, x3, x4, x5]) r N) (hN : N < 900) (h1 : (x0.oneCell' = true ∧ x1.oneCell' = true ∧ x2.oneCell' = true ∧ x3.oneCell' = true ∧ x4.oneCell' = true ∧ x5.oneCell' = true)) {bb : Nat} {p : Option Addr} {cap : Nat} {b : List Nat} (at_ : Int) (hb : Lea.SlAt w bb (.slice p b.length cap) (Lea.U b)) (hby : Lea.Byt b) (hc : Lea.checkC n kind b.length = 0) :
    Calls Tryz.prog 9 #[.agg #[x0, x1, x2, x3, x4, x5, .int .i64 n], .int .i64 at_, .int .i64 kind, .slice p b.length cap] w fun e w' => ∃ y0 y1 y2 y3 y4 y5, e = .returned (.tuple #[.agg #[y0, y1, y2, y3, y4, y5, .int .i64 (rputP r n at_ kind b).2.1], .int .i64 (rputP r n at_ kind b).2.2]) ∧ (y0.oneCell' = true ∧ y1.oneCell' = true ∧ y2.oneCell' = true ∧ y3.oneCell' = true ∧ y4.oneCell' = true ∧ y5.oneCell' = true) ∧ RfAt w' (.agg #[y0, y1, y2, y3, y4, y5]) (rputP r n at_ kind b).1 (N + 1) ∧ Below w.heap.size w w' := by
  have hz := Lea.check_zero hc
  obtain ⟨s, rfl⟩ : ∃ s : Nat, n = (s : Int) := ⟨n.toNat, by omega⟩
  obtain ⟨k, rfl⟩ : ∃ k : Nat, kind = (k : Int) := ⟨kind.toNat, by omega⟩
  have hs1 : 1 ≤ s := by omega
  have hs2 : s ≤ 1099511627776 := by omega
  have hk1 : 1 ≤ k := by omega
  have hk2 : k ≤ 5 := by omega
  have e0 : rputP r s at_ k b = if (rwrite r at_ (Lea.page s k b)).2 = 0 then ((rwrite r at_ (Lea.page s k b)).1, (s : Int) + 1, 0) else ((rwrite r at_ (Lea.page s k b)).1, (s : Int), (rwrite r at_ (Lea.page s k b)).2) := by unfold rputP; rw [if_pos hc]; rfl
  rw [e0]
  obtain ⟨X0, X1⟩ := heap2t w (.cells #[x0, x1, x2, x3, x4, x5, .int .i64 (s : Int)] 38) (.cells #[.int .i64 0, .slice none 0 0, .slice none 0 0, .int .i64 0, .bool false, .int .i64 0, .int .i64 0] 38)
  have HB0 : Hid (Below w.heap.size w ((w.alloc (.cells #[x0, x1, x2, x3, x4, x5, .int .i64 (s : Int)] 38)).alloc (.cells #[.int .i64 0, .slice none 0 0, .slice none 0 0, .int .i64 0, .bool false, .int .i64 0, .int .i64 0] 38))) := by show Below _ _ _; go_grown
  have HR := hid2 hR
  have HONE := hid2 h1
  have HKP := hid2 (Lea.rput_good (hb.stays HB0.out) hby hs1 hs2 hk1 hk2 hz.2.2.2.2)
  have HPL := hid2 (Lea.page_length (s := s) (k := k) hz.2.2.2.2)
  have hs3 : (s : Int) ≤ 1099511627776 := by omega
  have hs4 : (1 : Int) ≤ (s : Int) := by omega
  clear hR h1 e0 hc hz hb hby
  generalize Lea.page s k b = pg at *
  generalize b.length = m at *
  generalize hrr : rwrite r at_ pg = rr
  obtain ⟨r2, code⟩ := rr
  have HRR := hid2 hrr
  clear hrr
  dsimp only
  go_enter Tryz.func9, Tryz.ntmps9
  go_wp2_with fail
  refine (show Calls _ _ _ _ _ from HKP).mono ?_
  rintro e w2 ⟨b1, o1, cap1, rfl, _, hown, hb2⟩
  have HBA : Hid (Fla.BAt w2 (.slice (some ⟨b1, o1, none⟩) 256 cap1) pg) := own_bat (by rw [HPL.out]; exact hown)
  have HX0 := hid2 (heap_stays X0.out hb2)
  have HX1 := hid2 (heap_stays X1.out hb2)
  have HB2 := hid2 (HB0.out.trans (hb2.mono HB0.out.size))
  obtain ⟨⟨q0, q1, q2, q3, q4, q5, q6⟩, qf⟩ := seven HX0.out
  have hs2' : w.heap.size + 1 < w2.heap.size := (Array.getElem?_eq_some_iff.1 HX1.out).1
  have KW := Fla.rwrite_any (HR.out.below HB2.out) hN at_ HBA.out
  rw [HRR.out] at KW
  have KW := hid2 KW
  clear hown hb2
  go_wp2_with fail
  refine (show Calls _ _ _ _ _ from KW).mono ?_
  rintro e w3 ⟨rv', rfl, hr3, hb3⟩
  obtain ⟨y0, y1, y2, y3, y4, y5, rfl, hone⟩ := hr3.parts
  have HY := hid2 hone
  have HR3 := hid2 hr3
  have HY0 := hid2 (heap_stays HX0.out hb3)
  have HY1 := hid2 (heap_stays HX1.out hb3)
  have HB3 := hid2 (HB2.out.trans (hb3.mono HB2.out.size))
  have hs3' : w.heap.size + 1 < w3.heap.size := (Array.getElem?_eq_some_iff.1 HY1.out).1
  have HA3 := hid2 (heap_alloc_new w3 (.cells #[.int .i64 0, .slice none 0 0, .slice none 0 0, .int .i64 0, .bool false, .int .i64 0] 36))
  clear hr3 hone hb3 q0 q1 q2 q3 q4 q5 q6 qf KW
  by_cases hcode : code = 0
  · subst hcode
    go_wp2_with (first | (refine Fla.st33 rfl (.tmp 12) (.tmp 34) rfl w3.heap.size rfl _ _ _ _ _ _ _ HA3.out rfl rfl HY.out ?_; intro w4 hz4 hg4; have hb4 := box_below hg4; have HB4 := hid2 (HB3.out.trans (hb4.mono HB3.out.size)); have HR4 := hid2 (HR3.out.below hb4); have HW0 := hid2 (heap_stays HY0.out hb4); have HW1 := hid2 (heap_stays HY1.out hb4); have HW4 := hid2 hz4; have hs4' : w3.heap.size < w4.heap.size := (Array.getElem?_eq_some_iff.1 hz4).1; have HA4 := hid2 (heap_alloc_new w4 (.cells #[.int .i64 0, .slice none 0 0, .slice none 0 0, .int .i64 0, .bool false, .int .i64 0, .int .i64 0] 38)); obtain ⟨⟨q0, q1, q2, q3, q4, q5, q6⟩, qf⟩ := seven HW0.out; clear hb4 hz4 hg4) | (refine st38 rfl (.tmp 14) (.tmp 36) rfl w4.heap.size rfl _ _ _ _ _ _ _ _ HA4.out rfl rfl HONE.out rfl ?_; intro w5 hz5 hg5; have hb5 := box_below hg5; have HB5 := hid2 (HB4.out.trans (hb5.mono HB4.out.size)); have HR5 := hid2 (HR4.out.below hb5); have HV0 := hid2 (heap_stays HW0.out hb5); have HV1 := hid2 (heap_stays HW1.out hb5); have HV5 := hid2 hz5; have hs5' : w4.heap.size < w5.heap.size := (Array.getElem?_eq_some_iff.1 hz5).1; obtain ⟨⟨p0, p1, p2, p3, p4, p5⟩, pf⟩ := Fla.six' (heap_stays HW4.out hb5); clear hb5 hz5 hg5 q0 q1 q2 q3 q4 q5 q6 qf) | (refine st36in rfl (.tmp 38) (.tmp 37) rfl w4.heap.size rfl _ _ _ _ _ _ _ _ _ _ _ _ _ HV5.out rfl HY.out ?_; intro w6 hz6 hg6; have HB6 : Hid (Below w.heap.size w w6) := HB5.out.grown hg6 HB5.out.size (fun j hj => by cases hj; omega); have HR6 := hid2 (rf_boxT HR5.out HV5.out hg6); have HU0 := hid2 (Fla.heap_grown HV0.out hg6 (by intro e; have := Option.some.inj e; omega)); have HU1 := hid2 (Fla.heap_grown HV1.out hg6 (by intro e; have := Option.some.inj e; omega)); have HU6 := hid2 hz6; obtain ⟨⟨s0, s1, s2, s3, s4, s5, s6⟩, sf⟩ := seven hz6; obtain ⟨⟨r0, r1, r2', r3, r4, r5, r6⟩, rf⟩ := seven HU0.out; clear hz6 hg6 p0 p1 p2 p3 p4 p5 pf) | (refine st38 rfl (.tmp 8) (.tmp 45) rfl (w.heap.size + 1) rfl _ _ _ _ _ _ _ _ (Fla.heap_set_old HU1.out (by omega) _) rfl rfl HY.out rfl ?_; intro w7 hw7 hg7))
    have g6 := Fla.setCell_grown (o := 6) HU6.out (Value.int .i64 ((s : Int) + 1))
    have HBs : Below w.heap.size w (w6.setCell ⟨w4.heap.size, 6, none⟩ (Value.int .i64 ((s : Int) + 1))) := HB6.out.grown g6 HB6.out.size (fun j hj => by cases hj; omega)
    have HB7 : Below w.heap.size w w7 := HBs.grown hg7 HBs.size (fun j hj => by cases hj; omega)
    refine bodyPost_ret (v := .tuple #[.agg #[y0, y1, y2, y3, y4, y5, .int .i64 ((s : Int) + 1)], .int .i64 0]) ?_ rfl ⟨y0, y1, y2, y3, y4, y5, rfl, HY.out, rf_boxT (rf_boxT HR6.out HU6.out g6) (Fla.heap_set_old HU1.out (by omega) _) hg7, HB7⟩
    exact results38 Tryz.results9 _ _ (w.heap.size + 1) rfl _ _ _ _ _ _ _ 38 (0, 0) hw7 _ rfl
  · have hcd : (code == 0) = false := by simpa using hcode
    have HC := hid2 hcode
    clear hcode
    go_wp2_with (first | (refine Fla.st33 rfl (.tmp 12) (.tmp 34) rfl w3.heap.size rfl _ _ _ _ _ _ _ HA3.out rfl rfl HY.out ?_; intro w4 hz4 hg4; have hb4 := box_below hg4; have HB4 := hid2 (HB3.out.trans (hb4.mono HB3.out.size)); have HR4 := hid2 (HR3.out.below hb4); have HW0 := hid2 (heap_stays HY0.out hb4); have HW1 := hid2 (heap_stays HY1.out hb4); have HW4 := hid2 hz4; have hs4' : w3.heap.size < w4.heap.size := (Array.getElem?_eq_some_iff.1 hz4).1; have HA4 := hid2 (heap_alloc_new w4 (.cells #[.int .i64 0, .slice none 0 0, .slice none 0 0, .int .i64 0, .bool false, .int .i64 0, .int .i64 0] 38)); obtain ⟨⟨q0, q1, q2, q3, q4, q5, q6⟩, qf⟩ := seven HW0.out; clear hb4 hz4 hg4) | (refine st38 rfl (.tmp 14) (.tmp 36) rfl w4.heap.size rfl _ _ _ _ _ _ _ _ HA4.out rfl rfl HONE.out rfl ?_; intro w5 hz5 hg5; have hb5 := box_below hg5; have HB5 := hid2 (HB4.out.trans (hb5.mono HB4.out.size)); have HR5 := hid2 (HR4.out.below hb5); have HV0 := hid2 (heap_stays HW0.out hb5); have HV1 := hid2 (heap_stays HW1.out hb5); have HV5 := hid2 hz5; have hs5' : w4.heap.size < w5.heap.size := (Array.getElem?_eq_some_iff.1 hz5).1; obtain ⟨⟨p0, p1, p2, p3, p4, p5⟩, pf⟩ := Fla.six' (heap_stays HW4.out hb5); clear hb5 hz5 hg5 q0 q1 q2 q3 q4 q5 q6 qf) | (refine st36in rfl (.tmp 38) (.tmp 37) rfl w4.heap.size rfl _ _ _ _ _ _ _ _ _ _ _ _ _ HV5.out rfl HY.out ?_; intro w6 hz6 hg6; have HB6 : Hid (Below w.heap.size w w6) := HB5.out.grown hg6 HB5.out.size (fun j hj => by cases hj; omega); have HR6 := hid2 (rf_boxT HR5.out HV5.out hg6); have HU0 := hid2 (Fla.heap_grown HV0.out hg6 (by intro e; have := Option.some.inj e; omega)); have HU1 := hid2 (Fla.heap_grown HV1.out hg6 (by intro e; have := Option.some.inj e; omega)); have HU6 := hid2 hz6; obtain ⟨⟨s0, s1, s2, s3, s4, s5, s6⟩, sf⟩ := seven hz6; obtain ⟨⟨r0, r1, r2', r3, r4, r5, r6⟩, rf⟩ := seven HU0.out; clear hz6 hg6 p0 p1 p2 p3 p4 p5 pf) | (refine st38 rfl (.tmp 8) (.tmp 45) rfl (w.heap.size + 1) rfl _ _ _ _ _ _ _ _ HU1.out rfl rfl HY.out rfl ?_; intro w7 hw7 hg7))
    have HB7 : Below w.heap.size w w7 := HB6.out.grown hg7 HB6.out.size (fun j hj => by cases hj; omega)
    try rw [if_neg HC.out]
    refine bodyPost_ret (v := .tuple #[.agg #[y0, y1, y2, y3, y4, y5, .int .i64 (s : Int)], .int .i64 code]) ?_ rfl ⟨y0, y1, y2, y3, y4, y5, rfl, HY.out, rf_boxT HR6.out HU1.out hg7, HB7⟩
    exact results38 Tryz.results9 _ _ (w.heap.size + 1) rfl _ _ _ _ _ _ _ 38 (0, 0) hw7 _ rfl
end Go.Proofs.YtkbfihnoohhojaaGreatDoor
