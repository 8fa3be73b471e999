/-
  The document's ticket: a part stored, Open, Flush, Trim.
-/
import Derived.Test.YtkbfihnoohhojaaGreatDoorQR10
namespace Go.Proofs.YtkbfihnoohhojaaGreatDoor
open Go.RowKit Go.Extern.Stop Go.Stop Go.Extern
open Fla (Rf RfAt Rf rall rflush rtrim rwrite)

theorem row_boxT {w w' : World} {size : Nat} {v : Value} {n b : Nat} {xs : List Value} {c : Array Value} {fr : Nat × Nat} (h : Fla.RowAt w size v n xs) (hb : w.heap[b]? = some (.cells c 38 fr)) (hg : w.grownBy w' (some b)) : Fla.RowAt w' size v n xs := by
  obtain ⟨p, cap, h1, h2, h3, h4, h5⟩ := h
  refine ⟨p, cap, h1, h2, h3, h4, h5.imp id ?_⟩
  rintro ⟨b', off, cs, h6, ⟨e, fr', k1, k2, k3, k4⟩, h8⟩
  refine ⟨b', off, cs, h6, ⟨e, fr', ?_, k2, k3, k4⟩, h8⟩
  rw [hg.block b' (Array.getElem?_eq_some_iff.1 k1).1 (by intro e'; cases e'; rw [hb] at k1; cases k1; exact k4.1.2.1 rfl)]
  exact k1
theorem row_fs {B : Nat} {w w' : World} {size : Nat} {v : Value} {n : Nat} {xs : List Value} (h : Fla.RowAt w size v n xs) (hf : Fs B w w') : Fla.RowAt w' size v n xs := by
  obtain ⟨p, cap, h1, h2, h3, h4, h5⟩ := h
  refine ⟨p, cap, h1, h2, h3, h4, h5.imp id ?_⟩
  rintro ⟨b', off, cs, h6, ⟨e, fr', k1, k2, k3, k4⟩, h8⟩
  exact ⟨b', off, cs, h6, ⟨e, fr', by rw [hf.stat b' cs e fr' k1 k2 k3 k4.1.2.2]; exact k1, k2, k3, k4⟩, h8⟩
theorem rf_boxT {w w' : World} {rv : Value} {r : Rf} {N b : Nat} {c : Array Value} {fr : Nat × Nat} (h : RfAt w rv r N) (hb : w.heap[b]? = some (.cells c 38 fr)) (hg : w.grownBy w' (some b)) : RfAt w' rv r N := by
  obtain ⟨cp, cc, lp, lc, cs, lo, h1, h2, h3, h4, h5, h6⟩ := h
  exact ⟨cp, cc, lp, lc, cs, lo, h1, ⟨row_boxT h2.1 hb hg, fun x hx => row_boxT (h2.2 x hx) hb hg⟩, h3, h4, ⟨row_boxT h5.1 hb hg, fun x hx => row_boxT (h5.2 x hx) hb hg⟩, h6⟩
theorem rf_fs {B : Nat} {w w' : World} {rv : Value} {r : Rf} {N : Nat} (h : RfAt w rv r N) (hf : Fs B w w') : RfAt w' rv r N := by
  obtain ⟨cp, cc, lp, lc, cs, lo, h1, h2, h3, h4, h5, h6⟩ := h
  exact ⟨cp, cc, lp, lc, cs, lo, h1, ⟨row_fs h2.1 hf, fun x hx => row_fs (h2.2 x hx) hf⟩, h3, h4, ⟨row_fs h5.1 hf, fun x hx => row_fs (h5.2 x hx) hf⟩, h6⟩
theorem Fl_boxT {w w' : World} {B g N b : Nat} {d : Fla.Dev} {c : Array Value} (h : Fla.Fl w B g N d) (hb : w.heap[b]? = some (.cells c 38 (0, 0))) (hg : w.grownBy w' (some b)) : Fla.Fl w' B g N d := by
  obtain ⟨h1, h2, m, wv, n, h3, h4, h5, h6⟩ := h
  refine ⟨h1, h2, m, wv, n, Fla.heap_grown h3 hg (by intro e; cases e; rw [hb] at h3; cases h3), h4.grown hg ?_, h5.kept hg (.inr (Ne.symm (Fla.own_ne h5 hb (by decide)))), h6⟩
  obtain ⟨D, ⟨es, clock, k1, _⟩, _⟩ := h4
  intro e; cases e; rw [hb] at k1; cases k1

section
variable {ops : Array Oper} {rest : List Oper} {op : Oper} {a : Act} {w : World} {Q : Exit → Act → World → Prop}
/-- A device stored into a ticket. -/
theorem st36in (hgd : op.guard = none) (x y : Operand) (ho : op.op = .store 36 x y) (b : Nat) (hx : a.eval x = .pointer (some ⟨b, 0, none⟩)) (y0 y1 y2 y3 y4 y5 y6 x0 x1 x2 x3 x4 x5 : Value)
    (hw : w.heap[b]? = some (.cells #[y0, y1, y2, y3, y4, y5, y6] 38 (0, 0))) (hy : a.eval y = .agg #[x0, x1, x2, x3, x4, x5]) (h1 : (x0.oneCell' = true ∧ x1.oneCell' = true ∧ x2.oneCell' = true ∧ x3.oneCell' = true ∧ x4.oneCell' = true ∧ x5.oneCell' = true))
    (h : ∀ w', w'.heap[b]? = some (.cells #[x0, x1, x2, x3, x4, x5, y6] 38 (0, 0)) → w.grownBy w' (some b) → wpList Tryz.prog ops Q rest (a.put op.dst undef) w') : wpList Tryz.prog ops Q (op :: rest) a w := by
  obtain ⟨⟨c0, c1, c2, c3, c4, c5, c6⟩, cf⟩ := seven hw
  refine Go.wpList_store_mid hgd 36 x y ho b 0 #[x0, x1, x2, x3, x4, x5] hx hy ?_ (Fla.size_of Fla.Tryz.info33m) ?_ ?_
  · intro j hj
    refine ⟨?_, cf _⟩
    rcases j with _ | _ | _ | _ | _ | _ | j
    · simp [c0]
    · simp [c1]
    · simp [c2]
    · simp [c3]
    · simp [c4]
    · simp [c5]
    · simp at hj; omega
  · obtain ⟨e0, e1, e2, e3, e4, e5⟩ := h1
    simp [e0, e1, e2, e3, e4, e5]
  · have s0 := Fla.setCell_heap (o := 0) hw x0
    have s1 := Fla.setCell_heap (o := 1) s0 x1
    have s2 := Fla.setCell_heap (o := 2) s1 x2
    have s3 := Fla.setCell_heap (o := 3) s2 x3
    have s4 := Fla.setCell_heap (o := 4) s3 x4
    have s5 := Fla.setCell_heap (o := 5) s4 x5
    have g0 := Fla.setCell_grown (o := 0) hw x0
    have g1 := Fla.setCell_grown (o := 1) s0 x1
    have g2 := Fla.setCell_grown (o := 2) s1 x2
    have g3 := Fla.setCell_grown (o := 3) s2 x3
    have g4 := Fla.setCell_grown (o := 4) s3 x4
    have g5 := Fla.setCell_grown (o := 5) s4 x5
    exact h _ s5 (((((g0.trans g1).trans g2).trans g3).trans g4).trans g5)
end
theorem heap3t (w : World) (a b c : Obj) : Hid ((((w.alloc a).alloc b).alloc c).heap[w.heap.size]? = some a) ∧ Hid ((((w.alloc a).alloc b).alloc c).heap[w.heap.size + 1]? = some b) ∧ Hid ((((w.alloc a).alloc b).alloc c).heap[w.heap.size + 1 + 1]? = some c) := Fla.heap3 w a b c
theorem heap2t (w : World) (a b : Obj) : Hid (((w.alloc a).alloc b).heap[w.heap.size]? = some a) ∧ Hid (((w.alloc a).alloc b).heap[w.heap.size + 1]? = some b) := by
  refine ⟨Fla.heap_alloc_old (heap_alloc_last _ _) _, ?_⟩
  have := heap_alloc_last (w.alloc a) b
  show _ = _
  simpa using this

set_option maxHeartbeats 4000000 in
set_option maxRecDepth 10000 in
theorem ropen_any {w : World} {x0 x1 x2 x3 x4 x5 : Value} {r : Rf} {N : Nat} (hR : RfAt w (.agg #[x0, x1, x2, x3, x4, x5]) r N) (hp1 : r.pages ≤ 4096) (hp0 : 1 ≤ r.pages) (hd : r.down = false) (hpg : ∀ x ∈ rall r, x.2.length = 256 ∧ Lea.Byt x.2) (h1 : (x0.oneCell' = true ∧ x1.oneCell' = true ∧ x2.oneCell' = true ∧ x3.oneCell' = true ∧ x4.oneCell' = true ∧ x5.oneCell' = true)) :
    Calls Tryz.prog 8 #[.agg #[x0, x1, x2, x3, x4, x5]] w fun e w' => e = .returned (.tuple #[.agg #[x0, x1, x2, x3, x4, x5, .int .i64 (nextL (rall r))], .int .i64 0]) ∧ Below w.heap.size w w' := by
  have hx4 : x4 = .bool false := by
    obtain ⟨cp, cc, lp, lc, cs, lo, e1, _⟩ := hR
    simp at e1
    rw [e1.2.2.2.2.1, hd]
  subst hx4
  obtain ⟨X0, X1⟩ := heap2t w (.cells #[x0, x1, x2, x3, .bool false, x5] 36) (.cells #[.int .i64 0, .slice none 0 0, .slice none 0 0, .int .i64 0, .bool false, .int .i64 0, .int .i64 0] 38)
  have HB0 : Hid (Below w.heap.size w ((w.alloc (.cells #[x0, x1, x2, x3, .bool false, x5] 36)).alloc (.cells #[.int .i64 0, .slice none 0 0, .slice none 0 0, .int .i64 0, .bool false, .int .i64 0, .int .i64 0] 38))) := by show Below _ _ _; go_grown
  have HK := hid2 (Fla.rall_any (hR.below HB0.out) hp1 hp0)
  have HPG := hid2 hpg
  have HONE := hid2 h1
  clear hR hpg hd h1
  go_enter Tryz.func8, Tryz.ntmps8
  go_wp2_with fail
  refine (show Calls _ _ _ _ _ from HK).mono ?_
  rintro e w1 ⟨v, l, rfl, hc, hl, hb1⟩
  obtain ⟨p, cap, rfl, hcap, hmax, hel⟩ := hc.each
  unfold maxLen at hmax
  have HL := hid2 hl
  have HE := show Hid (∀ i x, l[i]? = some x → ∃ b off, p = some ⟨b, off, none⟩ ∧ b < w1.heap.size ∧ w1.cell? ⟨b, off + i * 2, none⟩ = some (.int .i64 x.1) ∧ w1.cell? ⟨b, off + i * 2 + 1, none⟩ = some x.2.1 ∧ Fla.BAt w1 x.2.1 x.2.2) from hel
  have HB1 := hid2 (HB0.out.trans (hb1.mono HB0.out.size))
  have HX0 := hid2 (heap_stays X0.out hb1)
  have HX1 := hid2 (heap_stays X1.out hb1)
  clear HK hc hl hel hb1
  go_wp2_with fail
  go_loopw [4, 6] (fun s i wr => ∃ k : Nat, i = .int .i64 (k : Int) ∧ k ≤ l.length ∧ s = .int .i64 (nextL ((Fla.plainC l).take k)) ∧ Below w1.heap.size w1 wr) (fun _ i _ => l.length - (intOf i).toNat)
  case atStart => exact ⟨0, rfl, Nat.zero_le _, by simp [nextL_nil], Below.refl _ _⟩
  case round =>
    obtain ⟨k, rfl, hk, rfl, hbr⟩ := hrel
    have HBR := hid2 hbr
    have hsz := hbr.size
    by_cases hlt : k < l.length
    · obtain ⟨x, hx⟩ : ∃ x, l[k]? = some x := ⟨_, List.getElem?_eq_getElem hlt⟩
      obtain ⟨bb, off, rfl, hbb, hc0, hc1, hba⟩ := HE.out k _ hx
      have hki : (k : Int) < (l.length : Int) := by omega
      have hx1 := HL.out ▸ plain_at hx
      have hpg := HPG.out _ (List.mem_of_getElem? hx1)
      have HNX := hid2 (nextL_take (plain_at hx))
      have HS := hid2 (stamps_le x.2.2)
      have h1 := nextL_one ((Fla.plainC l).take k)
      have h2 := nextL_le ((Fla.plainC l).take k)
      have HBA := hid2 (bat_sl (hba.below hbr) (by rw [hpg.1]; omega))
      have HBY := hid2 hpg.2
      have f1 : wr.cell? ⟨bb, off + k * 2 + 1, none⟩ = some x.2.1 := (hbr.cell (p := ⟨bb, off + k * 2 + 1, none⟩) hbb).trans hc1
      have hbw : bb < wr.heap.size := by omega
      clear hx hx1 hpg hba hc0 hc1 hbr
      obtain ⟨xa, xv, xb⟩ := x
      dsimp only at HNX HS HBA HBY f1
      obtain ⟨bs, hbs⟩ := HBA.out
      obtain ⟨sp, scap, rfl, _⟩ := hbs.form
      have HBS := hid2 hbs
      clear HBA hbs
      generalize nextL ((Fla.plainC l).take k) = n at *
      go_wp2_with fail
      refine (Lea.rstamps_any (b := bs) HBS.out HBY.out).mono ?_
      rintro e w2 ⟨rfl, hb2⟩
      have hs := HS.out
      generalize hsa : (Lea.stampsP xb).1 = sa at *
      generalize hsb : (Lea.stampsP xb).2 = sb at *
      have HB2 : Hid (Below w1.heap.size w1 w2) := HBR.out.trans (hb2.mono HBR.out.size)
      clear hb2
      by_cases ha : n ≤ (sa : Int)
      · by_cases hb : (sa : Int) + 1 ≤ (sb : Int)
        · go_wp2
          go_roundw
          case rel => exact ⟨k + 1, by go_num, by omega, by rw [HNX.out]; refine congrArg (Value.int IntKind.i64) ?_; unfold nx; simp only; split <;> (try split) <;> (try split) <;> omega, HB2.out⟩
          case measure => simp [intOf]; omega
        · go_wp2
          go_roundw
          case rel => exact ⟨k + 1, by go_num, by omega, by rw [HNX.out]; refine congrArg (Value.int IntKind.i64) ?_; unfold nx; simp only; split <;> (try split) <;> (try split) <;> omega, HB2.out⟩
          case measure => simp [intOf]; omega
      · by_cases hb : n ≤ (sb : Int)
        · go_wp2
          go_roundw
          case rel => exact ⟨k + 1, by go_num, by omega, by rw [HNX.out]; refine congrArg (Value.int IntKind.i64) ?_; unfold nx; simp only; split <;> (try split) <;> (try split) <;> omega, HB2.out⟩
          case measure => simp [intOf]; omega
        · go_wp2
          go_roundw
          case rel => exact ⟨k + 1, by go_num, by omega, by rw [HNX.out]; refine congrArg (Value.int IntKind.i64) ?_; unfold nx; simp only; split <;> (try split) <;> (try split) <;> omega, HB2.out⟩
          case measure => simp [intOf]; omega
    · have hki : ¬ ((k : Int) < (l.length : Int)) := by omega
      obtain rfl : k = l.length := by omega
      have HXR0 := hid2 (heap_stays HX0.out hbr)
      have HXR1 := hid2 (heap_stays HX1.out hbr)
      obtain ⟨⟨q0, q1, q2, q3, q4, q5⟩, _⟩ := Fla.six' HXR0.out
      have HNL : Hid (nextL ((Fla.plainC l).take l.length) = nextL (rall r)) := by show _ = _; rw [← HL.out, List.take_of_length_le (by simp [Fla.plainC])]
      generalize nextL ((Fla.plainC l).take l.length) = n at *
      have hn := HNL.out
      subst hn
      go_wp2_with (refine st38 rfl (.tmp 2) (.tmp 41) rfl (w.heap.size + 1) rfl _ _ _ _ _ _ _ _ HXR1.out rfl rfl HONE.out rfl ?_; intro w6 hw6 hg6)
      refine bodyPost_ret (v := .tuple #[.agg #[x0, x1, x2, x3, .bool false, x5, .int .i64 (nextL (rall r))], .int .i64 0]) ?_ rfl ⟨rfl, ?_⟩
      · exact results38 Tryz.results8 _ _ (w.heap.size + 1) rfl _ _ _ _ _ _ _ 38 (0, 0) hw6 _ rfl
      · exact (HB1.out.trans (HBR.out.mono HB1.out.size)).grown hg6 ((HB1.out.trans (HBR.out.mono HB1.out.size)).size) (fun j hj => by cases hj; omega)

set_option maxHeartbeats 4000000 in
set_option maxRecDepth 10000 in
theorem rtflush_any {w : World} {x0 x1 x2 x3 x4 x5 : Value} {r : Rf} {N : Nat} {n : Int} (hR : RfAt w (.agg #[x0, x1, x2, x3, x4, x5]) r N) (hN : N < 900) (h1 : (x0.oneCell' = true ∧ x1.oneCell' = true ∧ x2.oneCell' = true ∧ x3.oneCell' = true ∧ x4.oneCell' = true ∧ x5.oneCell' = true)) (hLL : ∀ c ∈ r.loose, c.trim = false → c.p.length = 256) (hSS : ∀ f k at_, (Fla.rsafe (Fla.settleN r.cells r.loose f k) at_).length = 256) :
    Calls Tryz.prog 17 #[.agg #[x0, x1, x2, x3, x4, x5, .int .i64 n]] w fun e w' => ∃ y0 y1 y2 y3 y4 y5, e = .returned (.tuple #[.agg #[y0, y1, y2, y3, y4, y5, .int .i64 n], .int .i64 (rflush r).2]) ∧ (y0.oneCell' = true ∧ y1.oneCell' = true ∧ y2.oneCell' = true ∧ y3.oneCell' = true ∧ y4.oneCell' = true ∧ y5.oneCell' = true) ∧ RfAt w' (.agg #[y0, y1, y2, y3, y4, y5]) (rflush r).1 (N + 1) ∧ Below w.heap.size w w' := by
  obtain ⟨X0, X1, X2⟩ := heap3t w (.cells #[x0, x1, x2, x3, x4, x5, .int .i64 n] 38) (.cells #[.int .i64 0, .slice none 0 0, .slice none 0 0, .int .i64 0, .bool false, .int .i64 0, .int .i64 0] 38) (.cells #[.int .i64 0, .slice none 0 0, .slice none 0 0, .int .i64 0, .bool false, .int .i64 0, .int .i64 0] 38)
  have HB0 : Hid (Below w.heap.size w (((w.alloc (.cells #[x0, x1, x2, x3, x4, x5, .int .i64 n] 38)).alloc (.cells #[.int .i64 0, .slice none 0 0, .slice none 0 0, .int .i64 0, .bool false, .int .i64 0, .int .i64 0] 38)).alloc (.cells #[.int .i64 0, .slice none 0 0, .slice none 0 0, .int .i64 0, .bool false, .int .i64 0, .int .i64 0] 38))) := by show Below _ _ _; go_grown
  have HR := hid2 hR
  have HONE := hid2 h1
  have HKC : Hid (∀ w', Below w.heap.size w w' → Calls Tryz.prog 44 #[.agg #[x0, x1, x2, x3, x4, x5]] w' fun e w'' => ∃ rv', e = .returned (.tuple #[rv', .int .i64 (rflush r).2]) ∧ RfAt w'' rv' (rflush r).1 (N + 1) ∧ Below w'.heap.size w' w'') := fun w' hf => Fla.rflush_any (hR.below hf) hN hLL hSS
  clear hR h1 hLL hSS
  go_enter Tryz.func17, Tryz.ntmps17
  go_wp2_with (refine st38 rfl (.tmp 4) (.tmp 7) rfl (w.heap.size + 1 + 1) rfl _ _ _ _ _ _ _ _ X2.out rfl rfl HONE.out rfl ?_; intro w2 hz2 hg2; have HZ2 := hid2 hz2; have HZ0 := hid2 (Fla.heap_grown X0.out hg2 (by intro e; have := Option.some.inj e; omega)); have HZ1 := hid2 (Fla.heap_grown X1.out hg2 (by intro e; have := Option.some.inj e; omega)); have HB2 : Hid (Below w.heap.size w w2) := HB0.out.grown hg2 HB0.out.size (fun j hj => by cases hj; omega); obtain ⟨⟨q0, q1, q2, q3, q4, q5, q6⟩, qf⟩ := seven HZ0.out; clear hz2 hg2)
  refine (HKC.out w2 HB2.out).mono ?_
  rintro e w3 ⟨rv', rfl, hr3, hb3⟩
  obtain ⟨y0, y1, y2, y3, y4, y5, rfl, hone⟩ := hr3.parts
  have HY := hid2 hone
  have HR3 := hid2 hr3
  have HY1 := hid2 (heap_stays HZ1.out hb3)
  have HY2 := hid2 (heap_stays HZ2.out hb3)
  have HB3 := hid2 (HB2.out.trans (hb3.mono HB2.out.size))
  have hs3 : w.heap.size + 1 + 1 < w3.heap.size := (Array.getElem?_eq_some_iff.1 HY2.out).1
  have HA3 := hid2 (heap_alloc_new w3 (.cells #[.int .i64 0, .slice none 0 0, .slice none 0 0, .int .i64 0, .bool false, .int .i64 0] 36))
  have HBA3 : Hid (Below w3.heap.size w3 (w3.alloc (.cells #[.int .i64 0, .slice none 0 0, .slice none 0 0, .int .i64 0, .bool false, .int .i64 0] 36))) := by show Below _ _ _; go_grown
  have HYA1 := hid2 (heap_stays HY1.out HBA3.out)
  have HYA2 := hid2 (heap_stays HY2.out HBA3.out)
  clear hr3 hone hb3 q0 q1 q2 q3 q4 q5 q6 qf
  go_wp2_with (first | (refine Fla.st33 rfl (.tmp 5) (.tmp 12) rfl w3.heap.size rfl _ _ _ _ _ _ _ HA3.out rfl rfl HY.out ?_; intro w4 hz4 hg4; have hb4 := box_below hg4; have HB4 := hid2 (HB3.out.trans (hb4.mono HB3.out.size)); have HR4 := hid2 (HR3.out.below hb4); have HW1 := hid2 (heap_stays HY1.out hb4); have HW2 := hid2 (heap_stays HY2.out hb4); obtain ⟨⟨p0, p1, p2, p3, p4, p5⟩, pf⟩ := Fla.six' hz4; clear hb4 hz4 hg4) | (refine st36in rfl (.tmp 15) (.tmp 14) rfl (w.heap.size + 1 + 1) rfl _ _ _ _ _ _ _ _ _ _ _ _ _ HW2.out rfl HY.out ?_; intro w5 hz5 hg5; have HR5 := hid2 (rf_boxT HR4.out HW2.out hg5); have HB5 : Hid (Below w.heap.size w w5) := HB4.out.grown hg5 HB4.out.size (fun j hj => by cases hj; omega); have HV1 := hid2 (Fla.heap_grown HW1.out hg5 (by intro e; have := Option.some.inj e; omega)); obtain ⟨⟨s0, s1, s2, s3, s4, s5, s6⟩, sf⟩ := seven hz5; clear hz5 hg5 p0 p1 p2 p3 p4 p5 pf) | (refine st38 rfl (.tmp 2) (.tmp 16) rfl (w.heap.size + 1) rfl _ _ _ _ _ _ _ _ HV1.out rfl rfl HY.out rfl ?_; intro w6 hw6 hg6))
  refine bodyPost_ret (v := .tuple #[.agg #[y0, y1, y2, y3, y4, y5, .int .i64 n], .int .i64 (rflush r).2]) ?_ rfl ⟨y0, y1, y2, y3, y4, y5, rfl, HY.out, rf_boxT HR5.out HV1.out hg6, HB5.out.grown hg6 HB5.out.size (fun j hj => by cases hj; omega)⟩
  exact results38 Tryz.results17 _ _ (w.heap.size + 1) rfl _ _ _ _ _ _ _ 38 (0, 0) hw6 _ rfl

set_option maxHeartbeats 4000000 in
set_option maxRecDepth 10000 in
theorem rttrim_any {w : World} {x0 x1 x2 x3 x4 x5 : Value} {r : Rf} {N : Nat} {n : Int} (hR : RfAt w (.agg #[x0, x1, x2, x3, x4, x5]) r N) (hN : N < 900) (h1 : (x0.oneCell' = true ∧ x1.oneCell' = true ∧ x2.oneCell' = true ∧ x3.oneCell' = true ∧ x4.oneCell' = true ∧ x5.oneCell' = true)) (at_ : Int) :
    Calls Tryz.prog 23 #[.agg #[x0, x1, x2, x3, x4, x5, .int .i64 n], .int .i64 at_] w fun e w' => ∃ y0 y1 y2 y3 y4 y5, e = .returned (.tuple #[.agg #[y0, y1, y2, y3, y4, y5, .int .i64 n], .int .i64 (rtrim r at_).2]) ∧ (y0.oneCell' = true ∧ y1.oneCell' = true ∧ y2.oneCell' = true ∧ y3.oneCell' = true ∧ y4.oneCell' = true ∧ y5.oneCell' = true) ∧ RfAt w' (.agg #[y0, y1, y2, y3, y4, y5]) (rtrim r at_).1 (N + 1) ∧ Below w.heap.size w w' := by
  obtain ⟨X0, X1, X2⟩ := heap3t w (.cells #[x0, x1, x2, x3, x4, x5, .int .i64 n] 38) (.cells #[.int .i64 0, .slice none 0 0, .slice none 0 0, .int .i64 0, .bool false, .int .i64 0, .int .i64 0] 38) (.cells #[.int .i64 0, .slice none 0 0, .slice none 0 0, .int .i64 0, .bool false, .int .i64 0, .int .i64 0] 38)
  have HB0 : Hid (Below w.heap.size w (((w.alloc (.cells #[x0, x1, x2, x3, x4, x5, .int .i64 n] 38)).alloc (.cells #[.int .i64 0, .slice none 0 0, .slice none 0 0, .int .i64 0, .bool false, .int .i64 0, .int .i64 0] 38)).alloc (.cells #[.int .i64 0, .slice none 0 0, .slice none 0 0, .int .i64 0, .bool false, .int .i64 0, .int .i64 0] 38))) := by show Below _ _ _; go_grown
  have HR := hid2 hR
  have HONE := hid2 h1
  have HKC : Hid (∀ w', Below w.heap.size w w' → Calls Tryz.prog 48 #[.agg #[x0, x1, x2, x3, x4, x5], .int .i64 at_] w' fun e w'' => ∃ rv', e = .returned (.tuple #[rv', .int .i64 (rtrim r at_).2]) ∧ RfAt w'' rv' (rtrim r at_).1 (N + 1) ∧ Below w'.heap.size w' w'') := fun w' hf => Fla.rtrim_any (hR.below hf) hN at_
  clear hR h1
  go_enter Tryz.func23, Tryz.ntmps23
  go_wp2_with (refine st38 rfl (.tmp 6) (.tmp 9) rfl (w.heap.size + 1 + 1) rfl _ _ _ _ _ _ _ _ X2.out rfl rfl HONE.out rfl ?_; intro w2 hz2 hg2; have HZ2 := hid2 hz2; have HZ0 := hid2 (Fla.heap_grown X0.out hg2 (by intro e; have := Option.some.inj e; omega)); have HZ1 := hid2 (Fla.heap_grown X1.out hg2 (by intro e; have := Option.some.inj e; omega)); have HB2 : Hid (Below w.heap.size w w2) := HB0.out.grown hg2 HB0.out.size (fun j hj => by cases hj; omega); obtain ⟨⟨q0, q1, q2, q3, q4, q5, q6⟩, qf⟩ := seven HZ0.out; clear hz2 hg2)
  refine (HKC.out w2 HB2.out).mono ?_
  rintro e w3 ⟨rv', rfl, hr3, hb3⟩
  obtain ⟨y0, y1, y2, y3, y4, y5, rfl, hone⟩ := hr3.parts
  have HY := hid2 hone
  have HR3 := hid2 hr3
  have HY1 := hid2 (heap_stays HZ1.out hb3)
  have HY2 := hid2 (heap_stays HZ2.out hb3)
  have HB3 := hid2 (HB2.out.trans (hb3.mono HB2.out.size))
  have hs3 : w.heap.size + 1 + 1 < w3.heap.size := (Array.getElem?_eq_some_iff.1 HY2.out).1
  have HA3 := hid2 (heap_alloc_new w3 (.cells #[.int .i64 0, .slice none 0 0, .slice none 0 0, .int .i64 0, .bool false, .int .i64 0] 36))
  have HBA3 : Hid (Below w3.heap.size w3 (w3.alloc (.cells #[.int .i64 0, .slice none 0 0, .slice none 0 0, .int .i64 0, .bool false, .int .i64 0] 36))) := by show Below _ _ _; go_grown
  have HYA1 := hid2 (heap_stays HY1.out HBA3.out)
  have HYA2 := hid2 (heap_stays HY2.out HBA3.out)
  clear hr3 hone hb3 q0 q1 q2 q3 q4 q5 q6 qf
  go_wp2_with (first | (refine Fla.st33 rfl (.tmp 7) (.tmp 15) rfl w3.heap.size rfl _ _ _ _ _ _ _ HA3.out rfl rfl HY.out ?_; intro w4 hz4 hg4; have hb4 := box_below hg4; have HB4 := hid2 (HB3.out.trans (hb4.mono HB3.out.size)); have HR4 := hid2 (HR3.out.below hb4); have HW1 := hid2 (heap_stays HY1.out hb4); have HW2 := hid2 (heap_stays HY2.out hb4); obtain ⟨⟨p0, p1, p2, p3, p4, p5⟩, pf⟩ := Fla.six' hz4; clear hb4 hz4 hg4) | (refine st36in rfl (.tmp 18) (.tmp 17) rfl (w.heap.size + 1 + 1) rfl _ _ _ _ _ _ _ _ _ _ _ _ _ HW2.out rfl HY.out ?_; intro w5 hz5 hg5; have HR5 := hid2 (rf_boxT HR4.out HW2.out hg5); have HB5 : Hid (Below w.heap.size w w5) := HB4.out.grown hg5 HB4.out.size (fun j hj => by cases hj; omega); have HV1 := hid2 (Fla.heap_grown HW1.out hg5 (by intro e; have := Option.some.inj e; omega)); obtain ⟨⟨s0, s1, s2, s3, s4, s5, s6⟩, sf⟩ := seven hz5; clear hz5 hg5 p0 p1 p2 p3 p4 p5 pf) | (refine st38 rfl (.tmp 4) (.tmp 19) rfl (w.heap.size + 1) rfl _ _ _ _ _ _ _ _ HV1.out rfl rfl HY.out rfl ?_; intro w6 hw6 hg6))
  refine bodyPost_ret (v := .tuple #[.agg #[y0, y1, y2, y3, y4, y5, .int .i64 n], .int .i64 (rtrim r at_).2]) ?_ rfl ⟨y0, y1, y2, y3, y4, y5, rfl, HY.out, rf_boxT HR5.out HV1.out hg6, HB5.out.grown hg6 HB5.out.size (fun j hj => by cases hj; omega)⟩
  exact results38 Tryz.results23 _ _ (w.heap.size + 1) rfl _ _ _ _ _ _ _ 38 (0, 0) hw6 _ rfl
end Go.Proofs.YtkbfihnoohhojaaGreatDoor
