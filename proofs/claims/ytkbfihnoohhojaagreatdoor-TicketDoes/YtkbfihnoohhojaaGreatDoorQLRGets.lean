/-
  Get of the document.
-/
import Derived.Test.YtkbfihnoohhojaaGreatDoorQLApp
namespace Go.Proofs.YtkbfihnoohhojaaGreatDoor.Lea
open Go.RowKit

theorem noughts_more {l : List Nat} {a j x : Nat} (hl : l.length = 256) (ha : a ≤ j) (hx : l[j]? = some x) (h : noughtsB ((l.take j).drop a) = true) (h0 : x = 0) : noughtsB ((l.take (j + 1)).drop a) = true := by
  have hj : j < l.length := (List.getElem?_eq_some_iff.1 hx).1
  rw [take_snoc hx, List.drop_append_of_le_length (by rw [List.length_take]; omega)]
  unfold noughtsB at *
  rw [List.all_append, h, h0]; rfl
theorem noughts_part {l : List Nat} {a j x : Nat} (_hl : l.length = 256) (ha : a ≤ j) (hj : j < 244) (hx : l[j]? = some x) (h0 : x ≠ 0) : noughtsB ((l.take 244).drop a) = false := by
  refine noughts_not (k := j - a) (x := x) ?_ h0
  rw [List.getElem?_drop, List.getElem?_take, if_pos (by omega), show a + (j - a) = j by omega]
  exact hx

set_option maxHeartbeats 1000000 in
theorem rget_short {w : World} {b : Nat} {v : Value} {l : List Nat} (h : SlAt w b v (U l)) (hl : l.length ≠ 256) : Calls Tryz.prog 40 #[v] w fun e w' => ∃ rv, e = .returned rv ∧ RGetAt w w' rv (getP l) := by
  have HGP : Hid (getP l = (6, 0, 0, [])) := by show _ = _; unfold getP; rw [if_pos hl]
  obtain ⟨p, cap, hv, _, _⟩ := h.form
  rw [U_length] at hv
  subst hv
  have hd : ((l.length : Int) != 256) = true := by rw [bne_iff_ne]; omega
  have HX0 : Hid (((w.alloc (.cells #[.int .i64 0, .int .i64 0, .slice none 0 0] 50)).alloc (.cells #[.int .i64 0, .int .i64 0, .slice none 0 0] 50)).heap[w.heap.size]? = some (.cells #[.int .i64 0, .int .i64 0, .slice none 0 0] 50 (0, 0))) := by show _ = _; rw [Below.heap_alloc _ _ _ (by simp)]; exact heap_alloc_new w _
  have HM0 : Hid (((w.alloc (.cells #[.int .i64 0, .int .i64 0, .slice none 0 0] 50)).alloc (.cells #[.int .i64 0, .int .i64 0, .slice none 0 0] 50)).heap[w.heap.size + 1]? = some (.cells #[.int .i64 0, .int .i64 0, .slice none 0 0] 50 (0, 0))) := by have := heap_alloc_new (w.alloc (.cells #[.int .i64 0, .int .i64 0, .slice none 0 0] 50)) (.cells #[.int .i64 0, .int .i64 0, .slice none 0 0] 50); rw [size_alloc] at this; exact this
  have HB0 : Hid (Below w.heap.size w ((w.alloc (.cells #[.int .i64 0, .int .i64 0, .slice none 0 0] 50)).alloc (.cells #[.int .i64 0, .int .i64 0, .slice none 0 0] 50))) := by show Below _ _ _; go_grown
  clear h hl
  go_enter Tryz.func40, Tryz.ntmps40
  obtain ⟨⟨z0, z1, z2⟩, _⟩ := three24 HM0.out
  have hml : w.heap.size + 1 < ((w.alloc (.cells #[.int .i64 0, .int .i64 0, .slice none 0 0] 50)).alloc (.cells #[.int .i64 0, .int .i64 0, .slice none 0 0] 50)).heap.size := (Array.getElem?_eq_some_iff.1 HM0.out).1
  go_wp2_with (refine st24 rfl (.tmp 2) (.tmp 13) rfl w.heap.size rfl _ _ _ _ HX0.out rfl rfl ⟨rfl, rfl, rfl⟩ ?_; intro wz hwz hgz)
  refine bodyPost_ret (v := .tuple #[.agg #[.int .i64 0, .int .i64 0, .slice none 0 0], .int .i64 6]) ?_ rfl ⟨_, rfl, ?_⟩
  · exact results24 Tryz.results40 _ _ w.heap.size rfl _ _ _ 50 (0, 0) hwz _ rfl
  · rw [HGP.out]
    exact RGetAt.err HB0.out hgz

set_option maxHeartbeats 8000000 in
set_option maxRecDepth 10000 in
theorem rget_page_any {w : World} {b off cap : Nat} {l : List Nat} (h : PgAt w b off cap l) : Calls Tryz.prog 40 #[.slice (some ⟨b, off, none⟩) 256 cap] w fun e w' => ∃ rv, e = .returned rv ∧ RGetAt w w' rv (getP l) := by
  have hl := h.len
  have HPG := hid2 h
  have HX0 : Hid (((w.alloc (.cells #[.int .i64 0, .int .i64 0, .slice none 0 0] 50)).alloc (.cells #[.int .i64 0, .int .i64 0, .slice none 0 0] 50)).heap[w.heap.size]? = some (.cells #[.int .i64 0, .int .i64 0, .slice none 0 0] 50 (0, 0))) := by show _ = _; rw [Below.heap_alloc _ _ _ (by simp)]; exact heap_alloc_new w _
  have HM0 : Hid (((w.alloc (.cells #[.int .i64 0, .int .i64 0, .slice none 0 0] 50)).alloc (.cells #[.int .i64 0, .int .i64 0, .slice none 0 0] 50)).heap[w.heap.size + 1]? = some (.cells #[.int .i64 0, .int .i64 0, .slice none 0 0] 50 (0, 0))) := by have := heap_alloc_new (w.alloc (.cells #[.int .i64 0, .int .i64 0, .slice none 0 0] 50)) (.cells #[.int .i64 0, .int .i64 0, .slice none 0 0] 50); rw [size_alloc] at this; exact this
  have HB0 : Hid (Below w.heap.size w ((w.alloc (.cells #[.int .i64 0, .int .i64 0, .slice none 0 0] 50)).alloc (.cells #[.int .i64 0, .int .i64 0, .slice none 0 0] 50))) := by show Below _ _ _; go_grown
  have c0 := h.cap0
  have c1 := h.cap1
  unfold maxLen at c1
  have hlb := h.lt
  obtain ⟨x8, l8, g8, b8⟩ := at_page hl h.byt 8 (by omega)
  obtain ⟨x9, l9, g9, b9⟩ := at_page hl h.byt 9 (by omega)
  obtain ⟨x10, l10, g10, b10⟩ := at_page hl h.byt 10 (by omega)
  have d8 := h.cells 8 _ l8
  have d9 := h.cells 9 _ l9
  have d10 := h.cells 10 _ l10
  have hsz : sizeP l = x9 * 256 + x10 := by unfold sizeP; rw [g9, g10]
  have hkd0 : kindP l = x8 := g8
  have hgen : getP l = if spoiltP l ≠ 0 then (spoiltP l, 0, 0, []) else if 233 < sizeP l then (5, 0, 0, []) else if kindP l < 1 ∨ 5 < kindP l then (12, 0, 0, []) else if noughtsB ((l.take 244).drop (11 + sizeP l)) = false then (5, 0, 0, []) else (0, stampN (num8 (l.take 8)), kindP l, (l.take (11 + sizeP l)).drop 11) := by
    conv => lhs; unfold getP
    rw [if_neg (fun h => h hl)]
  rw [hkd0] at hgen
  have HKS : Hid (∀ w', Below w.heap.size w w' → Calls Tryz.prog 43 #[.slice (some ⟨b, off, none⟩) 8 cap, .slice (some ⟨b, off + 248, none⟩) 8 (cap - 248)] w' fun e w'' => e = .returned (.bool (decide (l.take 8 = l.drop 248))) ∧ ∃ m, w'' = w'.drewN m) := fun w' hb => same_any (h.first8 hb) (h.last8 hb)
  have HST0 : Hid (∀ w', Below w.heap.size w w' → Calls Tryz.prog 55 #[.slice (some ⟨b, off, none⟩) 8 cap] w' fun e w'' => e = .returned (.int .i64 (stampN (num8 (l.take 8)) : Nat)) ∧ Below w'.heap.size w' w'') := fun w' hb => rstamp_any (h.first8 hb) (take8_len hl) (h.byt.take 8)
  have HFT : Hid (∀ w', Below w.heap.size w w' → Calls Tryz.prog 65 #[.slice (some ⟨b, off, none⟩) 248 cap] w' fun e w'' => e = .returned (.bool (fitsB (l.take 248))) ∧ Below w'.heap.size w' w'') := fun w' hb => rfits_any ((h.below hb).first (by omega)) (h.byt.take 248) (by rw [List.length_take]; omega)
  have HSP : Hid (spoiltP l = if l.take 8 ≠ l.drop 248 then 8 else if stampN (num8 (l.take 8)) = 0 then 9 else if fitsB (l.take 248) = false then 7 else 0) := rfl
  have hstl : stampN (num8 (l.take 8)) ≤ 1099511627776 := by unfold stampN; split <;> omega
  clear l8 l9 l10 g8 g9 g10 h
  have i1 : (256 : Int) ≤ (cap : Int) := by omega
  have i2 : (248 : Int) ≤ (cap : Int) := by omega
  have i3 : ¬ cap = 248 := by omega
  have i4 : ¬ cap < 248 := by omega
  have i5 : ¬ cap < 8 := by omega
  have i6 : (8 : Int) ≤ (cap : Int) := by omega
  generalize stampN (num8 (l.take 8)) = st at *
  generalize fitsB (l.take 248) = fb at *
  by_cases he : l.take 8 = l.drop 248
  · rw [decide_eq_true he] at HKS
    rw [if_neg (fun h => h he)] at HSP
    clear he
    by_cases hst : st = 0
    · have HGP : Hid (getP l = (9, 0, 0, [])) := by show _ = _; rw [hgen, HSP.out, if_pos hst]; rfl
      have hz : ((st : Int) == 0) = true := by rw [hst]; rfl
      clear hgen HSP hst
      go_enter Tryz.func40, Tryz.ntmps40
      go_wp2_with fail
      go_quiet ((go_at_call 43; exact Calls.quiet_of (HKS.out _ (HB0.out.trans (below_drewN _ _ _)))))
      have HXq : Hid ((((w.alloc (.cells #[.int .i64 0, .int .i64 0, .slice none 0 0] 50)).alloc (.cells #[.int .i64 0, .int .i64 0, .slice none 0 0] 50)).drewN nq).heap[w.heap.size]? = some (.cells #[.int .i64 0, .int .i64 0, .slice none 0 0] 50 (0, 0))) := HX0.out
      have HMq : Hid ((((w.alloc (.cells #[.int .i64 0, .int .i64 0, .slice none 0 0] 50)).alloc (.cells #[.int .i64 0, .int .i64 0, .slice none 0 0] 50)).drewN nq).heap[w.heap.size + 1]? = some (.cells #[.int .i64 0, .int .i64 0, .slice none 0 0] 50 (0, 0))) := HM0.out
      have HBq : Hid (Below w.heap.size w (((w.alloc (.cells #[.int .i64 0, .int .i64 0, .slice none 0 0] 50)).alloc (.cells #[.int .i64 0, .int .i64 0, .slice none 0 0] 50)).drewN nq)) := HB0.out.trans (below_drewN _ _ _)
      clear HX0 HM0 HB0
      generalize ((w.alloc (.cells #[.int .i64 0, .int .i64 0, .slice none 0 0] 50)).alloc (.cells #[.int .i64 0, .int .i64 0, .slice none 0 0] 50)).drewN nq = wq at *
      go_wp2_with fail
      refine (HST0.out _ HBq.out).mono ?_
      rintro e w2 ⟨rfl, hb2⟩
      have HX2 := hid2 (heap_stays HXq.out hb2)
      have HM2 := hid2 (heap_stays HMq.out hb2)
      have HB2 := hid2 (HBq.out.trans (hb2.mono HBq.out.size))
      clear hb2
      obtain ⟨⟨z0, z1, z2⟩, _⟩ := three24 HM2.out
      have hml : w.heap.size + 1 < w2.heap.size := (Array.getElem?_eq_some_iff.1 HM2.out).1
      go_wp2_with (refine st24 rfl (.tmp 2) (.tmp 25) rfl w.heap.size rfl _ _ _ _ HX2.out rfl rfl ⟨rfl, rfl, rfl⟩ ?_; intro wz hwz hgz)
      refine bodyPost_ret (v := .tuple #[.agg #[.int .i64 0, .int .i64 0, .slice none 0 0], .int .i64 9]) ?_ rfl ⟨_, rfl, ?_⟩
      · exact results24 Tryz.results40 _ _ w.heap.size rfl _ _ _ 50 (0, 0) hwz _ rfl
      · rw [HGP.out]
        exact RGetAt.err HB2.out hgz
    · rw [if_neg hst] at HSP
      have hz : ((st : Int) == 0) = false := by rw [beq_eq_false_iff_ne]; omega
      cases fb
      · have HGP : Hid (getP l = (7, 0, 0, [])) := by show _ = _; rw [hgen, HSP.out, if_pos rfl]; rfl
        clear hgen HSP hst
        go_enter Tryz.func40, Tryz.ntmps40
        go_wp2_with fail
        go_quiet ((go_at_call 43; exact Calls.quiet_of (HKS.out _ (HB0.out.trans (below_drewN _ _ _)))))
        have HXq : Hid ((((w.alloc (.cells #[.int .i64 0, .int .i64 0, .slice none 0 0] 50)).alloc (.cells #[.int .i64 0, .int .i64 0, .slice none 0 0] 50)).drewN nq).heap[w.heap.size]? = some (.cells #[.int .i64 0, .int .i64 0, .slice none 0 0] 50 (0, 0))) := HX0.out
        have HMq : Hid ((((w.alloc (.cells #[.int .i64 0, .int .i64 0, .slice none 0 0] 50)).alloc (.cells #[.int .i64 0, .int .i64 0, .slice none 0 0] 50)).drewN nq).heap[w.heap.size + 1]? = some (.cells #[.int .i64 0, .int .i64 0, .slice none 0 0] 50 (0, 0))) := HM0.out
        have HBq : Hid (Below w.heap.size w (((w.alloc (.cells #[.int .i64 0, .int .i64 0, .slice none 0 0] 50)).alloc (.cells #[.int .i64 0, .int .i64 0, .slice none 0 0] 50)).drewN nq)) := HB0.out.trans (below_drewN _ _ _)
        clear HX0 HM0 HB0
        generalize ((w.alloc (.cells #[.int .i64 0, .int .i64 0, .slice none 0 0] 50)).alloc (.cells #[.int .i64 0, .int .i64 0, .slice none 0 0] 50)).drewN nq = wq at *
        go_wp2_with fail
        refine (HST0.out _ HBq.out).mono ?_
        rintro e w2 ⟨rfl, hb2⟩
        have HX2 := hid2 (heap_stays HXq.out hb2)
        have HM2 := hid2 (heap_stays HMq.out hb2)
        have HB2 := hid2 (HBq.out.trans (hb2.mono HBq.out.size))
        clear hb2
        go_wp2_with fail
        refine (HFT.out _ HB2.out).mono ?_
        rintro e w3 ⟨rfl, hb3⟩
        have HX3 := hid2 (heap_stays HX2.out hb3)
        have HM3 := hid2 (heap_stays HM2.out hb3)
        have HB3 := hid2 (HB2.out.trans (hb3.mono HB2.out.size))
        clear hb3
        obtain ⟨⟨z0, z1, z2⟩, _⟩ := three24 HM3.out
        have hml : w.heap.size + 1 < w3.heap.size := (Array.getElem?_eq_some_iff.1 HM3.out).1
        go_wp2_with (refine st24 rfl (.tmp 2) (.tmp 30) rfl w.heap.size rfl _ _ _ _ HX3.out rfl rfl ⟨rfl, rfl, rfl⟩ ?_; intro wz hwz hgz)
        refine bodyPost_ret (v := .tuple #[.agg #[.int .i64 0, .int .i64 0, .slice none 0 0], .int .i64 7]) ?_ rfl ⟨_, rfl, ?_⟩
        · exact results24 Tryz.results40 _ _ w.heap.size rfl _ _ _ 50 (0, 0) hwz _ rfl
        · rw [HGP.out]
          exact RGetAt.err HB3.out hgz
      · rw [if_neg (by decide)] at HSP
        rw [HSP.out, if_neg (by decide)] at hgen
        have hszl : sizeP l < 65536 := by omega
        have hsi : (x9 : Int) * 256 + (x10 : Int) = ((sizeP l : Nat) : Int) := by rw [hsz]; omega
        clear hsz HSP
        generalize hn : sizeP l = n at *
        clear hn
        go_enter Tryz.func40, Tryz.ntmps40
        go_wp2_with fail
        go_quiet ((go_at_call 43; exact Calls.quiet_of (HKS.out _ (HB0.out.trans (below_drewN _ _ _)))))
        have HXq : Hid ((((w.alloc (.cells #[.int .i64 0, .int .i64 0, .slice none 0 0] 50)).alloc (.cells #[.int .i64 0, .int .i64 0, .slice none 0 0] 50)).drewN nq).heap[w.heap.size]? = some (.cells #[.int .i64 0, .int .i64 0, .slice none 0 0] 50 (0, 0))) := HX0.out
        have HMq : Hid ((((w.alloc (.cells #[.int .i64 0, .int .i64 0, .slice none 0 0] 50)).alloc (.cells #[.int .i64 0, .int .i64 0, .slice none 0 0] 50)).drewN nq).heap[w.heap.size + 1]? = some (.cells #[.int .i64 0, .int .i64 0, .slice none 0 0] 50 (0, 0))) := HM0.out
        have HBq : Hid (Below w.heap.size w (((w.alloc (.cells #[.int .i64 0, .int .i64 0, .slice none 0 0] 50)).alloc (.cells #[.int .i64 0, .int .i64 0, .slice none 0 0] 50)).drewN nq)) := HB0.out.trans (below_drewN _ _ _)
        clear HX0 HM0 HB0
        generalize ((w.alloc (.cells #[.int .i64 0, .int .i64 0, .slice none 0 0] 50)).alloc (.cells #[.int .i64 0, .int .i64 0, .slice none 0 0] 50)).drewN nq = wq at *
        go_wp2_with fail
        refine (HST0.out _ HBq.out).mono ?_
        rintro e w2 ⟨rfl, hb2⟩
        have HX2 := hid2 (heap_stays HXq.out hb2)
        have HM2 := hid2 (heap_stays HMq.out hb2)
        have HB2 := hid2 (HBq.out.trans (hb2.mono HBq.out.size))
        clear hb2
        go_wp2_with fail
        refine (HFT.out _ HB2.out).mono ?_
        rintro e w3 ⟨rfl, hb3⟩
        have HX3 := hid2 (heap_stays HX2.out hb3)
        have HM3 := hid2 (heap_stays HM2.out hb3)
        have HB3 := hid2 (HB2.out.trans (hb3.mono HB2.out.size))
        clear hb3
        have e9 := (HB3.out.cell (p := ⟨b, off + 9, none⟩) hlb).trans d9
        have e10 := (HB3.out.cell (p := ⟨b, off + 10, none⟩) hlb).trans d10
        by_cases hbig : 233 < n
        · have HGP : Hid (getP l = (5, 0, 0, [])) := by show _ = _; rw [hgen, if_pos hbig]
          have hbi : 233 < (n : Int) := by omega
          go_wp2_with fail
          go_quiet (fail)
          have HX4 : Hid ((w3.drewN nq).heap[w.heap.size]? = some (.cells #[.int .i64 0, .int .i64 0, .slice none 0 0] 50 (0, 0))) := HX3.out
          have HM4 : Hid ((w3.drewN nq).heap[w.heap.size + 1]? = some (.cells #[.int .i64 0, .int .i64 0, .slice none 0 0] 50 (0, 0))) := HM3.out
          have HB4 : Hid (Below w.heap.size w (w3.drewN nq)) := HB3.out.trans (below_drewN _ _ _)
          generalize w3.drewN nq = w4 at *
          obtain ⟨⟨z0, z1, z2⟩, _⟩ := three24 HM4.out
          have hml : w.heap.size + 1 < w4.heap.size := (Array.getElem?_eq_some_iff.1 HM4.out).1
          go_wp2_with (refine st24 rfl (.tmp 2) (.tmp 43) rfl w.heap.size rfl _ _ _ _ HX4.out rfl rfl ⟨rfl, rfl, rfl⟩ ?_; intro wz hwz hgz)
          refine bodyPost_ret (v := .tuple #[.agg #[.int .i64 0, .int .i64 0, .slice none 0 0], .int .i64 5]) ?_ rfl ⟨_, rfl, ?_⟩
          · exact results24 Tryz.results40 _ _ w.heap.size rfl _ _ _ 50 (0, 0) hwz _ rfl
          · rw [HGP.out]
            exact RGetAt.err HB4.out hgz
        · rw [if_neg hbig] at hgen
          have hbi : ¬ 233 < (n : Int) := by omega
          have HG12 : Hid (x8 < 1 ∨ 5 < x8 → getP l = (12, 0, 0, [])) := fun h => by rw [hgen, if_pos h]
          have HG5 : Hid (¬ (x8 < 1 ∨ 5 < x8) → noughtsB ((l.take 244).drop (11 + n)) = false → getP l = (5, 0, 0, [])) := fun h h2 => by rw [hgen, if_neg h, if_pos h2]
          have HG0 : Hid (¬ (x8 < 1 ∨ 5 < x8) → noughtsB ((l.take 244).drop (11 + n)) = true → getP l = (0, st, x8, (l.take (11 + n)).drop 11)) := fun h h2 => by rw [hgen, if_neg h, if_neg (by rw [h2]; decide)]
          have HLN : Hid (((l.take (11 + n)).drop 11).length = n) := by show _ = _; rw [List.length_drop, List.length_take]; omega
          clear hgen
          have j1 : (11 : Int) + (n : Int) ≤ (cap : Int) := by omega
          have j2 : ¬ cap = 11 := by omega
          have j3 : ¬ cap < 11 := by omega
          have j4 : (11 : Int) ≤ 11 + (n : Int) := by omega
          have j5 : ¬ cap < 11 + n := by omega
          have j8 : 11 + n - 11 = n := by omega
          have j10 : ((11 : Int) + (n : Int)).toNat - 11 = n := by omega
          have j11 : IntKind.i64.wrap (x8 : Int) = x8 := by rw [IntKind.wrap_i64]; omega
          have j12 : IntKind.i64.wrap (11 + (n : Int)) = 11 + (n : Int) := by rw [IntKind.wrap_i64]; omega
          go_wp2_with fail
          go_quiet (fail)
          have HX5 : Hid ((w3.drewN nq).heap[w.heap.size]? = some (.cells #[.int .i64 0, .int .i64 0, .slice none 0 0] 50 (0, 0))) := HX3.out
          have HM5 : Hid ((w3.drewN nq).heap[w.heap.size + 1]? = some (.cells #[.int .i64 0, .int .i64 0, .slice none 0 0] 50 (0, 0))) := HM3.out
          have HB5 : Hid (Below w.heap.size w (w3.drewN nq)) := HB3.out.trans (below_drewN _ _ _)
          clear e9 e10 HX3 HM3 HB3
          generalize w3.drewN nq = w5 at *
          have HL5 : Hid (w.heap.size + 1 < w5.heap.size) := (Array.getElem?_eq_some_iff.1 HM5.out).1
          have HLB : Hid (b < w5.heap.size) := by have := HL5.out; show b < _; omega
          have HC8 : Hid (w5.drew.cell? ⟨b, off + 8, none⟩ = some (.int .u8 (x8 : Int))) := (HB5.out.cell (p := ⟨b, off + 8, none⟩) hlb).trans d8
          have HST : Hid (∀ w', Below w5.heap.size w5 w' → Calls Tryz.prog 55 #[.slice (some ⟨b, off, none⟩) 8 cap] w' fun e w'' => e = .returned (.int .i64 (st : Int)) ∧ Below w'.heap.size w' w'') := fun w' hb => HST0.out _ (HB5.out.trans (hb.mono HB5.out.size))
          go_wp2_with fail
          refine wp_region_held_drew (S := fun w' => w'.cell? ⟨b, off + 8, none⟩ = some (.int .u8 (x8 : Int))) (by kernel_rfl) (HC8.out) (fun hS => ?_)
          change wpAnyH _ _ _ _ _ _ _ _ (World.drew _)
          refine wpAnyH_take (i := 0) (v := .slice (some ⟨b, off, none⟩) 256 cap) rfl (by kernel_rfl) (by kernel_rfl) (by kernel_rfl) (fun _ _ _ h => h) (Or.inl ⟨by kernel_rfl, ?_⟩) hS ?_
          · intro w hw; clear hw; go_simp
          change wpAnyH _ _ _ _ _ _ _ (Act.put _ (some 44) _) _
          simp only [Act.put, List.setIfInBounds_toArray, List.set_cons_succ, List.set_cons_zero]
          refine wpAnyH_take (i := 1) (v := .slice (some ⟨b, off, none⟩) 8 cap) rfl (by kernel_rfl) (by kernel_rfl) (by kernel_rfl) (fun _ _ _ h => h) (Or.inl ⟨by kernel_rfl, ?_⟩) hS ?_
          · intro w hw; clear hw; go_simp
          change wpAnyH _ _ _ _ _ _ _ (Act.put _ (some 45) _) _
          simp only [Act.put, List.setIfInBounds_toArray, List.set_cons_succ, List.set_cons_zero]
          refine wpAnyH_take (i := 3) (v := .slice (some ⟨b, off, none⟩) 256 cap) rfl (by kernel_rfl) (by kernel_rfl) (by kernel_rfl) (fun _ _ _ h => h) (Or.inl ⟨by kernel_rfl, ?_⟩) hS ?_
          · intro w hw; clear hw; go_simp
          change wpAnyH _ _ _ _ _ _ _ (Act.put _ (some 47) _) _
          simp only [Act.put, List.setIfInBounds_toArray, List.set_cons_succ, List.set_cons_zero]
          refine wpAnyH_take (i := 4) (v := .pointer (some ⟨b, off + 8, none⟩)) rfl (by kernel_rfl) (by kernel_rfl) (by kernel_rfl) (fun _ _ _ h => h) (Or.inl ⟨by kernel_rfl, ?_⟩) hS ?_
          · intro w hw; clear hw; go_simp
          change wpAnyH _ _ _ _ _ _ _ (Act.put _ (some 48) _) _
          simp only [Act.put, List.setIfInBounds_toArray, List.set_cons_succ, List.set_cons_zero]
          refine wpAnyH_take (i := 5) (v := .int .u8 (x8 : Int)) rfl (by kernel_rfl) (by kernel_rfl) (by kernel_rfl) (fun _ _ _ h => h) (Or.inl ⟨by kernel_rfl, ?_⟩) hS ?_
          · intro W hw
            go_simp
          change wpAnyH _ _ _ _ _ _ _ (Act.put _ (some 49) _) _
          simp only [Act.put, List.setIfInBounds_toArray, List.set_cons_succ, List.set_cons_zero]
          refine wpAnyH_take (i := 6) (v := .int .i64 (x8 : Int)) rfl (by kernel_rfl) (by kernel_rfl) (by kernel_rfl) (fun _ _ _ h => h) (Or.inl ⟨by kernel_rfl, ?_⟩) hS ?_
          · intro w hw; clear hw; go_simp
          change wpAnyH _ _ _ _ _ _ _ (Act.put _ (some 50) _) _
          simp only [Act.put, List.setIfInBounds_toArray, List.set_cons_succ, List.set_cons_zero]
          refine wpAnyH_ready (rs := [2, 8]) (by kernel_rfl) (by simp) ?_
          refine AllReadyH.cons rfl (fun K hK => ?_) (AllReadyH.cons rfl (fun K hK => ?_) AllReadyH.nil)
          · go_simp
            go_wp2_with (go_at_call 55; refine (HST.out _ (by go_grown)).mono ?_; rintro e w6 ⟨rfl, hb6⟩)
            refine hK.out _ _ ((hb6.cell (p := ⟨b, off + 8, none⟩) (by have := HLB.out; simp; omega)).trans hS) (fun hS => ?_)
            clear hK K
            skip
            refine wpAnyH_take (i := 7) (v := .agg #[.int .i64 (st : Int), .int .i64 (x8 : Int), .slice none 0 0]) rfl (by kernel_rfl) (by kernel_rfl) (by kernel_rfl) (fun _ _ _ h => h) (Or.inl ⟨by kernel_rfl, ?_⟩) hS ?_
            · intro w hw; clear hw; go_simp
            change wpAnyH _ _ _ _ _ _ _ (Act.put _ (some 51) _) _
            simp only [Act.put, List.setIfInBounds_toArray, List.set_cons_succ, List.set_cons_zero]
            refine wpAnyH_ready (rs := [8]) (by kernel_rfl) (by simp) ?_
            refine AllReadyH.cons rfl (fun K hK => ?_) AllReadyH.nil
            go_simp
            go_wp2_with fail
            refine hK.out _ _ ((Below.cell (B := w6.heap.size) (w' := w6.alloc (.cells #[.int .i64 0, .int .i64 0, .slice none 0 0] 50)) (by go_grown) (p := ⟨b, off + 8, none⟩) (Nat.lt_of_lt_of_le HLB.out hb6.size)).trans hS) (fun hS => ?_)
            clear hK K
            skip
            have hz : (w6.alloc (.cells #[.int .i64 0, .int .i64 0, .slice none 0 0] 50)).heap[w6.heap.size]? = some (.cells #[.int .i64 0, .int .i64 0, .slice none 0 0] 50 (0, 0)) := heap_alloc_new w6 _
            refine wpAnyH_ready (rs := [9]) (by kernel_rfl) (by simp) ?_
            refine AllReadyH.cons rfl (fun K hK => ?_) AllReadyH.nil
            refine step_st24 rfl (.tmp 6) (.tmp 51) rfl w6.heap.size rfl _ _ _ _ hz rfl rfl ⟨rfl, rfl, rfl⟩ ?_
            intro w7 hw7 hg7
            refine hK.out _ _ ((World.cell?_of_block (hg7.block b (by have := HLB.out; have h4 : w5.heap.size ≤ w6.heap.size := hb6.size; simp; omega) (by intro e; cases e; have := HLB.out; have h4 : w5.heap.size ≤ w6.heap.size := hb6.size; omega))).trans hS) (fun hS => ?_)
            clear hK K
            change wpAnyH _ _ _ _ _ _ _ (Act.put _ (none) _) _
            simp only [Act.put]
            refine wpAnyH_done (by kernel_rfl) ?_ _
            have HSZ : Hid (w5.heap.size ≤ w6.heap.size) := hb6.size
            have hba : Below w5.heap.size w5 (w6.alloc (.cells #[.int .i64 0, .int .i64 0, .slice none 0 0] 50)) := ((Below.refl _ _).drew.trans hb6).alloc hb6.size _
            have HOB : Hid (w.heap.size + 1 < w6.heap.size) := by have := HL5.out; show _ < _; have h4 : w5.heap.size ≤ w6.heap.size := HSZ.out; omega
            have HX7 := hid2 (heap_grownBy (heap_stays HX5.out hba) hg7 (by intro e; have := HOB.out; have e2 := Option.some.inj e; omega))
            have HM7 := hid2 (heap_grownBy (heap_stays HM5.out hba) hg7 (by intro e; have := HOB.out; have e2 := Option.some.inj e; omega))
            have HB7 := hid2 ((HB5.out.trans (hba.mono HB5.out.size)).grown hg7 (Nat.le_trans HB5.out.size hba.size) (fun kk hkk => by cases hkk; have := HOB.out; omega))
            have HW7 := hid2 hw7
            clear hw7 hg7 hba hz hb6
            obtain ⟨ob, hob⟩ : ∃ ob, ob = w6.heap.size := ⟨_, rfl⟩
            rw [← hob] at HW7 HOB ⊢
            clear hob HSZ
            obtain ⟨⟨q0, q1, q2⟩, fz⟩ := three24 HW7.out
            have fz2 := fz 2
            have hobl : ob < w7.heap.size := (Array.getElem?_eq_some_iff.1 HW7.out).1
            have hsa : SlAt w7.drew b (.slice (some ⟨b, off + 11, none⟩) n (cap - 11)) (U ((l.take (11 + n)).drop 11)) := HPG.out.bytes HB7.out.drew (by omega)
            have HSA := hid2 hsa
            clear hsa
            go_wp2_with fail
            refine wp_region_held_drew (S := fun _ => True) (by kernel_rfl) (trivial) (fun hS => ?_)
            change wpAnyH _ _ _ _ _ _ _ _ (World.drew _)
            refine wpAnyH_take (i := 0) (v := .pointer (some ⟨ob, 2, none⟩)) rfl (by kernel_rfl) (by kernel_rfl) (by kernel_rfl) (fun _ _ _ h => h) (Or.inl ⟨by kernel_rfl, ?_⟩) hS ?_
            · intro w hw; clear hw; go_simp
            change wpAnyH _ _ _ _ _ _ _ (Act.put _ (some 52) _) _
            simp only [Act.put, List.setIfInBounds_toArray, List.set_cons_succ, List.set_cons_zero]
            refine wpAnyH_take (i := 2) (v := .slice (some ⟨b, off, none⟩) 256 cap) rfl (by kernel_rfl) (by kernel_rfl) (by kernel_rfl) (fun _ _ _ h => h) (Or.inl ⟨by kernel_rfl, ?_⟩) hS ?_
            · intro w hw; clear hw; go_simp
            change wpAnyH _ _ _ _ _ _ _ (Act.put _ (some 54) _) _
            simp only [Act.put, List.setIfInBounds_toArray, List.set_cons_succ, List.set_cons_zero]
            refine wpAnyH_take (i := 3) (v := .int .i64 (n : Int)) rfl (by kernel_rfl) (by kernel_rfl) (by kernel_rfl) (fun _ _ _ h => h) (Or.inl ⟨by kernel_rfl, ?_⟩) hS ?_
            · intro w hw; clear hw; go_simp
            change wpAnyH _ _ _ _ _ _ _ (Act.put _ (some 55) _) _
            simp only [Act.put, List.setIfInBounds_toArray, List.set_cons_succ, List.set_cons_zero]
            refine wpAnyH_take (i := 4) (v := .int .i64 (11 + (n : Int))) rfl (by kernel_rfl) (by kernel_rfl) (by kernel_rfl) (fun _ _ _ h => h) (Or.inl ⟨by kernel_rfl, ?_⟩) hS ?_
            · intro w hw; clear hw; go_simp
            change wpAnyH _ _ _ _ _ _ _ (Act.put _ (some 56) _) _
            simp only [Act.put, List.setIfInBounds_toArray, List.set_cons_succ, List.set_cons_zero]
            refine wpAnyH_take (i := 5) (v := .slice (some ⟨b, off + 11, none⟩) n (cap - 11)) rfl (by kernel_rfl) (by kernel_rfl) (by kernel_rfl) (fun _ _ _ h => h) (Or.inl ⟨by kernel_rfl, ?_⟩) hS ?_
            · intro w hw; clear hw; go_simp
            change wpAnyH _ _ _ _ _ _ _ (Act.put _ (some 57) _) _
            simp only [Act.put, List.setIfInBounds_toArray, List.set_cons_succ, List.set_cons_zero]
            refine wpAnyH_ready (rs := [1]) (by kernel_rfl) (by simp) ?_
            refine AllReadyH.cons rfl (fun K hK => ?_) AllReadyH.nil
            go_simp
            go_wp2_with fail
            refine hK.out _ _ (trivial) (fun hS => ?_)
            clear hK K
            skip
            refine wpAnyH_ready (rs := [6]) (by kernel_rfl) (by simp) ?_
            refine AllReadyH.cons rfl (fun K hK => ?_) AllReadyH.nil
            refine step_append_bytes rfl (.tmp 53) (.tmp 57) rfl w7.heap.size (.slice none 0 0) 0 [] rfl (World.ownsRow_nil _ _ _ _) b (off + 11) n (cap - 11) _ rfl HSA.out (by omega) (Nat.le_refl _) ?_
            intro v8 wa hown8 hgrow8
            rw [Nat.zero_add, List.nil_append] at hown8
            have hba8 : Below w7.heap.size w7 wa := (Below.refl _ _).drew.grown hgrow8 (Nat.le_refl _) (fun kk hkk => by simp [Value.ownBlock] at hkk)
            obtain ⟨pc, cc, hv8⟩ := own_len hown8
            subst hv8
            obtain ⟨⟨r0, r1, r2⟩, fr⟩ := three24 (heap_stays HW7.out hba8)
            have fr2 := fr 2
            have hobl8 : ob < wa.heap.size := Nat.lt_of_lt_of_le hobl hba8.size
            refine hK.out _ _ (trivial) (fun hS => ?_)
            clear hK K
            change wpAnyH _ _ _ _ _ _ _ (Act.put _ (some 58) _) _
            simp only [Act.put, List.setIfInBounds_toArray, List.set_cons_succ, List.set_cons_zero]
            refine wpAnyH_take (i := 7) (v := .pointer (some ⟨ob, 2, none⟩)) rfl (by kernel_rfl) (by kernel_rfl) (by kernel_rfl) (fun _ _ _ h => h) (Or.inl ⟨by kernel_rfl, ?_⟩) hS ?_
            · intro w hw; clear hw; go_simp
            change wpAnyH _ _ _ _ _ _ _ (Act.put _ (some 59) _) _
            simp only [Act.put, List.setIfInBounds_toArray, List.set_cons_succ, List.set_cons_zero]
            refine wpAnyH_ready (rs := [8]) (by kernel_rfl) (by simp) ?_
            refine AllReadyH.cons rfl (fun K hK => ?_) AllReadyH.nil
            go_simp
            go_wp2_with fail
            refine hK.out _ _ (trivial) (fun hS => ?_)
            clear hK K
            skip
            refine wpAnyH_done (by kernel_rfl) ?_ _
            have hg9 := Oct.setCell_grownBy wa ob 2 (.slice pc n cc)
            have HW9 : Hid ((wa.setCell ⟨ob, 2, none⟩ (.slice pc n cc)).heap[ob]? = some (.cells #[.int .i64 (st : Int), .int .i64 (x8 : Int), .slice pc n cc] 50 (0, 0))) := by show _ = _; rw [heap_setCell_same wa ob 2 _ 50 _ (heap_stays HW7.out hba8)]; rfl
            obtain ⟨b8, hb8n, hs8⟩ := own_sl hown8
            have HS9 := hid2 (hs8.grown hg9 (by omega))
            have HX9 := hid2 (heap_grownBy (heap_stays HX7.out hba8) hg9 (by intro e; have := HOB.out; have e2 := Option.some.inj e; omega))
            have HM9 := hid2 (heap_grownBy (heap_stays HM7.out hba8) hg9 (by intro e; have := HOB.out; have e2 := Option.some.inj e; omega))
            have HB9 := hid2 ((HB7.out.trans (hba8.mono HB7.out.size)).grown hg9 (Nat.le_trans HB7.out.size hba8.size) (fun kk hkk => by cases hkk; have := HOB.out; omega))
            have HN8 : Hid (b8 ≠ w.heap.size) := by show b8 ≠ _; have := HOB.out; omega
            clear hg9 hown8 hgrow8 hba8 hs8 hb8n HSA HX7 HM7 HB7 HW7
            generalize wa.setCell ⟨ob, 2, none⟩ (.slice pc n cc) = w9 at *
            obtain ⟨⟨r0, r1, r2⟩, _⟩ := three24 HW9.out
            have hobl9 : ob < w9.heap.size := (Array.getElem?_eq_some_iff.1 HW9.out).1
            go_wp2_with fail
            refine (rcheck_any (st : Int) (x8 : Int) pc n cc w9).mono ?_
            rintro e w10 ⟨rfl, hb10⟩
            have HW10 := hid2 (heap_stays HW9.out hb10)
            have HS10 := hid2 (HS9.out.stays hb10)
            have HPG10 := hid2 (HPG.out.below (HB9.out.trans (hb10.mono HB9.out.size)))
            have HX10 := hid2 (heap_stays HX9.out hb10)
            have HM10 := hid2 (heap_stays HM9.out hb10)
            have HB10 := hid2 (HB9.out.trans (hb10.mono HB9.out.size))
            clear hb10
            by_cases hkd : x8 < 1 ∨ 5 < x8
            · have hcode : checkC (st : Int) (x8 : Int) n = 12 := by
                unfold checkC
                rw [if_neg (by omega), if_pos (by omega)]
              rw [hcode]
              have HGP : Hid (getP l = (12, 0, 0, [])) := HG12.out hkd
              clear hkd hcode
              obtain ⟨⟨z0, z1, z2⟩, _⟩ := three24 HM10.out
              have hml : w.heap.size + 1 < w10.heap.size := (Array.getElem?_eq_some_iff.1 HM10.out).1
              go_wp2_with (refine st24 rfl (.tmp 2) (.tmp 64) rfl w.heap.size rfl _ _ _ _ HX10.out rfl rfl ⟨rfl, rfl, rfl⟩ ?_; intro wz hwz hgz)
              refine bodyPost_ret (v := .tuple #[.agg #[.int .i64 0, .int .i64 0, .slice none 0 0], .int .i64 12]) ?_ rfl ⟨_, rfl, ?_⟩
              · exact results24 Tryz.results40 _ _ w.heap.size rfl _ _ _ 50 (0, 0) hwz _ rfl
              · rw [HGP.out]
                exact RGetAt.err HB10.out hgz
            · have hcode : checkC (st : Int) (x8 : Int) n = 0 := check_fine (by omega) (by omega) (by omega) (by omega) (by omega)
              rw [hcode]
              clear hcode
              have HKD := hid2 hkd
              clear hkd
              go_wp2_with fail
              go_loop [8] (fun i => ∃ j : Nat, i = .int .i64 (j : Int) ∧ 11 + n ≤ j ∧ j ≤ 244 ∧ noughtsB ((l.take j).drop (11 + n)) = true) (fun i => 244 - (intOf i).toNat)
              case atStart => exact ⟨11 + n, by go_num, Nat.le_refl _, by omega, by rw [List.drop_eq_nil_of_le (by rw [List.length_take]; omega)]; rfl⟩
              case round =>
                obtain ⟨j, rfl, hj1, hj2, hno⟩ := hrel
                have HNO := hid2 hno
                clear hno
                by_cases hlt : j < 244
                · have hji : (j : Int) < 244 := by omega
                  obtain ⟨x, hx⟩ : ∃ x, l[j]? = some x := ⟨_, List.getElem?_eq_getElem (by rw [HPG.out.len]; omega)⟩
                  have hcx := HPG10.out.cells j x hx
                  have hj6 : (j : Int) < 256 := by omega
                  by_cases h0 : x = 0
                  · have HN2 : Hid (noughtsB ((l.take (j + 1)).drop (11 + n)) = true) := noughts_more HPG.out.len hj1 hx HNO.out h0
                    have hd : ((x : Int) != 0) = false := by rw [h0]; rfl
                    clear hx h0
                    go_wp2
                    go_round
                    case rel => exact ⟨j + 1, by go_num, by omega, by omega, HN2.out⟩
                    case measure => simp [intOf]; omega
                  · have HGP : Hid (getP l = (5, 0, 0, [])) := HG5.out HKD.out (noughts_part HPG.out.len hj1 hlt hx h0)
                    have hd : ((x : Int) != 0) = true := by rw [bne_iff_ne]; omega
                    clear hx h0
                    obtain ⟨⟨z0, z1, z2⟩, _⟩ := three24 HM10.out
                    have hml : w.heap.size + 1 < w10.heap.size := (Array.getElem?_eq_some_iff.1 HM10.out).1
                    go_wp2_with (refine st24 rfl (.tmp 2) (.tmp 77) rfl w.heap.size rfl _ _ _ _ HX10.out rfl rfl ⟨rfl, rfl, rfl⟩ ?_; intro wz hwz hgz)
                    refine bodyPost_ret (v := .tuple #[.agg #[.int .i64 0, .int .i64 0, .slice none 0 0], .int .i64 5]) ?_ rfl ⟨_, rfl, ?_⟩
                    · exact results24 Tryz.results40 _ _ w.heap.size rfl _ _ _ 50 (0, 0) hwz _ rfl
                    · rw [HGP.out]
                      exact RGetAt.err HB10.out hgz
                · have hj : j = 244 := by omega
                  subst hj
                  have HGP : Hid (getP l = (0, st, x8, (l.take (11 + n)).drop 11)) := HG0.out HKD.out HNO.out
                  obtain ⟨⟨s0, s1, s2⟩, _⟩ := three24 HW10.out
                  have hobl10 : ob < w10.heap.size := (Array.getElem?_eq_some_iff.1 HW10.out).1
                  go_wp2_with (refine st24 rfl (.tmp 2) (.tmp 78) rfl w.heap.size rfl _ _ _ _ HX10.out rfl rfl ⟨rfl, rfl, rfl⟩ ?_; intro wz hwz hgz)
                  refine bodyPost_ret (v := .tuple #[.agg #[.int .i64 (st : Int), .int .i64 (x8 : Int), .slice pc n cc], .int .i64 0]) ?_ rfl ⟨_, rfl, ?_⟩
                  · exact results24 Tryz.results40 _ _ w.heap.size rfl _ _ _ 50 (0, 0) hwz _ rfl
                  · rw [HGP.out]
                    have hs7 := HS10.out.grown hgz HN8.out
                    exact ⟨b8, pc, cc, by rw [HLN.out], by rw [HLN.out]; exact hs7, HB10.out.grown hgz HB10.out.size (fun kk hkk => by cases hkk; exact Nat.le_refl _)⟩
          · go_simp
            go_wp2_with fail
            refine hK.out _ _ ((Below.cell (B := w5.heap.size) (w' := w5.drew.alloc (.cells #[.int .i64 0, .int .i64 0, .slice none 0 0] 50)) (by go_grown) (p := ⟨b, off + 8, none⟩) HLB.out).trans hS) (fun hS => ?_)
            clear hK K
            skip
            refine wpAnyH_ready (rs := [2]) (by kernel_rfl) (by simp) ?_
            refine AllReadyH.cons rfl (fun K hK => ?_) AllReadyH.nil
            go_simp
            go_wp2_with (go_at_call 55; refine (HST.out _ (by go_grown)).mono ?_; rintro e w6 ⟨rfl, hb6⟩)
            have hz : w6.heap[w5.heap.size]? = some (.cells #[.int .i64 0, .int .i64 0, .slice none 0 0] 50 (0, 0)) := heap_stays (heap_alloc_new w5.drew _) hb6
            refine hK.out _ _ ((hb6.cell (p := ⟨b, off + 8, none⟩) (by have := HLB.out; simp; omega)).trans hS) (fun hS => ?_)
            clear hK K
            skip
            refine wpAnyH_take (i := 7) (v := .agg #[.int .i64 (st : Int), .int .i64 (x8 : Int), .slice none 0 0]) rfl (by kernel_rfl) (by kernel_rfl) (by kernel_rfl) (fun _ _ _ h => h) (Or.inl ⟨by kernel_rfl, ?_⟩) hS ?_
            · intro w hw; clear hw; go_simp
            change wpAnyH _ _ _ _ _ _ _ (Act.put _ (some 51) _) _
            simp only [Act.put, List.setIfInBounds_toArray, List.set_cons_succ, List.set_cons_zero]
            refine wpAnyH_ready (rs := [9]) (by kernel_rfl) (by simp) ?_
            refine AllReadyH.cons rfl (fun K hK => ?_) AllReadyH.nil
            refine step_st24 rfl (.tmp 6) (.tmp 51) rfl w5.heap.size rfl _ _ _ _ hz rfl rfl ⟨rfl, rfl, rfl⟩ ?_
            intro w7 hw7 hg7
            refine hK.out _ _ ((World.cell?_of_block (hg7.block b (by have := HLB.out; have h4 : w5.heap.size + 1 ≤ w6.heap.size := (by simpa using hb6.size); omega) (by intro e; cases e; have := HLB.out; omega))).trans hS) (fun hS => ?_)
            clear hK K
            change wpAnyH _ _ _ _ _ _ _ (Act.put _ (none) _) _
            simp only [Act.put]
            refine wpAnyH_done (by kernel_rfl) ?_ _
            have HSZ : Hid (w5.heap.size ≤ w6.heap.size) := (by have h4 : w5.heap.size + 1 ≤ w6.heap.size := (by simpa using hb6.size); show _ ≤ _; omega)
            have hba : Below w5.heap.size w5 w6 := Below.trans (by go_grown) (hb6.mono (by simp))
            have HOB : Hid (w.heap.size + 1 < w5.heap.size) := by have := HL5.out; show _ < _; have h4 : w5.heap.size ≤ w6.heap.size := HSZ.out; omega
            have HX7 := hid2 (heap_grownBy (heap_stays HX5.out hba) hg7 (by intro e; have := HOB.out; have e2 := Option.some.inj e; omega))
            have HM7 := hid2 (heap_grownBy (heap_stays HM5.out hba) hg7 (by intro e; have := HOB.out; have e2 := Option.some.inj e; omega))
            have HB7 := hid2 ((HB5.out.trans (hba.mono HB5.out.size)).grown hg7 (Nat.le_trans HB5.out.size hba.size) (fun kk hkk => by cases hkk; have := HOB.out; omega))
            have HW7 := hid2 hw7
            clear hw7 hg7 hba hz hb6
            obtain ⟨ob, hob⟩ : ∃ ob, ob = w5.heap.size := ⟨_, rfl⟩
            rw [← hob] at HW7 HOB ⊢
            clear hob HSZ
            obtain ⟨⟨q0, q1, q2⟩, fz⟩ := three24 HW7.out
            have fz2 := fz 2
            have hobl : ob < w7.heap.size := (Array.getElem?_eq_some_iff.1 HW7.out).1
            have hsa : SlAt w7.drew b (.slice (some ⟨b, off + 11, none⟩) n (cap - 11)) (U ((l.take (11 + n)).drop 11)) := HPG.out.bytes HB7.out.drew (by omega)
            have HSA := hid2 hsa
            clear hsa
            go_wp2_with fail
            refine wp_region_held_drew (S := fun _ => True) (by kernel_rfl) (trivial) (fun hS => ?_)
            change wpAnyH _ _ _ _ _ _ _ _ (World.drew _)
            refine wpAnyH_take (i := 0) (v := .pointer (some ⟨ob, 2, none⟩)) rfl (by kernel_rfl) (by kernel_rfl) (by kernel_rfl) (fun _ _ _ h => h) (Or.inl ⟨by kernel_rfl, ?_⟩) hS ?_
            · intro w hw; clear hw; go_simp
            change wpAnyH _ _ _ _ _ _ _ (Act.put _ (some 52) _) _
            simp only [Act.put, List.setIfInBounds_toArray, List.set_cons_succ, List.set_cons_zero]
            refine wpAnyH_take (i := 2) (v := .slice (some ⟨b, off, none⟩) 256 cap) rfl (by kernel_rfl) (by kernel_rfl) (by kernel_rfl) (fun _ _ _ h => h) (Or.inl ⟨by kernel_rfl, ?_⟩) hS ?_
            · intro w hw; clear hw; go_simp
            change wpAnyH _ _ _ _ _ _ _ (Act.put _ (some 54) _) _
            simp only [Act.put, List.setIfInBounds_toArray, List.set_cons_succ, List.set_cons_zero]
            refine wpAnyH_take (i := 3) (v := .int .i64 (n : Int)) rfl (by kernel_rfl) (by kernel_rfl) (by kernel_rfl) (fun _ _ _ h => h) (Or.inl ⟨by kernel_rfl, ?_⟩) hS ?_
            · intro w hw; clear hw; go_simp
            change wpAnyH _ _ _ _ _ _ _ (Act.put _ (some 55) _) _
            simp only [Act.put, List.setIfInBounds_toArray, List.set_cons_succ, List.set_cons_zero]
            refine wpAnyH_take (i := 4) (v := .int .i64 (11 + (n : Int))) rfl (by kernel_rfl) (by kernel_rfl) (by kernel_rfl) (fun _ _ _ h => h) (Or.inl ⟨by kernel_rfl, ?_⟩) hS ?_
            · intro w hw; clear hw; go_simp
            change wpAnyH _ _ _ _ _ _ _ (Act.put _ (some 56) _) _
            simp only [Act.put, List.setIfInBounds_toArray, List.set_cons_succ, List.set_cons_zero]
            refine wpAnyH_take (i := 5) (v := .slice (some ⟨b, off + 11, none⟩) n (cap - 11)) rfl (by kernel_rfl) (by kernel_rfl) (by kernel_rfl) (fun _ _ _ h => h) (Or.inl ⟨by kernel_rfl, ?_⟩) hS ?_
            · intro w hw; clear hw; go_simp
            change wpAnyH _ _ _ _ _ _ _ (Act.put _ (some 57) _) _
            simp only [Act.put, List.setIfInBounds_toArray, List.set_cons_succ, List.set_cons_zero]
            refine wpAnyH_ready (rs := [1]) (by kernel_rfl) (by simp) ?_
            refine AllReadyH.cons rfl (fun K hK => ?_) AllReadyH.nil
            go_simp
            go_wp2_with fail
            refine hK.out _ _ (trivial) (fun hS => ?_)
            clear hK K
            skip
            refine wpAnyH_ready (rs := [6]) (by kernel_rfl) (by simp) ?_
            refine AllReadyH.cons rfl (fun K hK => ?_) AllReadyH.nil
            refine step_append_bytes rfl (.tmp 53) (.tmp 57) rfl w7.heap.size (.slice none 0 0) 0 [] rfl (World.ownsRow_nil _ _ _ _) b (off + 11) n (cap - 11) _ rfl HSA.out (by omega) (Nat.le_refl _) ?_
            intro v8 wa hown8 hgrow8
            rw [Nat.zero_add, List.nil_append] at hown8
            have hba8 : Below w7.heap.size w7 wa := (Below.refl _ _).drew.grown hgrow8 (Nat.le_refl _) (fun kk hkk => by simp [Value.ownBlock] at hkk)
            obtain ⟨pc, cc, hv8⟩ := own_len hown8
            subst hv8
            obtain ⟨⟨r0, r1, r2⟩, fr⟩ := three24 (heap_stays HW7.out hba8)
            have fr2 := fr 2
            have hobl8 : ob < wa.heap.size := Nat.lt_of_lt_of_le hobl hba8.size
            refine hK.out _ _ (trivial) (fun hS => ?_)
            clear hK K
            change wpAnyH _ _ _ _ _ _ _ (Act.put _ (some 58) _) _
            simp only [Act.put, List.setIfInBounds_toArray, List.set_cons_succ, List.set_cons_zero]
            refine wpAnyH_take (i := 7) (v := .pointer (some ⟨ob, 2, none⟩)) rfl (by kernel_rfl) (by kernel_rfl) (by kernel_rfl) (fun _ _ _ h => h) (Or.inl ⟨by kernel_rfl, ?_⟩) hS ?_
            · intro w hw; clear hw; go_simp
            change wpAnyH _ _ _ _ _ _ _ (Act.put _ (some 59) _) _
            simp only [Act.put, List.setIfInBounds_toArray, List.set_cons_succ, List.set_cons_zero]
            refine wpAnyH_ready (rs := [8]) (by kernel_rfl) (by simp) ?_
            refine AllReadyH.cons rfl (fun K hK => ?_) AllReadyH.nil
            go_simp
            go_wp2_with fail
            refine hK.out _ _ (trivial) (fun hS => ?_)
            clear hK K
            skip
            refine wpAnyH_done (by kernel_rfl) ?_ _
            have hg9 := Oct.setCell_grownBy wa ob 2 (.slice pc n cc)
            have HW9 : Hid ((wa.setCell ⟨ob, 2, none⟩ (.slice pc n cc)).heap[ob]? = some (.cells #[.int .i64 (st : Int), .int .i64 (x8 : Int), .slice pc n cc] 50 (0, 0))) := by show _ = _; rw [heap_setCell_same wa ob 2 _ 50 _ (heap_stays HW7.out hba8)]; rfl
            obtain ⟨b8, hb8n, hs8⟩ := own_sl hown8
            have HS9 := hid2 (hs8.grown hg9 (by omega))
            have HX9 := hid2 (heap_grownBy (heap_stays HX7.out hba8) hg9 (by intro e; have := HOB.out; have e2 := Option.some.inj e; omega))
            have HM9 := hid2 (heap_grownBy (heap_stays HM7.out hba8) hg9 (by intro e; have := HOB.out; have e2 := Option.some.inj e; omega))
            have HB9 := hid2 ((HB7.out.trans (hba8.mono HB7.out.size)).grown hg9 (Nat.le_trans HB7.out.size hba8.size) (fun kk hkk => by cases hkk; have := HOB.out; omega))
            have HN8 : Hid (b8 ≠ w.heap.size) := by show b8 ≠ _; have := HOB.out; omega
            clear hg9 hown8 hgrow8 hba8 hs8 hb8n HSA HX7 HM7 HB7 HW7
            generalize wa.setCell ⟨ob, 2, none⟩ (.slice pc n cc) = w9 at *
            obtain ⟨⟨r0, r1, r2⟩, _⟩ := three24 HW9.out
            have hobl9 : ob < w9.heap.size := (Array.getElem?_eq_some_iff.1 HW9.out).1
            go_wp2_with fail
            refine (rcheck_any (st : Int) (x8 : Int) pc n cc w9).mono ?_
            rintro e w10 ⟨rfl, hb10⟩
            have HW10 := hid2 (heap_stays HW9.out hb10)
            have HS10 := hid2 (HS9.out.stays hb10)
            have HPG10 := hid2 (HPG.out.below (HB9.out.trans (hb10.mono HB9.out.size)))
            have HX10 := hid2 (heap_stays HX9.out hb10)
            have HM10 := hid2 (heap_stays HM9.out hb10)
            have HB10 := hid2 (HB9.out.trans (hb10.mono HB9.out.size))
            clear hb10
            by_cases hkd : x8 < 1 ∨ 5 < x8
            · have hcode : checkC (st : Int) (x8 : Int) n = 12 := by
                unfold checkC
                rw [if_neg (by omega), if_pos (by omega)]
              rw [hcode]
              have HGP : Hid (getP l = (12, 0, 0, [])) := HG12.out hkd
              clear hkd hcode
              obtain ⟨⟨z0, z1, z2⟩, _⟩ := three24 HM10.out
              have hml : w.heap.size + 1 < w10.heap.size := (Array.getElem?_eq_some_iff.1 HM10.out).1
              go_wp2_with (refine st24 rfl (.tmp 2) (.tmp 64) rfl w.heap.size rfl _ _ _ _ HX10.out rfl rfl ⟨rfl, rfl, rfl⟩ ?_; intro wz hwz hgz)
              refine bodyPost_ret (v := .tuple #[.agg #[.int .i64 0, .int .i64 0, .slice none 0 0], .int .i64 12]) ?_ rfl ⟨_, rfl, ?_⟩
              · exact results24 Tryz.results40 _ _ w.heap.size rfl _ _ _ 50 (0, 0) hwz _ rfl
              · rw [HGP.out]
                exact RGetAt.err HB10.out hgz
            · have hcode : checkC (st : Int) (x8 : Int) n = 0 := check_fine (by omega) (by omega) (by omega) (by omega) (by omega)
              rw [hcode]
              clear hcode
              have HKD := hid2 hkd
              clear hkd
              go_wp2_with fail
              go_loop [8] (fun i => ∃ j : Nat, i = .int .i64 (j : Int) ∧ 11 + n ≤ j ∧ j ≤ 244 ∧ noughtsB ((l.take j).drop (11 + n)) = true) (fun i => 244 - (intOf i).toNat)
              case atStart => exact ⟨11 + n, by go_num, Nat.le_refl _, by omega, by rw [List.drop_eq_nil_of_le (by rw [List.length_take]; omega)]; rfl⟩
              case round =>
                obtain ⟨j, rfl, hj1, hj2, hno⟩ := hrel
                have HNO := hid2 hno
                clear hno
                by_cases hlt : j < 244
                · have hji : (j : Int) < 244 := by omega
                  obtain ⟨x, hx⟩ : ∃ x, l[j]? = some x := ⟨_, List.getElem?_eq_getElem (by rw [HPG.out.len]; omega)⟩
                  have hcx := HPG10.out.cells j x hx
                  have hj6 : (j : Int) < 256 := by omega
                  by_cases h0 : x = 0
                  · have HN2 : Hid (noughtsB ((l.take (j + 1)).drop (11 + n)) = true) := noughts_more HPG.out.len hj1 hx HNO.out h0
                    have hd : ((x : Int) != 0) = false := by rw [h0]; rfl
                    clear hx h0
                    go_wp2
                    go_round
                    case rel => exact ⟨j + 1, by go_num, by omega, by omega, HN2.out⟩
                    case measure => simp [intOf]; omega
                  · have HGP : Hid (getP l = (5, 0, 0, [])) := HG5.out HKD.out (noughts_part HPG.out.len hj1 hlt hx h0)
                    have hd : ((x : Int) != 0) = true := by rw [bne_iff_ne]; omega
                    clear hx h0
                    obtain ⟨⟨z0, z1, z2⟩, _⟩ := three24 HM10.out
                    have hml : w.heap.size + 1 < w10.heap.size := (Array.getElem?_eq_some_iff.1 HM10.out).1
                    go_wp2_with (refine st24 rfl (.tmp 2) (.tmp 77) rfl w.heap.size rfl _ _ _ _ HX10.out rfl rfl ⟨rfl, rfl, rfl⟩ ?_; intro wz hwz hgz)
                    refine bodyPost_ret (v := .tuple #[.agg #[.int .i64 0, .int .i64 0, .slice none 0 0], .int .i64 5]) ?_ rfl ⟨_, rfl, ?_⟩
                    · exact results24 Tryz.results40 _ _ w.heap.size rfl _ _ _ 50 (0, 0) hwz _ rfl
                    · rw [HGP.out]
                      exact RGetAt.err HB10.out hgz
                · have hj : j = 244 := by omega
                  subst hj
                  have HGP : Hid (getP l = (0, st, x8, (l.take (11 + n)).drop 11)) := HG0.out HKD.out HNO.out
                  obtain ⟨⟨s0, s1, s2⟩, _⟩ := three24 HW10.out
                  have hobl10 : ob < w10.heap.size := (Array.getElem?_eq_some_iff.1 HW10.out).1
                  go_wp2_with (refine st24 rfl (.tmp 2) (.tmp 78) rfl w.heap.size rfl _ _ _ _ HX10.out rfl rfl ⟨rfl, rfl, rfl⟩ ?_; intro wz hwz hgz)
                  refine bodyPost_ret (v := .tuple #[.agg #[.int .i64 (st : Int), .int .i64 (x8 : Int), .slice pc n cc], .int .i64 0]) ?_ rfl ⟨_, rfl, ?_⟩
                  · exact results24 Tryz.results40 _ _ w.heap.size rfl _ _ _ 50 (0, 0) hwz _ rfl
                  · rw [HGP.out]
                    have hs7 := HS10.out.grown hgz HN8.out
                    exact ⟨b8, pc, cc, by rw [HLN.out], by rw [HLN.out]; exact hs7, HB10.out.grown hgz HB10.out.size (fun kk hkk => by cases hkk; exact Nat.le_refl _)⟩
  · have HGP : Hid (getP l = (8, 0, 0, [])) := by show _ = _; rw [hgen, HSP.out, if_pos he]; rfl
    rw [decide_eq_false he] at HKS
    clear hgen HSP he
    go_enter Tryz.func40, Tryz.ntmps40
    go_wp2_with fail
    go_quiet ((go_at_call 43; exact Calls.quiet_of (HKS.out _ (HB0.out.trans (below_drewN _ _ _)))))
    have HXq : Hid ((((w.alloc (.cells #[.int .i64 0, .int .i64 0, .slice none 0 0] 50)).alloc (.cells #[.int .i64 0, .int .i64 0, .slice none 0 0] 50)).drewN nq).heap[w.heap.size]? = some (.cells #[.int .i64 0, .int .i64 0, .slice none 0 0] 50 (0, 0))) := HX0.out
    have HMq : Hid ((((w.alloc (.cells #[.int .i64 0, .int .i64 0, .slice none 0 0] 50)).alloc (.cells #[.int .i64 0, .int .i64 0, .slice none 0 0] 50)).drewN nq).heap[w.heap.size + 1]? = some (.cells #[.int .i64 0, .int .i64 0, .slice none 0 0] 50 (0, 0))) := HM0.out
    have HBq : Hid (Below w.heap.size w (((w.alloc (.cells #[.int .i64 0, .int .i64 0, .slice none 0 0] 50)).alloc (.cells #[.int .i64 0, .int .i64 0, .slice none 0 0] 50)).drewN nq)) := HB0.out.trans (below_drewN _ _ _)
    clear HX0 HM0 HB0
    generalize ((w.alloc (.cells #[.int .i64 0, .int .i64 0, .slice none 0 0] 50)).alloc (.cells #[.int .i64 0, .int .i64 0, .slice none 0 0] 50)).drewN nq = wq at *
    obtain ⟨⟨z0, z1, z2⟩, _⟩ := three24 HMq.out
    have hml : w.heap.size + 1 < wq.heap.size := (Array.getElem?_eq_some_iff.1 HMq.out).1
    go_wp2_with (refine st24 rfl (.tmp 2) (.tmp 20) rfl w.heap.size rfl _ _ _ _ HXq.out rfl rfl ⟨rfl, rfl, rfl⟩ ?_; intro wz hwz hgz)
    refine bodyPost_ret (v := .tuple #[.agg #[.int .i64 0, .int .i64 0, .slice none 0 0], .int .i64 8]) ?_ rfl ⟨_, rfl, ?_⟩
    · exact results24 Tryz.results40 _ _ w.heap.size rfl _ _ _ 50 (0, 0) hwz _ rfl
    · rw [HGP.out]
      exact RGetAt.err HBq.out hgz

theorem rget_any {w : World} {b : Nat} {v : Value} {l : List Nat} (h : SlAt w b v (U l)) (hb : Byt l) : Calls Tryz.prog 40 #[v] w fun e w' => ∃ rv, e = .returned rv ∧ RGetAt w w' rv (getP l) := by
  by_cases hl : l.length = 256
  · obtain ⟨off, cap, rfl, hp⟩ := PgAt.of h hl hb
    exact rget_page_any hp
  · exact rget_short h hl
end Go.Proofs.YtkbfihnoohhojaaGreatDoor.Lea
