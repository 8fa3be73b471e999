/-
  Get of the program.
-/
import Derived.Test.YtkbfihnoohhojaaDoorQLow
namespace Go.Proofs.YtkbfihnoohhojaaDoor.Lea
open Go.RowKit

theorem PgAt.rest {w w' : World} {b off cap : Nat} {l : List Nat} (h : PgAt w b off cap l) (hb : Below w.heap.size w w') {n : Nat} (hn : n ≤ 233) : SlAt w' b (.slice (some ⟨b, off + (11 + n), none⟩) (244 - (11 + n)) (cap - (11 + n))) (U ((l.take 244).drop (11 + n))) :=
  (h.below hb).part (i := 11 + n) (j := 244) (by omega) (by omega) (by have := h.cap0; omega) (by have := h.cap1; omega)
theorem PgAt.bytes {w w' : World} {b off cap : Nat} {l : List Nat} (h : PgAt w b off cap l) (hb : Below w.heap.size w w') {n : Nat} (hn : n ≤ 233) : SlAt w' b (.slice (some ⟨b, off + 11, none⟩) n (cap - 11)) (U ((l.take (11 + n)).drop 11)) := by
  have := (h.below hb).part (i := 11) (j := 11 + n) (c := cap - 11) (by omega) (by omega) (by have := h.cap0; omega) (by have := h.cap1; omega)
  rwa [show 11 + n - 11 = n by omega] at this

theorem SlAt.far {w : World} {b : Nat} {v : Value} {xs : List Value} (h : SlAt w b v xs) {lo ob : Nat} (hb : lo < b) (ho : w.heap.size ≤ ob) (hl : lo < ob) : ∃ b', lo < b' ∧ b' ≠ ob ∧ SlAt w b' v xs := by
  rcases h with h | ⟨a, cap, h1, h2, h3, h4⟩
  · exact ⟨ob + 1, by omega, by omega, .inl h⟩
  · rcases h4 with h4 | ⟨off, h5, h6, h7⟩
    · exact ⟨ob + 1, by omega, by omega, .inr ⟨a, cap, h1, h2, h3, .inl h4⟩⟩
    · exact ⟨b, hb, by omega, .inr ⟨a, cap, h1, h2, h3, .inr ⟨off, h5, h6, h7⟩⟩⟩

set_option maxHeartbeats 1000000 in
theorem get_short {w : World} {b : Nat} {v : Value} {l : List Nat} (h : SlAt w b v (U l)) (hl : l.length ≠ 256) : Calls Tryd.prog 46 #[v] w fun e w' => ∃ rv, e = .returned rv ∧ GetAt w w' rv (getP l) := by
  have hgp : getP l = (6, 0, 0, []) := by unfold getP; rw [if_pos hl]
  rw [hgp]
  obtain ⟨p, cap, hv, _, _⟩ := h.form
  rw [U_length] at hv
  subst hv
  have hd : ((l.length : Int) != 256) = true := by rw [bne_iff_ne]; omega
  have HX0 := hid2 (heap_alloc_new w (.cells #[.int .i64 0, .int .i64 0, .slice none 0 0] 25))
  have HB0 : Hid (Below w.heap.size w (w.alloc (.cells #[.int .i64 0, .int .i64 0, .slice none 0 0] 25))) := by show Below _ _ _; go_grown
  clear h hl hgp
  go_enter Tryd.func46, Tryd.ntmps46
  go_wp2_with fail
  refine (new_code1 _ _ _ _).mono ?_
  rintro e w7 ⟨v7, rfl, hv7, hb7⟩
  have hf7 := hv7.fault
  have hX7 := heap_stays HX0.out hb7
  have hB7 := HB0.out.trans (hb7.mono HB0.out.size)
  clear hv7 hb7
  go_wp2_with (refine st24 rfl (.tmp 2) (.tmp 14) rfl w.heap.size rfl _ _ _ _ hX7 rfl rfl ⟨rfl, rfl, rfl⟩ ?_; intro wz hwz hgz)
  refine bodyPost_ret (v := .tuple #[.agg #[.int .i64 0, .int .i64 0, .slice none 0 0], v7]) ?_ rfl ⟨_, rfl, ?_⟩
  · exact results24 Tryd.results46 _ _ w.heap.size rfl _ _ _ 25 (0, 0) hwz _ rfl
  · exact GetAt.err hf7 hB7 hX7 hgz

set_option maxHeartbeats 8000000 in
set_option maxRecDepth 10000 in
theorem get_page_any {w : World} {b off cap : Nat} {l : List Nat} (h : PgAt w b off cap l) : Calls Tryd.prog 46 #[.slice (some ⟨b, off, none⟩) 256 cap] w fun e w' => ∃ rv, e = .returned rv ∧ GetAt w w' rv (getP l) := by
  have hl := h.len
  have HPG := hid2 h
  have HX0 := hid2 (heap_alloc_new w (.cells #[.int .i64 0, .int .i64 0, .slice none 0 0] 25))
  have hb0 : Below w.heap.size w (w.alloc (.cells #[.int .i64 0, .int .i64 0, .slice none 0 0] 25)) := by go_grown
  have HB0 := hid2 hb0
  have K1 := stamps_any ((h.below hb0).sl) h.byt
  have e1 : stampsP l = (stampN (num8 (l.take 8)), stampN (num8 (l.drop 248))) := by unfold stampsP; rw [if_pos hl]
  rw [e1] at K1
  have HK1 := hid2 K1
  have HK2 : Hid (∀ w', Below w.heap.size w w' → Calls Tryd.prog 62 #[.slice (some ⟨b, off, none⟩) 256 cap] w' fun e w'' => e = .returned (.int .i64 (spoiltP l)) ∧ Below w'.heap.size w' w'') := fun w' hb => spoilt_any (h.below hb)
  have c0 := h.cap0
  have c1 := h.cap1
  unfold maxLen at c1
  have hlb := h.lt
  obtain ⟨x8, l8, g8, b8⟩ := at_page hl h.byt 8 (by omega)
  obtain ⟨x9, l9, g9, b9⟩ := at_page hl h.byt 9 (by omega)
  obtain ⟨x10, l10, g10, b10⟩ := at_page hl h.byt 10 (by omega)
  have d8 := h.cells 8 _ l8
  have d9 := h.cells 9 _ l9
  have d10 := h.cells 10 _ l10
  have hsz : sizeP l = x9 * 256 + x10 := by unfold sizeP; rw [g9, g10]
  have hkd0 : kindP l = x8 := g8
  have hgen : getP l = if spoiltP l ≠ 0 then (spoiltP l, 0, 0, []) else if 233 < sizeP l then (5, 0, 0, []) else if kindP l < 1 ∨ 5 < kindP l then (12, 0, 0, []) else if noughtsB ((l.take 244).drop (11 + sizeP l)) = false then (5, 0, 0, []) else (0, stampN (num8 (l.take 8)), kindP l, (l.take (11 + sizeP l)).drop 11) := by
    conv => lhs; unfold getP
    rw [if_neg (fun h => h hl)]
  have hspz : spoiltP l = 0 → 1 ≤ stampN (num8 (l.take 8)) ∧ stampN (num8 (l.take 8)) ≤ 1099511627776 := by
    intro h0
    unfold spoiltP at h0
    split at h0
    · cases h0
    · split at h0
      · cases h0
      · rename_i hst
        refine ⟨by omega, ?_⟩
        unfold stampN
        split <;> omega
  clear K1 e1 hb0 l8 l9 l10 g8 g9 g10 h
  rw [hkd0] at hgen
  generalize hst : stampN (num8 (l.take 8)) = st at *
  generalize stampN (num8 (l.drop 248)) = st2 at *
  generalize spoiltP l = sp at *
  have hd : ((256 : Int) != 256) = false := by decide
  go_enter Tryd.func46, Tryd.ntmps46
  go_wp2_with fail
  refine (show Calls _ _ _ _ _ from HK1).mono ?_
  rintro e w1 ⟨rfl, hb1⟩
  have HX1 := hid2 (heap_stays HX0.out hb1)
  have HB1 := hid2 (HB0.out.trans (hb1.mono HB0.out.size))
  clear hb1
  go_wp2_with fail
  refine (HK2.out _ HB1.out).mono ?_
  rintro e w2 ⟨rfl, hb2⟩
  have HX2 := hid2 (heap_stays HX1.out hb2)
  have HB2 := hid2 (HB1.out.trans (hb2.mono HB1.out.size))
  have HL2 : Hid (w.heap.size < w2.heap.size) := (Array.getElem?_eq_some_iff.1 HX2.out).1
  clear hb2 HK1 HK2 HX0 HX1 HB0 HB1
  by_cases hsp : sp = 0
  · subst hsp
    obtain ⟨hst1, hst2⟩ := hspz rfl
    rw [if_neg (by decide)] at hgen
    have e8 := (HB2.out.cell (p := ⟨b, off + 8, none⟩) hlb).trans d8
    have e9 := (HB2.out.cell (p := ⟨b, off + 9, none⟩) hlb).trans d9
    have e10 := (HB2.out.cell (p := ⟨b, off + 10, none⟩) hlb).trans d10
    have hor := or_i64 (x9 : Int) (x10 : Int) (by omega) (by omega) (by omega) (by omega)
    have hor2 : bits .or .i64 ((x9 : Int) * 256) (x10 : Int) = ((sizeP l : Nat) : Int) := by rw [hor, hsz]; omega
    have hszl : sizeP l < 65536 := by omega
    clear hor hsz d9 d10 hspz
    generalize hn : sizeP l = n at *
    by_cases hbig : 233 < n
    · have HGP : Hid (getP l = (5, 0, 0, [])) := by show _ = _; rw [hgen, if_pos hbig]
      have hbi : 233 < (n : Int) := by omega
      go_wp2_with fail
      go_quiet (fail)
      have HXq : Hid ((w2.drewN nq).heap[w.heap.size]? = some (.cells #[.int .i64 0, .int .i64 0, .slice none 0 0] 25 (0, 0))) := HX2.out
      have HBq : Hid (Below w.heap.size w (w2.drewN nq)) := HB2.out.trans (below_drewN _ _ _)
      go_wp2_with fail
      refine (new_code1 _ _ _ _).mono ?_
      rintro e w7 ⟨v7, rfl, hv7, hb7⟩
      have hf7 := hv7.fault
      have hX7 := heap_stays HXq.out hb7
      have hB7 := HBq.out.trans (hb7.mono HBq.out.size)
      clear hv7 hb7
      go_wp2_with (refine st24 rfl (.tmp 2) (.tmp 43) rfl w.heap.size rfl _ _ _ _ hX7 rfl rfl ⟨rfl, rfl, rfl⟩ ?_; intro wz hwz hgz)
      refine bodyPost_ret (v := .tuple #[.agg #[.int .i64 0, .int .i64 0, .slice none 0 0], v7]) ?_ rfl ⟨_, rfl, ?_⟩
      · exact results24 Tryd.results46 _ _ w.heap.size rfl _ _ _ 25 (0, 0) hwz _ rfl
      · rw [HGP.out]
        exact GetAt.err hf7 hB7 hX7 hgz
    · rw [if_neg hbig] at hgen
      have hbi : ¬ 233 < (n : Int) := by omega
      have HG12 : Hid (x8 < 1 ∨ 5 < x8 → getP l = (12, 0, 0, [])) := fun h => by rw [hgen, if_pos h]
      have HG5 : Hid (¬ (x8 < 1 ∨ 5 < x8) → noughtsB ((l.take 244).drop (11 + n)) = false → getP l = (5, 0, 0, [])) := fun h h2 => by rw [hgen, if_neg h, if_pos h2]
      have HG0 : Hid (¬ (x8 < 1 ∨ 5 < x8) → noughtsB ((l.take 244).drop (11 + n)) = true → getP l = (0, st, x8, (l.take (11 + n)).drop 11)) := fun h h2 => by rw [hgen, if_neg h, if_neg (by rw [h2]; decide)]
      have HLN : Hid (((l.take (11 + n)).drop 11).length = n) := by show _ = _; rw [List.length_drop, List.length_take]; omega
      clear hgen
      have j1 : (11 : Int) + (n : Int) ≤ (cap : Int) := by omega
      have j2 : ¬ cap = 11 := by omega
      have j3 : ¬ cap < 11 := by omega
      have j4 : (11 : Int) ≤ 11 + (n : Int) := by omega
      have j5 : ¬ cap < 11 + n := by omega
      have j6 : ¬ cap = 11 + n := by omega
      have j7 : (11 : Int) + (n : Int) ≤ 244 := by omega
      have j8 : 11 + n - 11 = n := by omega
      have j9 : (244 : Int) ≤ (cap : Int) := by omega
      have j10 : ((11 : Int) + (n : Int)).toNat - 11 = n := by omega
      have j11 : IntKind.i64.wrap (x8 : Int) = x8 := by rw [IntKind.wrap_i64]; omega
      go_wp2_with fail
      go_quiet (fail)
      have HX3 : Hid ((w2.drewN nq).heap[w.heap.size]? = some (.cells #[.int .i64 0, .int .i64 0, .slice none 0 0] 25 (0, 0))) := HX2.out
      have HB3 : Hid (Below w.heap.size w (w2.drewN nq)) := HB2.out.trans (below_drewN _ _ _)
      have HL3 : Hid (w.heap.size < (w2.drewN nq).heap.size) := HL2.out
      clear HX2 HB2 HL2 e8 e9 e10
      generalize w2.drewN nq = w3 at *
      have HCL : Hid (∀ w', Below w3.heap.size w3 w' → Calls Tryd.prog 63 #[.slice (some ⟨b, off + 11, none⟩) n (cap - 11)] w' fun e w'' => ∃ b' p cap', e = .returned (.slice p n cap') ∧ w'.heap.size ≤ b' ∧ SlAt w'' b' (.slice p n cap') (U ((l.take (11 + n)).drop 11)) ∧ Below w'.heap.size w' w'') := fun w' hb' => by
        have := clone_any (HPG.out.bytes (HB3.out.trans (hb'.mono HB3.out.size)) (n := n) (by omega)) (by rw [HLN.out]; omega)
        rw [HLN.out] at this
        exact this
      have HLB : Hid (b < w3.heap.size) := by have := HL3.out; show b < _; omega
      have HC8 : Hid (w3.drew.cell? ⟨b, off + 8, none⟩ = some (.int .u8 (x8 : Int))) := (HB3.out.cell (p := ⟨b, off + 8, none⟩) hlb).trans d8
      go_wp2_with fail
      refine wp_region_held_drew (S := fun w' => w'.cell? ⟨b, off + 8, none⟩ = some (.int .u8 (x8 : Int))) (by kernel_rfl) (HC8.out) (fun hS => ?_)
      change wpAnyH _ _ _ _ _ _ _ _ (World.drew _)
      refine wpAnyH_take (i := 0) (v := .int .i64 (st : Int)) rfl (by kernel_rfl) (by kernel_rfl) (by kernel_rfl) (fun _ _ _ h => h) (Or.inl ⟨by kernel_rfl, ?_⟩) hS ?_
      · intro w hw; clear hw; go_simp
      change wpAnyH _ _ _ _ _ _ _ (Act.put _ (some 48) _) _
      simp only [Act.put, List.setIfInBounds_toArray, List.set_cons_succ, List.set_cons_zero]
      refine wpAnyH_take (i := 1) (v := .slice (some ⟨b, off, none⟩) 256 cap) rfl (by kernel_rfl) (by kernel_rfl) (by kernel_rfl) (fun _ _ _ h => h) (Or.inl ⟨by kernel_rfl, ?_⟩) hS ?_
      · intro w hw; clear hw; go_simp
      change wpAnyH _ _ _ _ _ _ _ (Act.put _ (some 49) _) _
      simp only [Act.put, List.setIfInBounds_toArray, List.set_cons_succ, List.set_cons_zero]
      refine wpAnyH_take (i := 2) (v := .pointer (some ⟨b, off + 8, none⟩)) rfl (by kernel_rfl) (by kernel_rfl) (by kernel_rfl) (fun _ _ _ h => h) (Or.inl ⟨by kernel_rfl, ?_⟩) hS ?_
      · intro w hw; clear hw; go_simp
      change wpAnyH _ _ _ _ _ _ _ (Act.put _ (some 50) _) _
      simp only [Act.put, List.setIfInBounds_toArray, List.set_cons_succ, List.set_cons_zero]
      refine wpAnyH_take (i := 3) (v := .int .u8 (x8 : Int)) rfl (by kernel_rfl) (by kernel_rfl) (by kernel_rfl) (fun _ _ _ h => h) (Or.inl ⟨by kernel_rfl, ?_⟩) hS ?_
      · intro W hw
        go_simp
      change wpAnyH _ _ _ _ _ _ _ (Act.put _ (some 51) _) _
      simp only [Act.put, List.setIfInBounds_toArray, List.set_cons_succ, List.set_cons_zero]
      refine wpAnyH_take (i := 4) (v := .int .i64 (x8 : Int)) rfl (by kernel_rfl) (by kernel_rfl) (by kernel_rfl) (fun _ _ _ h => h) (Or.inl ⟨by kernel_rfl, ?_⟩) hS ?_
      · intro w hw; clear hw; go_simp
      change wpAnyH _ _ _ _ _ _ _ (Act.put _ (some 52) _) _
      simp only [Act.put, List.setIfInBounds_toArray, List.set_cons_succ, List.set_cons_zero]
      refine wpAnyH_take (i := 5) (v := .slice (some ⟨b, off, none⟩) 256 cap) rfl (by kernel_rfl) (by kernel_rfl) (by kernel_rfl) (fun _ _ _ h => h) (Or.inl ⟨by kernel_rfl, ?_⟩) hS ?_
      · intro w hw; clear hw; go_simp
      change wpAnyH _ _ _ _ _ _ _ (Act.put _ (some 53) _) _
      simp only [Act.put, List.setIfInBounds_toArray, List.set_cons_succ, List.set_cons_zero]
      refine wpAnyH_take (i := 6) (v := .int .i64 ((11 + n : Nat) : Int)) rfl (by kernel_rfl) (by kernel_rfl) (by kernel_rfl) (fun _ _ _ h => h) (Or.inl ⟨by kernel_rfl, ?_⟩) hS ?_
      · intro w hw; clear hw; go_simp
      change wpAnyH _ _ _ _ _ _ _ (Act.put _ (some 54) _) _
      simp only [Act.put, List.setIfInBounds_toArray, List.set_cons_succ, List.set_cons_zero]
      refine wpAnyH_take (i := 7) (v := .slice (some ⟨b, off + 11, none⟩) n (cap - 11)) rfl (by kernel_rfl) (by kernel_rfl) (by kernel_rfl) (fun _ _ _ h => h) (Or.inl ⟨by kernel_rfl, ?_⟩) hS ?_
      · intro w hw; clear hw; go_simp
      change wpAnyH _ _ _ _ _ _ _ (Act.put _ (some 55) _) _
      simp only [Act.put, List.setIfInBounds_toArray, List.set_cons_succ, List.set_cons_zero]
      refine wpAnyH_ready (rs := [8, 10]) (by kernel_rfl) (by simp) ?_
      refine AllReadyH.cons rfl (fun K hK => ?_) (AllReadyH.cons rfl (fun K hK => ?_) AllReadyH.nil)
      · go_simp
        go_wp2_with (go_at_call 63; refine (HCL.out _ (by go_grown)).mono ?_; rintro e w4 ⟨bc, pc, cc, rfl, hbc, hsc, hb4⟩)
        refine hK.out _ _ ((hb4.cell (p := ⟨b, off + 8, none⟩) (by have := HLB.out; simp; omega)).trans hS) (fun hS => ?_)
        clear hK K
        skip
        refine wpAnyH_take (i := 9) (v := .agg #[.int .i64 (st : Int), .int .i64 (x8 : Int), .slice pc n cc]) rfl (by kernel_rfl) (by kernel_rfl) (by kernel_rfl) (fun _ _ _ h => h) (Or.inl ⟨by kernel_rfl, ?_⟩) hS ?_
        · intro w hw; clear hw; go_simp
        change wpAnyH _ _ _ _ _ _ _ (Act.put _ (some 57) _) _
        simp only [Act.put, List.setIfInBounds_toArray, List.set_cons_succ, List.set_cons_zero]
        refine wpAnyH_ready (rs := [10]) (by kernel_rfl) (by simp) ?_
        refine AllReadyH.cons rfl (fun K hK => ?_) AllReadyH.nil
        go_simp
        go_wp2_with fail
        refine hK.out _ _ ((Below.cell (B := w4.heap.size) (w' := w4.alloc (.cells #[.int .i64 0, .int .i64 0, .slice none 0 0] 25)) (by go_grown) (p := ⟨b, off + 8, none⟩) (by have := hb4.size; have := HLB.out; show b < _; exact Nat.lt_of_lt_of_le this hb4.size)).trans hS) (fun hS => ?_)
        clear hK K
        skip
        have hz10 : (w4.alloc (.cells #[.int .i64 0, .int .i64 0, .slice none 0 0] 25)).heap[w4.heap.size]? = some (.cells #[.int .i64 0, .int .i64 0, .slice none 0 0] 25 (0, 0)) := heap_alloc_new w4 _
        refine wpAnyH_ready (rs := [11]) (by kernel_rfl) (by simp) ?_
        refine AllReadyH.cons rfl (fun K hK => ?_) AllReadyH.nil
        refine step_st24 rfl (.tmp 9) (.tmp 57) rfl w4.heap.size rfl _ _ _ _ hz10 rfl rfl ⟨rfl, rfl, rfl⟩ ?_
        intro w5 hw5 hg5
        refine hK.out _ _ ((World.cell?_of_block (hg5.block b (by have := HLB.out; have h4 : w3.heap.size ≤ w4.heap.size := hb4.size; simp; omega) (by intro e; cases e; have := HLB.out; have h4 : w3.heap.size ≤ w4.heap.size := hb4.size; omega))).trans hS) (fun hS => ?_)
        clear hK K
        change wpAnyH _ _ _ _ _ _ _ (Act.put _ (none) _) _
        simp only [Act.put]
        refine wpAnyH_done (by kernel_rfl) ?_ _
        have hb4' : Below w3.heap.size w3 w4 := (Below.refl _ _).drew.trans hb4
        have hXa := heap_alloc_old' (heap_stays HX3.out hb4') (.cells #[.int .i64 0, .int .i64 0, .slice none 0 0] 25)
        have hBa := (HB3.out.trans (hb4'.mono HB3.out.size)).alloc (Nat.le_trans HB3.out.size hb4.size) (.cells #[.int .i64 0, .int .i64 0, .slice none 0 0] 25)
        obtain ⟨bd, hbd1, hbd2, hsd⟩ := hsc.far (lo := w.heap.size) (ob := w4.heap.size) (by have := HL3.out; have h4 : w3.heap.size ≤ bc := hbc; omega) (Nat.le_refl _) (by have := HL3.out; have h4 : w3.heap.size ≤ w4.heap.size := hb4.size; omega)
        have hSa := hsd.stays (w' := w4.alloc (.cells #[.int .i64 0, .int .i64 0, .slice none 0 0] 25)) (by go_grown)
        have HOB : Hid (w.heap.size < w4.heap.size) := (by show w.heap.size < _; have h4 : w3.heap.size ≤ w4.heap.size := hb4.size; have := HL3.out; omega)
        have HXa := hid2 hXa
        have HBa := hid2 hBa
        have HSC := hid2 hSa
        have HNB : Hid (bd ≠ w4.heap.size) := hbd2
        have HBC : Hid (w.heap.size < bd) := hbd1
        have HW5 := hid2 hw5
        have HX5 := hid2 (heap_grownBy HXa.out hg5 (by intro e; have := HOB.out; have e2 := Option.some.inj e; omega))
        have HB5 := hid2 (HBa.out.grown hg5 HBa.out.size (fun kk hkk => by cases hkk; have := HOB.out; omega))
        have HS5 := hid2 (HSC.out.grown hg5 HNB.out)
        clear hw5 hg5
        obtain ⟨ob, hob⟩ : ∃ ob, ob = w4.heap.size := ⟨_, rfl⟩
        rw [← hob] at HW5 ⊢
        have HOL : Hid (w.heap.size < ob) := by show w.heap.size < ob; rw [hob]; exact HOB.out
        clear hob
        obtain ⟨⟨q0, q1, q2⟩, _⟩ := three24 HW5.out
        have hobl : ob < w5.heap.size := (Array.getElem?_eq_some_iff.1 HW5.out).1
        go_wp2_with fail
        refine (check_any (st : Int) (x8 : Int) pc n cc w5 (by omega)).mono ?_
        rintro e w6 ⟨v6, rfl, hv6, hb6⟩
        have HX6 := hid2 (heap_stays HX5.out hb6)
        have HB6 := hid2 (HB5.out.trans (hb6.mono HB5.out.size))
        have HW6 := hid2 (heap_stays HW5.out hb6)
        have HS6 := hid2 (HS5.out.stays hb6)
        by_cases hkd : x8 < 1 ∨ 5 < x8
        · have hcode : checkC (st : Int) (x8 : Int) n = 12 := by
            unfold checkC
            rw [if_neg (by omega), if_pos (by omega)]
          rw [hcode] at hv6
          have HGP : Hid (getP l = (12, 0, 0, [])) := HG12.out hkd
          have HV6 := hid2 hv6
          obtain ⟨a6, rfl⟩ := hv6.fault.some (by decide)
          clear hv6 hb6 hkd hcode
          go_wp2_with fail
          refine (wrap_code1 _ _ HV6.out).mono ?_
          rintro e w7 ⟨v7, rfl, hv7, hb7⟩
          have hf7 := hv7
          have hX7 := heap_stays HX6.out hb7
          have hB7 := HB6.out.trans (hb7.mono HB6.out.size)
          clear hv7 hb7
          go_wp2_with (refine st24 rfl (.tmp 2) (.tmp 62) rfl w.heap.size rfl _ _ _ _ hX7 rfl rfl ⟨rfl, rfl, rfl⟩ ?_; intro wz hwz hgz)
          refine bodyPost_ret (v := .tuple #[.agg #[.int .i64 0, .int .i64 0, .slice none 0 0], v7]) ?_ rfl ⟨_, rfl, ?_⟩
          · exact results24 Tryd.results46 _ _ w.heap.size rfl _ _ _ 25 (0, 0) hwz _ rfl
          · rw [HGP.out]
            exact GetAt.err hf7 hB7 hX7 hgz
        · have hcode : checkC (st : Int) (x8 : Int) n = 0 := check_fine (by omega) (by omega) (by omega) (by omega) (by omega)
          rw [hcode] at hv6
          obtain rfl := hv6.fault.none
          have HNO := hid2 (noughts_any (HPG.out.rest HB6.out (n := n) (by omega)))
          have hcase : noughtsB ((l.take 244).drop (11 + n)) = false ∨ noughtsB ((l.take 244).drop (11 + n)) = true := by cases noughtsB ((l.take 244).drop (11 + n)) <;> simp
          rcases hcase with hno | hno
          · rw [hno] at HNO
            have HGP : Hid (getP l = (5, 0, 0, [])) := HG5.out hkd hno
            clear hv6 hb6 hcode hno
            go_wp2_with fail
            refine (show Calls _ _ _ _ _ from HNO).mono ?_
            rintro e wn ⟨rfl, hwn⟩
            cases hwn
            go_wp2_with fail
            refine (new_code1 _ _ _ _).mono ?_
            rintro e w7 ⟨v7, rfl, hv7, hb7⟩
            have hf7 := hv7.fault
            have hX7 := heap_stays HX6.out hb7
            have hB7 := HB6.out.trans (hb7.mono HB6.out.size)
            clear hv7 hb7
            go_wp2_with (refine st24 rfl (.tmp 2) (.tmp 71) rfl w.heap.size rfl _ _ _ _ hX7 rfl rfl ⟨rfl, rfl, rfl⟩ ?_; intro wz hwz hgz)
            refine bodyPost_ret (v := .tuple #[.agg #[.int .i64 0, .int .i64 0, .slice none 0 0], v7]) ?_ rfl ⟨_, rfl, ?_⟩
            · exact results24 Tryd.results46 _ _ w.heap.size rfl _ _ _ 25 (0, 0) hwz _ rfl
            · rw [HGP.out]
              exact GetAt.err hf7 hB7 hX7 hgz
          · rw [hno] at HNO
            have HGP : Hid (getP l = (0, st, x8, (l.take (11 + n)).drop 11)) := HG0.out hkd hno
            obtain ⟨⟨q0, q1, q2⟩, _⟩ := three24 HW6.out
            have hobl6 : ob < w6.heap.size := (Array.getElem?_eq_some_iff.1 HW6.out).1
            clear hv6 hb6 hcode hno
            go_wp2_with fail
            refine (show Calls _ _ _ _ _ from HNO).mono ?_
            rintro e wn ⟨rfl, hwn⟩
            cases hwn
            go_wp2_with (refine st24 rfl (.tmp 2) (.tmp 74) rfl w.heap.size rfl _ _ _ _ HX6.out rfl rfl ⟨rfl, rfl, rfl⟩ ?_; intro wz hwz hgz)
            refine bodyPost_ret (v := .tuple #[.agg #[.int .i64 (st : Int), .int .i64 (x8 : Int), .slice pc n cc], .nilIface]) ?_ rfl ⟨_, rfl, ?_⟩
            · exact results24 Tryd.results46 _ _ w.heap.size rfl _ _ _ 25 (0, 0) hwz _ rfl
            · rw [HGP.out]
              have hs7 := HS6.out.grown hgz (by have := HBC.out; omega)
              exact ⟨_, pc, cc, _, Nat.le_of_lt HBC.out, by rw [HLN.out], by rw [HLN.out]; exact hs7, Fault.nil _, HB6.out.grown hgz HB6.out.size (fun kk hkk => by cases hkk; exact Nat.le_refl _)⟩
      · go_simp
        go_wp2_with fail
        refine hK.out _ _ ((Below.cell (B := w3.heap.size) (w' := w3.drew.alloc (.cells #[.int .i64 0, .int .i64 0, .slice none 0 0] 25)) (by go_grown) (p := ⟨b, off + 8, none⟩) HLB.out).trans hS) (fun hS => ?_)
        clear hK K
        skip
        refine wpAnyH_ready (rs := [8]) (by kernel_rfl) (by simp) ?_
        refine AllReadyH.cons rfl (fun K hK => ?_) AllReadyH.nil
        go_simp
        go_wp2_with (go_at_call 63; refine (HCL.out _ (by go_grown)).mono ?_; rintro e w4 ⟨bc, pc, cc, rfl, hbc, hsc, hb4⟩)
        have hz10 : w4.heap[w3.heap.size]? = some (.cells #[.int .i64 0, .int .i64 0, .slice none 0 0] 25 (0, 0)) := heap_stays (heap_alloc_new w3.drew _) hb4
        refine hK.out _ _ ((hb4.cell (p := ⟨b, off + 8, none⟩) (by have := HLB.out; simp; omega)).trans hS) (fun hS => ?_)
        clear hK K
        skip
        refine wpAnyH_take (i := 9) (v := .agg #[.int .i64 (st : Int), .int .i64 (x8 : Int), .slice pc n cc]) rfl (by kernel_rfl) (by kernel_rfl) (by kernel_rfl) (fun _ _ _ h => h) (Or.inl ⟨by kernel_rfl, ?_⟩) hS ?_
        · intro w hw; clear hw; go_simp
        change wpAnyH _ _ _ _ _ _ _ (Act.put _ (some 57) _) _
        simp only [Act.put, List.setIfInBounds_toArray, List.set_cons_succ, List.set_cons_zero]
        refine wpAnyH_ready (rs := [11]) (by kernel_rfl) (by simp) ?_
        refine AllReadyH.cons rfl (fun K hK => ?_) AllReadyH.nil
        refine step_st24 rfl (.tmp 9) (.tmp 57) rfl w3.heap.size rfl _ _ _ _ hz10 rfl rfl ⟨rfl, rfl, rfl⟩ ?_
        intro w5 hw5 hg5
        refine hK.out _ _ ((World.cell?_of_block (hg5.block b (by have := HLB.out; have := hb4.size; simp at this; omega) (by intro e; cases e; have := HLB.out; omega))).trans hS) (fun hS => ?_)
        clear hK K
        change wpAnyH _ _ _ _ _ _ _ (Act.put _ (none) _) _
        simp only [Act.put]
        refine wpAnyH_done (by kernel_rfl) ?_ _
        have hb4' : Below w3.heap.size w3 w4 := Below.trans (by go_grown) (hb4.mono (by simp))
        have hXa := heap_stays HX3.out hb4'
        have hBa := HB3.out.trans (hb4'.mono HB3.out.size)
        have hSa := hsc
        have HOB : Hid (w.heap.size < w3.heap.size) := (by show w.heap.size < _; have := HL3.out; omega)
        have HXa := hid2 hXa
        have HBa := hid2 hBa
        have HSC := hid2 hSa
        have HNB : Hid (bc ≠ w3.heap.size) := (by show bc ≠ w3.heap.size; have h4 : w3.heap.size + 1 ≤ bc := (by simpa using hbc); omega)
        have HBC : Hid (w.heap.size < bc) := (by show w.heap.size < bc; have := HL3.out; have h4 : w3.heap.size + 1 ≤ bc := (by simpa using hbc); omega)
        have HW5 := hid2 hw5
        have HX5 := hid2 (heap_grownBy HXa.out hg5 (by intro e; have := HOB.out; have e2 := Option.some.inj e; omega))
        have HB5 := hid2 (HBa.out.grown hg5 HBa.out.size (fun kk hkk => by cases hkk; have := HOB.out; omega))
        have HS5 := hid2 (HSC.out.grown hg5 HNB.out)
        clear hw5 hg5
        obtain ⟨ob, hob⟩ : ∃ ob, ob = w3.heap.size := ⟨_, rfl⟩
        rw [← hob] at HW5 ⊢
        have HOL : Hid (w.heap.size < ob) := by show w.heap.size < ob; rw [hob]; exact HOB.out
        clear hob
        obtain ⟨⟨q0, q1, q2⟩, _⟩ := three24 HW5.out
        have hobl : ob < w5.heap.size := (Array.getElem?_eq_some_iff.1 HW5.out).1
        go_wp2_with fail
        refine (check_any (st : Int) (x8 : Int) pc n cc w5 (by omega)).mono ?_
        rintro e w6 ⟨v6, rfl, hv6, hb6⟩
        have HX6 := hid2 (heap_stays HX5.out hb6)
        have HB6 := hid2 (HB5.out.trans (hb6.mono HB5.out.size))
        have HW6 := hid2 (heap_stays HW5.out hb6)
        have HS6 := hid2 (HS5.out.stays hb6)
        by_cases hkd : x8 < 1 ∨ 5 < x8
        · have hcode : checkC (st : Int) (x8 : Int) n = 12 := by
            unfold checkC
            rw [if_neg (by omega), if_pos (by omega)]
          rw [hcode] at hv6
          have HGP : Hid (getP l = (12, 0, 0, [])) := HG12.out hkd
          have HV6 := hid2 hv6
          obtain ⟨a6, rfl⟩ := hv6.fault.some (by decide)
          clear hv6 hb6 hkd hcode
          go_wp2_with fail
          refine (wrap_code1 _ _ HV6.out).mono ?_
          rintro e w7 ⟨v7, rfl, hv7, hb7⟩
          have hf7 := hv7
          have hX7 := heap_stays HX6.out hb7
          have hB7 := HB6.out.trans (hb7.mono HB6.out.size)
          clear hv7 hb7
          go_wp2_with (refine st24 rfl (.tmp 2) (.tmp 62) rfl w.heap.size rfl _ _ _ _ hX7 rfl rfl ⟨rfl, rfl, rfl⟩ ?_; intro wz hwz hgz)
          refine bodyPost_ret (v := .tuple #[.agg #[.int .i64 0, .int .i64 0, .slice none 0 0], v7]) ?_ rfl ⟨_, rfl, ?_⟩
          · exact results24 Tryd.results46 _ _ w.heap.size rfl _ _ _ 25 (0, 0) hwz _ rfl
          · rw [HGP.out]
            exact GetAt.err hf7 hB7 hX7 hgz
        · have hcode : checkC (st : Int) (x8 : Int) n = 0 := check_fine (by omega) (by omega) (by omega) (by omega) (by omega)
          rw [hcode] at hv6
          obtain rfl := hv6.fault.none
          have HNO := hid2 (noughts_any (HPG.out.rest HB6.out (n := n) (by omega)))
          have hcase : noughtsB ((l.take 244).drop (11 + n)) = false ∨ noughtsB ((l.take 244).drop (11 + n)) = true := by cases noughtsB ((l.take 244).drop (11 + n)) <;> simp
          rcases hcase with hno | hno
          · rw [hno] at HNO
            have HGP : Hid (getP l = (5, 0, 0, [])) := HG5.out hkd hno
            clear hv6 hb6 hcode hno
            go_wp2_with fail
            refine (show Calls _ _ _ _ _ from HNO).mono ?_
            rintro e wn ⟨rfl, hwn⟩
            cases hwn
            go_wp2_with fail
            refine (new_code1 _ _ _ _).mono ?_
            rintro e w7 ⟨v7, rfl, hv7, hb7⟩
            have hf7 := hv7.fault
            have hX7 := heap_stays HX6.out hb7
            have hB7 := HB6.out.trans (hb7.mono HB6.out.size)
            clear hv7 hb7
            go_wp2_with (refine st24 rfl (.tmp 2) (.tmp 71) rfl w.heap.size rfl _ _ _ _ hX7 rfl rfl ⟨rfl, rfl, rfl⟩ ?_; intro wz hwz hgz)
            refine bodyPost_ret (v := .tuple #[.agg #[.int .i64 0, .int .i64 0, .slice none 0 0], v7]) ?_ rfl ⟨_, rfl, ?_⟩
            · exact results24 Tryd.results46 _ _ w.heap.size rfl _ _ _ 25 (0, 0) hwz _ rfl
            · rw [HGP.out]
              exact GetAt.err hf7 hB7 hX7 hgz
          · rw [hno] at HNO
            have HGP : Hid (getP l = (0, st, x8, (l.take (11 + n)).drop 11)) := HG0.out hkd hno
            obtain ⟨⟨q0, q1, q2⟩, _⟩ := three24 HW6.out
            have hobl6 : ob < w6.heap.size := (Array.getElem?_eq_some_iff.1 HW6.out).1
            clear hv6 hb6 hcode hno
            go_wp2_with fail
            refine (show Calls _ _ _ _ _ from HNO).mono ?_
            rintro e wn ⟨rfl, hwn⟩
            cases hwn
            go_wp2_with (refine st24 rfl (.tmp 2) (.tmp 74) rfl w.heap.size rfl _ _ _ _ HX6.out rfl rfl ⟨rfl, rfl, rfl⟩ ?_; intro wz hwz hgz)
            refine bodyPost_ret (v := .tuple #[.agg #[.int .i64 (st : Int), .int .i64 (x8 : Int), .slice pc n cc], .nilIface]) ?_ rfl ⟨_, rfl, ?_⟩
            · exact results24 Tryd.results46 _ _ w.heap.size rfl _ _ _ 25 (0, 0) hwz _ rfl
            · rw [HGP.out]
              have hs7 := HS6.out.grown hgz (by have := HBC.out; omega)
              exact ⟨_, pc, cc, _, Nat.le_of_lt HBC.out, by rw [HLN.out], by rw [HLN.out]; exact hs7, Fault.nil _, HB6.out.grown hgz HB6.out.size (fun kk hkk => by cases hkk; exact Nat.le_refl _)⟩
  · have HGP : Hid (getP l = (sp, 0, 0, [])) := by show _ = _; rw [hgen, if_pos hsp]
    have hd2 : (sp != 0) = true := by simpa using hsp
    go_wp2_with fail
    refine (new_code1 _ _ _ _).mono ?_
    rintro e w7 ⟨v7, rfl, hv7, hb7⟩
    have hf7 := hv7.fault
    have hX7 := heap_stays HX2.out hb7
    have hB7 := HB2.out.trans (hb7.mono HB2.out.size)
    clear hv7 hb7
    go_wp2_with (refine st24 rfl (.tmp 2) (.tmp 27) rfl w.heap.size rfl _ _ _ _ hX7 rfl rfl ⟨rfl, rfl, rfl⟩ ?_; intro wz hwz hgz)
    refine bodyPost_ret (v := .tuple #[.agg #[.int .i64 0, .int .i64 0, .slice none 0 0], v7]) ?_ rfl ⟨_, rfl, ?_⟩
    · exact results24 Tryd.results46 _ _ w.heap.size rfl _ _ _ 25 (0, 0) hwz _ rfl
    · rw [HGP.out]
      exact GetAt.err hf7 hB7 hX7 hgz

theorem get_any {w : World} {b : Nat} {v : Value} {l : List Nat} (h : SlAt w b v (U l)) (hb : Byt l) : Calls Tryd.prog 46 #[v] w fun e w' => ∃ rv, e = .returned rv ∧ GetAt w w' rv (getP l) := by
  by_cases hl : l.length = 256
  · obtain ⟨off, cap, rfl, hp⟩ := PgAt.of h hl hb
    exact get_page_any hp
  · exact get_short h hl
end Go.Proofs.YtkbfihnoohhojaaDoor.Lea
