/-
  From of the program: an entry that a reader reads.
-/
import Derived.Test.YtgmghekgelmmcaaDoorQICopyE
import Derived.Deep.DeepCutAuto
namespace Go.Proofs.YtgmghekgelmmcaaDoor.Ite
open Go.RowKit

/-- What holds behind every step may be said to be more. -/
theorem wpAnyH_weaken {P : Program} {md : Region.Mode} {ops : Array Oper} {Q : Exit → Act → World → Prop} {S S' : World → Prop} (hs : ∀ w, S' w → S w) :
    ∀ {fuel : Nat} {listed : Array Bool} {a : Act} {w : World}, wpAnyH P md ops Q S' fuel listed a w → wpAnyH P md ops Q S fuel listed a w
  | 0, _, _, _, h => h
  | _ + 1, _, _, _, h => ⟨h.1, fun i hi => wpOp_mono (fun _ _ h' => ⟨hs _ h'.1, wpAnyH_weaken hs h'.2⟩) (h.2 i hi)⟩

theorem Bs5.rd {w w' : World} {g : Nat} {bs : List Int} {a : Nat} {code : Int} {v : Value} {l : List Int} (h : Bs5 w v l) (hr : Rd w g bs a code) (hg : w.grownBy w' (some g)) : Bs5 w' v l := by
  obtain ⟨sv, b, h1, _⟩ := hr
  exact h.grown hg h1 (by decide)
theorem Rd.le4 {w : World} {g : Nat} {bs : List Int} {a : Nat} {code : Int} (h : Rd w g bs a code) : a ≤ bs.length := by
  obtain ⟨_, _, _, h⟩ := h.bs5
  exact h
theorem Rd.lt4 {w : World} {g : Nat} {bs : List Int} {a : Nat} {code : Int} (h : Rd w g bs a code) : g < w.heap.size := by
  obtain ⟨_, _, h, _⟩ := h
  exact lt_of_block h
theorem Rd.other {w w' : World} {g o : Nat} {bs : List Int} {a : Nat} {code : Int} {cur : Array Value} {T : TypeId} {fr : Nat × Nat} (h : Rd w g bs a code) (hg : w.grownBy w' (some o)) (ht : w.heap[o]? = some (.cells cur T fr)) (hT : T ≠ 5) (hne : g ≠ o) : Rd w' g bs a code := by
  obtain ⟨sv, h1, h2, h3⟩ := h.bs5
  exact Rd.mk5 (heap_grownBy h1 hg hne) (h2.grown hg ht hT) h3

theorem rdTxt_len (bs : List Int) (a : Nat) (code most : Int) : (rdTxt bs a code most).1.length ≤ bs.length := by
  unfold rdTxt
  repeat' split
  all_goals first
    | (simp; done)
    | (simp only [List.length_drop, List.length_take]; omega)
theorem from_grown {w w1 w2 : World} {g o : Nat} (h : w.grownBy w1 (some g)) (k : w1.grownBy w2 (some o)) (ho : w.heap.size ≤ o) : w.grownBy w2 (some g) :=
  ⟨k.os.trans h.os, k.tape.trans h.tape, k.output.trans h.output, Nat.le_trans h.size k.size, fun i hi hne => (k.block i (Nat.lt_of_lt_of_le hi h.size) (by intro e; cases e; omega)).trans (h.block i hi hne)⟩

/-- What stands behind the region in which an entry is read. -/
def FromMid (w0 : World) (g : Nat) (bs : List Int) (a5 : Nat) (c5 : Int) (k : List Int) (v s e : Int) (t : List Int) (x : Value) (wx : World) : Prop :=
  ∃ ob pt ct, x = .pointer (some ⟨ob, 0, none⟩) ∧ w0.heap.size ≤ ob ∧ wx.heap[ob]? = some (.cells #[.string (strB k), .int .i64 v, .int .i64 s, .int .i64 e, .slice pt t.length ct] 39 (0, 0)) ∧ Bs5 wx (.slice pt t.length ct) t ∧ Rd wx g bs a5 c5 ∧ w0.grownBy wx (some g)
theorem from_met {w0 wc wn : World} {g ob : Nat} {bs : List Int} {a5 : Nat} {c5 : Int} {k : List Int} {v s e : Int} {t : List Int} {pt : Option Addr} {ct : Nat} (hr : Rd wc g bs a5 c5) (hg : w0.grownBy wc (some g)) (hz : wc.heap[ob]? = some (.cells #[.string ⟨#[]⟩, .int .i64 0, .int .i64 0, .int .i64 0, .slice none 0 0] 39 (0, 0))) (hob : w0.heap.size ≤ ob)
    (hwn : wn.heap[ob]? = some (.cells #[.string (strB k), .int .i64 v, .int .i64 s, .int .i64 e, .slice pt t.length ct] 39 (0, 0))) (hgn : wc.grownBy wn (some ob)) (hbt : Bs5 wc (.slice pt t.length ct) t) (HG : g < w0.heap.size) :
    FromMid w0 g bs a5 c5 k v s e t (.pointer (some ⟨ob, 0, none⟩)) wn := by
  refine ⟨ob, pt, ct, rfl, hob, hwn, hbt.grown hgn hz (by decide), hr.other hgn hz (by decide) (by omega), ?_⟩
  exact ⟨hgn.os.trans hg.os, hgn.tape.trans hg.tape, hgn.output.trans hg.output, Nat.le_trans hg.size hgn.size, fun i hi hne => (hgn.block i (Nat.lt_of_lt_of_le hi hg.size) (by intro e; cases e; omega)).trans (hg.block i hi hne)⟩

set_option maxHeartbeats 4000000 in
set_option maxRecDepth 10000 in
theorem from_mid {w : World} {g : Nat} {bs : List Int} {a : Nat} {code : Int} (h : Rd w g bs a code) (hby : Byt bs) (hl : bs.length ≤ 30000) (hE : ErrT w) :
    Calls Tryd.prog 54 #[.pointer (some ⟨g, 0, none⟩)] w fun en w' => ∃ p c, en = .returned (.agg #[.string (frm bs a code).1.key, .int .i64 (frm bs a code).1.ver, .int .i64 (frm bs a code).1.asof, .int .i64 (frm bs a code).1.ends, .slice p (frm bs a code).1.val.length c]) ∧ Bs5 w' (.slice p (frm bs a code).1.val.length c) (frm bs a code).1.val ∧ Rd w' g bs (frm bs a code).2.1 (frm bs a code).2.2 ∧ w.grownBy w' (some g) := by
  have ha := h.le4
  obtain ⟨k, a1, c1, h1⟩ : ∃ n s c, rdTxt bs a code 40 = (n, s, c) := ⟨_, _, _, rfl⟩
  obtain ⟨v, a2, c2, h2⟩ : ∃ n s c, rdNum bs a1 c1 1099511627776 = (n, s, c) := ⟨_, _, _, rfl⟩
  obtain ⟨s, a3, c3, h3⟩ : ∃ n s c, rdNum bs a2 c2 1099511627776 = (n, s, c) := ⟨_, _, _, rfl⟩
  obtain ⟨e, a4, c4, h4⟩ : ∃ n s c, rdNum bs a3 c3 1099511627776 = (n, s, c) := ⟨_, _, _, rfl⟩
  obtain ⟨t, a5, c5, h5⟩ : ∃ n s c, rdTxt bs a4 c4 4096 = (n, s, c) := ⟨_, _, _, rfl⟩
  have HF := hid2 (frm_eq h1 h2 h3 h4 h5)
  have C1 := fun W (hr : Rd W g bs a code) => rdbytes_any 40 (by omega) (by omega) hr hby hl
  have C2 := fun W (hr : Rd W g bs a1 c1) => rdnumber_any 1099511627776 (by omega) (by omega) hr hby hl
  have C3 := fun W (hr : Rd W g bs a2 c2) => rdnumber_any 1099511627776 (by omega) (by omega) hr hby hl
  have C4 := fun W (hr : Rd W g bs a3 c3) => rdnumber_any 1099511627776 (by omega) (by omega) hr hby hl
  have C5 := fun W (hr : Rd W g bs a4 c4) => rdbytes_any 4096 (by omega) (by omega) hr hby hl
  rw [h1] at C1
  rw [h2] at C2
  rw [h3] at C3
  rw [h4] at C4
  rw [h5] at C5
  have K1 : Hid (∀ W, Rd W g bs a code → Calls Tryd.prog 72 #[.pointer (some ⟨g, 0, none⟩), .int .i64 40] W fun e w' => ∃ sv tb, e = .returned sv ∧ SlAt w' tb sv (U k) ∧ (tb ≠ g ∧ T5 w' tb (U k)) ∧ Rd w' g bs a1 c1 ∧ W.grownBy w' (some g)) := C1
  have K2 : Hid (∀ W, Rd W g bs a1 c1 → Calls Tryd.prog 73 #[.pointer (some ⟨g, 0, none⟩), .int .i64 1099511627776] W fun e w' => e = .returned (.int .i64 v) ∧ Rd w' g bs a2 c2 ∧ W.grownBy w' (some g)) := C2
  have K3 : Hid (∀ W, Rd W g bs a2 c2 → Calls Tryd.prog 73 #[.pointer (some ⟨g, 0, none⟩), .int .i64 1099511627776] W fun e w' => e = .returned (.int .i64 s) ∧ Rd w' g bs a3 c3 ∧ W.grownBy w' (some g)) := C3
  have K4 : Hid (∀ W, Rd W g bs a3 c3 → Calls Tryd.prog 73 #[.pointer (some ⟨g, 0, none⟩), .int .i64 1099511627776] W fun en w' => en = .returned (.int .i64 e) ∧ Rd w' g bs a4 c4 ∧ W.grownBy w' (some g)) := C4
  have K5 : Hid (∀ W, Rd W g bs a4 c4 → Calls Tryd.prog 72 #[.pointer (some ⟨g, 0, none⟩), .int .i64 4096] W fun e w' => ∃ sv tb, e = .returned sv ∧ SlAt w' tb sv (U t) ∧ (tb ≠ g ∧ T5 w' tb (U t)) ∧ Rd w' g bs a5 c5 ∧ W.grownBy w' (some g)) := C5
  have HL : Hid (k.length ≤ 30000 ∧ t.length ≤ 30000) := by
    have q1 := rdTxt_len bs a code 40
    have q2 := rdTxt_len bs a4 c4 4096
    rw [h1] at q1
    rw [h5] at q2
    exact ⟨Nat.le_trans q1 hl, Nat.le_trans q2 hl⟩
  clear C1 C2 C3 C4 C5 h1 h2 h3 h4 h5
  go_enter Tryd.func54, Tryd.ntmps54
  go_upto_region 1 with fail
  obtain ⟨w0, hw0⟩ : ∃ w0, w0 = w.alloc (.cells #[.string ⟨#[]⟩, .int .i64 0, .int .i64 0, .int .i64 0, .slice none 0 0] 39) := ⟨_, rfl⟩
  rw [← hw0]
  have hx0 : w0.heap[w.heap.size]? = some (.cells #[.string ⟨#[]⟩, .int .i64 0, .int .i64 0, .int .i64 0, .slice none 0 0] 39 (0, 0)) := by rw [hw0]; exact heap_alloc_new w _
  have B0 : Below w.heap.size w w0 := by rw [hw0]; go_grown
  have HG : Hid (g < w0.heap.size) := Nat.lt_of_lt_of_le h.lt4 B0.size
  have HGW : Hid (g < w.heap.size) := h.lt4
  have HX0 := hid2 hx0
  have HB0 := hid2 B0
  have hr0 := h.keeps B0
  clear hw0 hx0 B0 h
  go_cut [3] (fun x wx => FromMid w0 g bs a5 c5 k v s e t x wx)
  case first =>
    refine wp_region_held_drew (S := fun _ => True) (by kernel_rfl) (trivial) (fun hS => ?_)
    change wpAnyH _ _ _ _ _ _ _ _ (World.drew _)
    obtain ⟨w0c, hwc⟩ : ∃ wc, wc = World.drew w0 := ⟨_, rfl⟩
    rw [← hwc]
    have hbc : Below w0.heap.size w0 w0c := by rw [hwc]; exact (Below.refl _ _).drew
    have r0 := hr0.keeps hbc
    have g0 : w0.grownBy w0c (some g) := below_grownBy hbc _
    clear hwc hbc hr0
    refine wpAnyH_take (i := 0) (v := .pointer (some ⟨g, 0, none⟩)) rfl (by kernel_rfl) (by kernel_rfl) (by kernel_rfl) (fun _ _ _ h => h) (Or.inl ⟨by kernel_rfl, ?_⟩) hS ?_
    · intro w hw; clear hw; go_simp
    change wpAnyH _ _ _ _ _ _ _ (Act.put _ (some 4) _) _
    simp only [Act.put, List.setIfInBounds_toArray, List.set_cons_succ, List.set_cons_zero]
    refine wpAnyH_take (i := 3) (v := .pointer (some ⟨g, 0, none⟩)) rfl (by kernel_rfl) (by kernel_rfl) (by kernel_rfl) (fun _ _ _ h => h) (Or.inl ⟨by kernel_rfl, ?_⟩) hS ?_
    · intro w hw; clear hw; go_simp
    change wpAnyH _ _ _ _ _ _ _ (Act.put _ (some 7) _) _
    simp only [Act.put, List.setIfInBounds_toArray, List.set_cons_succ, List.set_cons_zero]
    refine wpAnyH_take (i := 5) (v := .pointer (some ⟨g, 0, none⟩)) rfl (by kernel_rfl) (by kernel_rfl) (by kernel_rfl) (fun _ _ _ h => h) (Or.inl ⟨by kernel_rfl, ?_⟩) hS ?_
    · intro w hw; clear hw; go_simp
    change wpAnyH _ _ _ _ _ _ _ (Act.put _ (some 9) _) _
    simp only [Act.put, List.setIfInBounds_toArray, List.set_cons_succ, List.set_cons_zero]
    refine wpAnyH_take (i := 7) (v := .pointer (some ⟨g, 0, none⟩)) rfl (by kernel_rfl) (by kernel_rfl) (by kernel_rfl) (fun _ _ _ h => h) (Or.inl ⟨by kernel_rfl, ?_⟩) hS ?_
    · intro w hw; clear hw; go_simp
    change wpAnyH _ _ _ _ _ _ _ (Act.put _ (some 11) _) _
    simp only [Act.put, List.setIfInBounds_toArray, List.set_cons_succ, List.set_cons_zero]
    refine wpAnyH_take (i := 9) (v := .pointer (some ⟨g, 0, none⟩)) rfl (by kernel_rfl) (by kernel_rfl) (by kernel_rfl) (fun _ _ _ h => h) (Or.inl ⟨by kernel_rfl, ?_⟩) hS ?_
    · intro w hw; clear hw; go_simp
    change wpAnyH _ _ _ _ _ _ _ (Act.put _ (some 13) _) _
    simp only [Act.put, List.setIfInBounds_toArray, List.set_cons_succ, List.set_cons_zero]
    refine wpAnyH_ready (rs := [1, 12]) (by kernel_rfl) (by simp) ?_
    refine AllReadyH.cons rfl (fun K hK => ?_) (AllReadyH.cons rfl (fun K hK => ?_) AllReadyH.nil)
    · go_simp
      go_wp2_with (go_at_call 72; refine (show Calls _ _ _ _ _ from K1.out _ r0).mono ?_; rintro en w1c ⟨sv1, tb1, rfl, s1, ht1, r1, x1⟩)
      refine hK.out _ _ (trivial) (fun hS => ?_)
      clear hK K
      skip
      have g1 := grownBy_trans g0 x1
      clear r0 g0 x1
      have hbk : Bs w1c sv1 k := ⟨tb1, s1⟩
      refine wpAnyH_weaken (S' := fun W => Bs W sv1 k) (fun _ _ => trivial) ?_
      clear hS
      have hS := hbk
      clear hbk s1
      refine wpAnyH_take (i := 2) (v := .string (strB k)) rfl (by kernel_rfl) (by kernel_rfl) (by kernel_rfl) (fun _ _ _ h => h) (Or.inl ⟨by kernel_rfl, ?_⟩) hS ?_
      · intro W hw; have cv := conv_any hw; clear hw; go_simp
      change wpAnyH _ _ _ _ _ _ _ (Act.put _ (some 6) _) _
      simp only [Act.put, List.setIfInBounds_toArray, List.set_cons_succ, List.set_cons_zero]
      refine wpAnyH_ready (rs := [4, 12]) (by kernel_rfl) (by simp) ?_
      refine AllReadyH.cons rfl (fun K hK => ?_) (AllReadyH.cons rfl (fun K hK => ?_) AllReadyH.nil)
      · go_simp
        go_wp2_with (go_at_call 73; refine (show Calls _ _ _ _ _ from K2.out _ r1).mono ?_; rintro en w2c ⟨rfl, r2, x2⟩)
        refine hK.out _ _ (BK.grown x2 r1.nob _ _ hS) (fun hS => ?_)
        clear hK K
        skip
        have g2 := grownBy_trans g1 x2
        clear r1 g1 x2
        refine wpAnyH_ready (rs := [6, 12]) (by kernel_rfl) (by simp) ?_
        refine AllReadyH.cons rfl (fun K hK => ?_) (AllReadyH.cons rfl (fun K hK => ?_) AllReadyH.nil)
        · go_simp
          go_wp2_with (go_at_call 73; refine (show Calls _ _ _ _ _ from K3.out _ r2).mono ?_; rintro en w3c ⟨rfl, r3, x3⟩)
          refine hK.out _ _ (BK.grown x3 r2.nob _ _ hS) (fun hS => ?_)
          clear hK K
          skip
          have g3 := grownBy_trans g2 x3
          clear r2 g2 x3
          refine wpAnyH_ready (rs := [8, 12]) (by kernel_rfl) (by simp) ?_
          refine AllReadyH.cons rfl (fun K hK => ?_) (AllReadyH.cons rfl (fun K hK => ?_) AllReadyH.nil)
          · go_simp
            go_wp2_with (go_at_call 73; refine (show Calls _ _ _ _ _ from K4.out _ r3).mono ?_; rintro en w4c ⟨rfl, r4, x4⟩)
            refine hK.out _ _ (BK.grown x4 r3.nob _ _ hS) (fun hS => ?_)
            clear hK K
            skip
            have g4 := grownBy_trans g3 x4
            clear r3 g3 x4
            refine wpAnyH_ready (rs := [10, 12]) (by kernel_rfl) (by simp) ?_
            refine AllReadyH.cons rfl (fun K hK => ?_) (AllReadyH.cons rfl (fun K hK => ?_) AllReadyH.nil)
            · go_simp
              go_wp2_with (go_at_call 72; refine (show Calls _ _ _ _ _ from K5.out _ r4).mono ?_; rintro en w5c ⟨sv5, tb5, rfl, s5, ht5, r5, x5⟩)
              obtain ⟨pt, ct, hf, _⟩ := (show Bs w5c sv5 t from ⟨tb5, s5⟩).form
              subst hf
              have b5 : Bs5 w5c (.slice pt t.length ct) t := ⟨tb5, s5, ht5.2⟩
              refine hK.out _ _ (BK.grown x5 r4.nob _ _ hS) (fun hS => ?_)
              clear hK K
              skip
              have g5 := grownBy_trans g4 x5
              clear r4 g4 x5
              refine wpAnyH_take (i := 11) (v := .agg #[.string (strB k), .int .i64 v, .int .i64 s, .int .i64 e, .slice pt t.length ct]) rfl (by kernel_rfl) (by kernel_rfl) (by kernel_rfl) (fun _ _ _ h => h) (Or.inl ⟨by kernel_rfl, ?_⟩) hS ?_
              · intro w hw; clear hw; go_simp
              change wpAnyH _ _ _ _ _ _ _ (Act.put _ (some 15) _) _
              simp only [Act.put, List.setIfInBounds_toArray, List.set_cons_succ, List.set_cons_zero]
              refine wpAnyH_ready (rs := [12]) (by kernel_rfl) (by simp) ?_
              refine AllReadyH.cons rfl (fun K hK => ?_) AllReadyH.nil
              go_simp
              go_wp2_with fail
              obtain ⟨w6c, hwn⟩ : ∃ wn, wn = w5c.alloc (.cells #[.string ⟨#[]⟩, .int .i64 0, .int .i64 0, .int .i64 0, .slice none 0 0] 39) := ⟨_, rfl⟩
              rw [← hwn]
              have y6 : Below w5c.heap.size w5c w6c := by rw [hwn]; go_grown
              have z6 : w6c.heap[w5c.heap.size]? = some (.cells #[.string ⟨#[]⟩, .int .i64 0, .int .i64 0, .int .i64 0, .slice none 0 0] 39 (0, 0)) := by rw [hwn]; exact heap_alloc_new w5c _
              clear hwn
              refine hK.out _ _ (Bs.stays hS y6) (fun hS => ?_)
              clear hK K
              skip
              have r6 := r5.keeps y6
              have hob : w0.heap.size ≤ w5c.heap.size := g5.size
              have g6 := grownBy_trans g5 (below_grownBy y6 _)
              have b6 := Bs5.stays b5 y6
              clear b5
              clear r5 g5 y6
              generalize w5c.heap.size = ob at *
              refine wpAnyH_ready (rs := [13]) (by kernel_rfl) (by simp) ?_
              refine AllReadyH.cons rfl (fun K hK => ?_) AllReadyH.nil
              refine step_st24 rfl (.tmp 3) (.tmp 15) rfl ob rfl _ _ _ _ _ _ z6 rfl rfl ⟨rfl, rfl, rfl, rfl, rfl⟩ ?_
              intro wn hwn hgn
              refine hK.out _ _ (BK.grown hgn (nob24 z6) _ _ hS) (fun hS => ?_)
              clear hK K
              change wpAnyH _ _ _ _ _ _ _ (Act.put _ (none) _) _
              simp only [Act.put]
              refine wpAnyH_done (by kernel_rfl) ?_ _
              go_wp2_with fail
              go_meet
              exact from_met r6 g6 z6 hob hwn hgn b6 HG.out
            · go_simp
              go_wp2_with fail
              obtain ⟨w5c, hwn⟩ : ∃ wn, wn = w4c.alloc (.cells #[.string ⟨#[]⟩, .int .i64 0, .int .i64 0, .int .i64 0, .slice none 0 0] 39) := ⟨_, rfl⟩
              rw [← hwn]
              have y5 : Below w4c.heap.size w4c w5c := by rw [hwn]; go_grown
              have z5 : w5c.heap[w4c.heap.size]? = some (.cells #[.string ⟨#[]⟩, .int .i64 0, .int .i64 0, .int .i64 0, .slice none 0 0] 39 (0, 0)) := by rw [hwn]; exact heap_alloc_new w4c _
              clear hwn
              refine hK.out _ _ (Bs.stays hS y5) (fun hS => ?_)
              clear hK K
              skip
              have r5 := r4.keeps y5
              have hob : w0.heap.size ≤ w4c.heap.size := g4.size
              have g5 := grownBy_trans g4 (below_grownBy y5 _)
              clear r4 g4 y5
              generalize w4c.heap.size = ob at *
              refine wpAnyH_ready (rs := [10]) (by kernel_rfl) (by simp) ?_
              refine AllReadyH.cons rfl (fun K hK => ?_) AllReadyH.nil
              go_simp
              go_wp2_with (go_at_call 72; refine (show Calls _ _ _ _ _ from K5.out _ r5).mono ?_; rintro en w6c ⟨sv6, tb6, rfl, s6, ht6, r6, x6⟩)
              obtain ⟨pt, ct, hf, _⟩ := (show Bs w6c sv6 t from ⟨tb6, s6⟩).form
              subst hf
              have b6 : Bs5 w6c (.slice pt t.length ct) t := ⟨tb6, s6, ht6.2⟩
              refine hK.out _ _ (BK.grown x6 r5.nob _ _ hS) (fun hS => ?_)
              clear hK K
              skip
              have z6 := heap_grownBy z5 x6 (by have := HG.out; omega)
              clear z5
              have g6 := grownBy_trans g5 x6
              clear r5 g5 x6
              refine wpAnyH_take (i := 11) (v := .agg #[.string (strB k), .int .i64 v, .int .i64 s, .int .i64 e, .slice pt t.length ct]) rfl (by kernel_rfl) (by kernel_rfl) (by kernel_rfl) (fun _ _ _ h => h) (Or.inl ⟨by kernel_rfl, ?_⟩) hS ?_
              · intro w hw; clear hw; go_simp
              change wpAnyH _ _ _ _ _ _ _ (Act.put _ (some 15) _) _
              simp only [Act.put, List.setIfInBounds_toArray, List.set_cons_succ, List.set_cons_zero]
              refine wpAnyH_ready (rs := [13]) (by kernel_rfl) (by simp) ?_
              refine AllReadyH.cons rfl (fun K hK => ?_) AllReadyH.nil
              refine step_st24 rfl (.tmp 3) (.tmp 15) rfl ob rfl _ _ _ _ _ _ z6 rfl rfl ⟨rfl, rfl, rfl, rfl, rfl⟩ ?_
              intro wn hwn hgn
              refine hK.out _ _ (BK.grown hgn (nob24 z6) _ _ hS) (fun hS => ?_)
              clear hK K
              change wpAnyH _ _ _ _ _ _ _ (Act.put _ (none) _) _
              simp only [Act.put]
              refine wpAnyH_done (by kernel_rfl) ?_ _
              go_wp2_with fail
              go_meet
              exact from_met r6 g6 z6 hob hwn hgn b6 HG.out
          · go_simp
            go_wp2_with fail
            obtain ⟨w4c, hwn⟩ : ∃ wn, wn = w3c.alloc (.cells #[.string ⟨#[]⟩, .int .i64 0, .int .i64 0, .int .i64 0, .slice none 0 0] 39) := ⟨_, rfl⟩
            rw [← hwn]
            have y4 : Below w3c.heap.size w3c w4c := by rw [hwn]; go_grown
            have z4 : w4c.heap[w3c.heap.size]? = some (.cells #[.string ⟨#[]⟩, .int .i64 0, .int .i64 0, .int .i64 0, .slice none 0 0] 39 (0, 0)) := by rw [hwn]; exact heap_alloc_new w3c _
            clear hwn
            refine hK.out _ _ (Bs.stays hS y4) (fun hS => ?_)
            clear hK K
            skip
            have r4 := r3.keeps y4
            have hob : w0.heap.size ≤ w3c.heap.size := g3.size
            have g4 := grownBy_trans g3 (below_grownBy y4 _)
            clear r3 g3 y4
            generalize w3c.heap.size = ob at *
            refine wpAnyH_ready (rs := [8]) (by kernel_rfl) (by simp) ?_
            refine AllReadyH.cons rfl (fun K hK => ?_) AllReadyH.nil
            go_simp
            go_wp2_with (go_at_call 73; refine (show Calls _ _ _ _ _ from K4.out _ r4).mono ?_; rintro en w5c ⟨rfl, r5, x5⟩)
            refine hK.out _ _ (BK.grown x5 r4.nob _ _ hS) (fun hS => ?_)
            clear hK K
            skip
            have z5 := heap_grownBy z4 x5 (by have := HG.out; omega)
            clear z4
            have g5 := grownBy_trans g4 x5
            clear r4 g4 x5
            refine wpAnyH_ready (rs := [10]) (by kernel_rfl) (by simp) ?_
            refine AllReadyH.cons rfl (fun K hK => ?_) AllReadyH.nil
            go_simp
            go_wp2_with (go_at_call 72; refine (show Calls _ _ _ _ _ from K5.out _ r5).mono ?_; rintro en w6c ⟨sv6, tb6, rfl, s6, ht6, r6, x6⟩)
            obtain ⟨pt, ct, hf, _⟩ := (show Bs w6c sv6 t from ⟨tb6, s6⟩).form
            subst hf
            have b6 : Bs5 w6c (.slice pt t.length ct) t := ⟨tb6, s6, ht6.2⟩
            refine hK.out _ _ (BK.grown x6 r5.nob _ _ hS) (fun hS => ?_)
            clear hK K
            skip
            have z6 := heap_grownBy z5 x6 (by have := HG.out; omega)
            clear z5
            have g6 := grownBy_trans g5 x6
            clear r5 g5 x6
            refine wpAnyH_take (i := 11) (v := .agg #[.string (strB k), .int .i64 v, .int .i64 s, .int .i64 e, .slice pt t.length ct]) rfl (by kernel_rfl) (by kernel_rfl) (by kernel_rfl) (fun _ _ _ h => h) (Or.inl ⟨by kernel_rfl, ?_⟩) hS ?_
            · intro w hw; clear hw; go_simp
            change wpAnyH _ _ _ _ _ _ _ (Act.put _ (some 15) _) _
            simp only [Act.put, List.setIfInBounds_toArray, List.set_cons_succ, List.set_cons_zero]
            refine wpAnyH_ready (rs := [13]) (by kernel_rfl) (by simp) ?_
            refine AllReadyH.cons rfl (fun K hK => ?_) AllReadyH.nil
            refine step_st24 rfl (.tmp 3) (.tmp 15) rfl ob rfl _ _ _ _ _ _ z6 rfl rfl ⟨rfl, rfl, rfl, rfl, rfl⟩ ?_
            intro wn hwn hgn
            refine hK.out _ _ (BK.grown hgn (nob24 z6) _ _ hS) (fun hS => ?_)
            clear hK K
            change wpAnyH _ _ _ _ _ _ _ (Act.put _ (none) _) _
            simp only [Act.put]
            refine wpAnyH_done (by kernel_rfl) ?_ _
            go_wp2_with fail
            go_meet
            exact from_met r6 g6 z6 hob hwn hgn b6 HG.out
        · go_simp
          go_wp2_with fail
          obtain ⟨w3c, hwn⟩ : ∃ wn, wn = w2c.alloc (.cells #[.string ⟨#[]⟩, .int .i64 0, .int .i64 0, .int .i64 0, .slice none 0 0] 39) := ⟨_, rfl⟩
          rw [← hwn]
          have y3 : Below w2c.heap.size w2c w3c := by rw [hwn]; go_grown
          have z3 : w3c.heap[w2c.heap.size]? = some (.cells #[.string ⟨#[]⟩, .int .i64 0, .int .i64 0, .int .i64 0, .slice none 0 0] 39 (0, 0)) := by rw [hwn]; exact heap_alloc_new w2c _
          clear hwn
          refine hK.out _ _ (Bs.stays hS y3) (fun hS => ?_)
          clear hK K
          skip
          have r3 := r2.keeps y3
          have hob : w0.heap.size ≤ w2c.heap.size := g2.size
          have g3 := grownBy_trans g2 (below_grownBy y3 _)
          clear r2 g2 y3
          generalize w2c.heap.size = ob at *
          refine wpAnyH_ready (rs := [6]) (by kernel_rfl) (by simp) ?_
          refine AllReadyH.cons rfl (fun K hK => ?_) AllReadyH.nil
          go_simp
          go_wp2_with (go_at_call 73; refine (show Calls _ _ _ _ _ from K3.out _ r3).mono ?_; rintro en w4c ⟨rfl, r4, x4⟩)
          refine hK.out _ _ (BK.grown x4 r3.nob _ _ hS) (fun hS => ?_)
          clear hK K
          skip
          have z4 := heap_grownBy z3 x4 (by have := HG.out; omega)
          clear z3
          have g4 := grownBy_trans g3 x4
          clear r3 g3 x4
          refine wpAnyH_ready (rs := [8]) (by kernel_rfl) (by simp) ?_
          refine AllReadyH.cons rfl (fun K hK => ?_) AllReadyH.nil
          go_simp
          go_wp2_with (go_at_call 73; refine (show Calls _ _ _ _ _ from K4.out _ r4).mono ?_; rintro en w5c ⟨rfl, r5, x5⟩)
          refine hK.out _ _ (BK.grown x5 r4.nob _ _ hS) (fun hS => ?_)
          clear hK K
          skip
          have z5 := heap_grownBy z4 x5 (by have := HG.out; omega)
          clear z4
          have g5 := grownBy_trans g4 x5
          clear r4 g4 x5
          refine wpAnyH_ready (rs := [10]) (by kernel_rfl) (by simp) ?_
          refine AllReadyH.cons rfl (fun K hK => ?_) AllReadyH.nil
          go_simp
          go_wp2_with (go_at_call 72; refine (show Calls _ _ _ _ _ from K5.out _ r5).mono ?_; rintro en w6c ⟨sv6, tb6, rfl, s6, ht6, r6, x6⟩)
          obtain ⟨pt, ct, hf, _⟩ := (show Bs w6c sv6 t from ⟨tb6, s6⟩).form
          subst hf
          have b6 : Bs5 w6c (.slice pt t.length ct) t := ⟨tb6, s6, ht6.2⟩
          refine hK.out _ _ (BK.grown x6 r5.nob _ _ hS) (fun hS => ?_)
          clear hK K
          skip
          have z6 := heap_grownBy z5 x6 (by have := HG.out; omega)
          clear z5
          have g6 := grownBy_trans g5 x6
          clear r5 g5 x6
          refine wpAnyH_take (i := 11) (v := .agg #[.string (strB k), .int .i64 v, .int .i64 s, .int .i64 e, .slice pt t.length ct]) rfl (by kernel_rfl) (by kernel_rfl) (by kernel_rfl) (fun _ _ _ h => h) (Or.inl ⟨by kernel_rfl, ?_⟩) hS ?_
          · intro w hw; clear hw; go_simp
          change wpAnyH _ _ _ _ _ _ _ (Act.put _ (some 15) _) _
          simp only [Act.put, List.setIfInBounds_toArray, List.set_cons_succ, List.set_cons_zero]
          refine wpAnyH_ready (rs := [13]) (by kernel_rfl) (by simp) ?_
          refine AllReadyH.cons rfl (fun K hK => ?_) AllReadyH.nil
          refine step_st24 rfl (.tmp 3) (.tmp 15) rfl ob rfl _ _ _ _ _ _ z6 rfl rfl ⟨rfl, rfl, rfl, rfl, rfl⟩ ?_
          intro wn hwn hgn
          refine hK.out _ _ (BK.grown hgn (nob24 z6) _ _ hS) (fun hS => ?_)
          clear hK K
          change wpAnyH _ _ _ _ _ _ _ (Act.put _ (none) _) _
          simp only [Act.put]
          refine wpAnyH_done (by kernel_rfl) ?_ _
          go_wp2_with fail
          go_meet
          exact from_met r6 g6 z6 hob hwn hgn b6 HG.out
      · go_simp
        go_wp2_with fail
        obtain ⟨w2c, hwn⟩ : ∃ wn, wn = w1c.alloc (.cells #[.string ⟨#[]⟩, .int .i64 0, .int .i64 0, .int .i64 0, .slice none 0 0] 39) := ⟨_, rfl⟩
        rw [← hwn]
        have y2 : Below w1c.heap.size w1c w2c := by rw [hwn]; go_grown
        have z2 : w2c.heap[w1c.heap.size]? = some (.cells #[.string ⟨#[]⟩, .int .i64 0, .int .i64 0, .int .i64 0, .slice none 0 0] 39 (0, 0)) := by rw [hwn]; exact heap_alloc_new w1c _
        clear hwn
        refine hK.out _ _ (Bs.stays hS y2) (fun hS => ?_)
        clear hK K
        skip
        have r2 := r1.keeps y2
        have hob : w0.heap.size ≤ w1c.heap.size := g1.size
        have g2 := grownBy_trans g1 (below_grownBy y2 _)
        clear r1 g1 y2
        generalize w1c.heap.size = ob at *
        refine wpAnyH_ready (rs := [4]) (by kernel_rfl) (by simp) ?_
        refine AllReadyH.cons rfl (fun K hK => ?_) AllReadyH.nil
        go_simp
        go_wp2_with (go_at_call 73; refine (show Calls _ _ _ _ _ from K2.out _ r2).mono ?_; rintro en w3c ⟨rfl, r3, x3⟩)
        refine hK.out _ _ (BK.grown x3 r2.nob _ _ hS) (fun hS => ?_)
        clear hK K
        skip
        have z3 := heap_grownBy z2 x3 (by have := HG.out; omega)
        clear z2
        have g3 := grownBy_trans g2 x3
        clear r2 g2 x3
        refine wpAnyH_ready (rs := [6]) (by kernel_rfl) (by simp) ?_
        refine AllReadyH.cons rfl (fun K hK => ?_) AllReadyH.nil
        go_simp
        go_wp2_with (go_at_call 73; refine (show Calls _ _ _ _ _ from K3.out _ r3).mono ?_; rintro en w4c ⟨rfl, r4, x4⟩)
        refine hK.out _ _ (BK.grown x4 r3.nob _ _ hS) (fun hS => ?_)
        clear hK K
        skip
        have z4 := heap_grownBy z3 x4 (by have := HG.out; omega)
        clear z3
        have g4 := grownBy_trans g3 x4
        clear r3 g3 x4
        refine wpAnyH_ready (rs := [8]) (by kernel_rfl) (by simp) ?_
        refine AllReadyH.cons rfl (fun K hK => ?_) AllReadyH.nil
        go_simp
        go_wp2_with (go_at_call 73; refine (show Calls _ _ _ _ _ from K4.out _ r4).mono ?_; rintro en w5c ⟨rfl, r5, x5⟩)
        refine hK.out _ _ (BK.grown x5 r4.nob _ _ hS) (fun hS => ?_)
        clear hK K
        skip
        have z5 := heap_grownBy z4 x5 (by have := HG.out; omega)
        clear z4
        have g5 := grownBy_trans g4 x5
        clear r4 g4 x5
        refine wpAnyH_ready (rs := [10]) (by kernel_rfl) (by simp) ?_
        refine AllReadyH.cons rfl (fun K hK => ?_) AllReadyH.nil
        go_simp
        go_wp2_with (go_at_call 72; refine (show Calls _ _ _ _ _ from K5.out _ r5).mono ?_; rintro en w6c ⟨sv6, tb6, rfl, s6, ht6, r6, x6⟩)
        obtain ⟨pt, ct, hf, _⟩ := (show Bs w6c sv6 t from ⟨tb6, s6⟩).form
        subst hf
        have b6 : Bs5 w6c (.slice pt t.length ct) t := ⟨tb6, s6, ht6.2⟩
        refine hK.out _ _ (BK.grown x6 r5.nob _ _ hS) (fun hS => ?_)
        clear hK K
        skip
        have z6 := heap_grownBy z5 x6 (by have := HG.out; omega)
        clear z5
        have g6 := grownBy_trans g5 x6
        clear r5 g5 x6
        refine wpAnyH_take (i := 11) (v := .agg #[.string (strB k), .int .i64 v, .int .i64 s, .int .i64 e, .slice pt t.length ct]) rfl (by kernel_rfl) (by kernel_rfl) (by kernel_rfl) (fun _ _ _ h => h) (Or.inl ⟨by kernel_rfl, ?_⟩) hS ?_
        · intro w hw; clear hw; go_simp
        change wpAnyH _ _ _ _ _ _ _ (Act.put _ (some 15) _) _
        simp only [Act.put, List.setIfInBounds_toArray, List.set_cons_succ, List.set_cons_zero]
        refine wpAnyH_ready (rs := [13]) (by kernel_rfl) (by simp) ?_
        refine AllReadyH.cons rfl (fun K hK => ?_) AllReadyH.nil
        refine step_st24 rfl (.tmp 3) (.tmp 15) rfl ob rfl _ _ _ _ _ _ z6 rfl rfl ⟨rfl, rfl, rfl, rfl, rfl⟩ ?_
        intro wn hwn hgn
        refine hK.out _ _ (BK.grown hgn (nob24 z6) _ _ hS) (fun hS => ?_)
        clear hK K
        change wpAnyH _ _ _ _ _ _ _ (Act.put _ (none) _) _
        simp only [Act.put]
        refine wpAnyH_done (by kernel_rfl) ?_ _
        go_wp2_with fail
        go_meet
        exact from_met r6 g6 z6 hob hwn hgn b6 HG.out
    · go_simp
      go_wp2_with fail
      obtain ⟨w1c, hwn⟩ : ∃ wn, wn = w0c.alloc (.cells #[.string ⟨#[]⟩, .int .i64 0, .int .i64 0, .int .i64 0, .slice none 0 0] 39) := ⟨_, rfl⟩
      rw [← hwn]
      have y1 : Below w0c.heap.size w0c w1c := by rw [hwn]; go_grown
      have z1 : w1c.heap[w0c.heap.size]? = some (.cells #[.string ⟨#[]⟩, .int .i64 0, .int .i64 0, .int .i64 0, .slice none 0 0] 39 (0, 0)) := by rw [hwn]; exact heap_alloc_new w0c _
      clear hwn
      refine hK.out _ _ (trivial) (fun hS => ?_)
      clear hK K
      skip
      have r1 := r0.keeps y1
      have hob : w0.heap.size ≤ w0c.heap.size := g0.size
      have g1 := grownBy_trans g0 (below_grownBy y1 _)
      clear r0 g0 y1
      generalize w0c.heap.size = ob at *
      refine wpAnyH_ready (rs := [1]) (by kernel_rfl) (by simp) ?_
      refine AllReadyH.cons rfl (fun K hK => ?_) AllReadyH.nil
      go_simp
      go_wp2_with (go_at_call 72; refine (show Calls _ _ _ _ _ from K1.out _ r1).mono ?_; rintro en w2c ⟨sv2, tb2, rfl, s2, ht2, r2, x2⟩)
      refine hK.out _ _ (trivial) (fun hS => ?_)
      clear hK K
      skip
      have z2 := heap_grownBy z1 x2 (by have := HG.out; omega)
      clear z1
      have g2 := grownBy_trans g1 x2
      clear r1 g1 x2
      have hbk : Bs w2c sv2 k := ⟨tb2, s2⟩
      refine wpAnyH_weaken (S' := fun W => Bs W sv2 k) (fun _ _ => trivial) ?_
      clear hS
      have hS := hbk
      clear hbk s2
      refine wpAnyH_take (i := 2) (v := .string (strB k)) rfl (by kernel_rfl) (by kernel_rfl) (by kernel_rfl) (fun _ _ _ h => h) (Or.inl ⟨by kernel_rfl, ?_⟩) hS ?_
      · intro W hw; have cv := conv_any hw; clear hw; go_simp
      change wpAnyH _ _ _ _ _ _ _ (Act.put _ (some 6) _) _
      simp only [Act.put, List.setIfInBounds_toArray, List.set_cons_succ, List.set_cons_zero]
      refine wpAnyH_ready (rs := [4]) (by kernel_rfl) (by simp) ?_
      refine AllReadyH.cons rfl (fun K hK => ?_) AllReadyH.nil
      go_simp
      go_wp2_with (go_at_call 73; refine (show Calls _ _ _ _ _ from K2.out _ r2).mono ?_; rintro en w3c ⟨rfl, r3, x3⟩)
      refine hK.out _ _ (BK.grown x3 r2.nob _ _ hS) (fun hS => ?_)
      clear hK K
      skip
      have z3 := heap_grownBy z2 x3 (by have := HG.out; omega)
      clear z2
      have g3 := grownBy_trans g2 x3
      clear r2 g2 x3
      refine wpAnyH_ready (rs := [6]) (by kernel_rfl) (by simp) ?_
      refine AllReadyH.cons rfl (fun K hK => ?_) AllReadyH.nil
      go_simp
      go_wp2_with (go_at_call 73; refine (show Calls _ _ _ _ _ from K3.out _ r3).mono ?_; rintro en w4c ⟨rfl, r4, x4⟩)
      refine hK.out _ _ (BK.grown x4 r3.nob _ _ hS) (fun hS => ?_)
      clear hK K
      skip
      have z4 := heap_grownBy z3 x4 (by have := HG.out; omega)
      clear z3
      have g4 := grownBy_trans g3 x4
      clear r3 g3 x4
      refine wpAnyH_ready (rs := [8]) (by kernel_rfl) (by simp) ?_
      refine AllReadyH.cons rfl (fun K hK => ?_) AllReadyH.nil
      go_simp
      go_wp2_with (go_at_call 73; refine (show Calls _ _ _ _ _ from K4.out _ r4).mono ?_; rintro en w5c ⟨rfl, r5, x5⟩)
      refine hK.out _ _ (BK.grown x5 r4.nob _ _ hS) (fun hS => ?_)
      clear hK K
      skip
      have z5 := heap_grownBy z4 x5 (by have := HG.out; omega)
      clear z4
      have g5 := grownBy_trans g4 x5
      clear r4 g4 x5
      refine wpAnyH_ready (rs := [10]) (by kernel_rfl) (by simp) ?_
      refine AllReadyH.cons rfl (fun K hK => ?_) AllReadyH.nil
      go_simp
      go_wp2_with (go_at_call 72; refine (show Calls _ _ _ _ _ from K5.out _ r5).mono ?_; rintro en w6c ⟨sv6, tb6, rfl, s6, ht6, r6, x6⟩)
      obtain ⟨pt, ct, hf, _⟩ := (show Bs w6c sv6 t from ⟨tb6, s6⟩).form
      subst hf
      have b6 : Bs5 w6c (.slice pt t.length ct) t := ⟨tb6, s6, ht6.2⟩
      refine hK.out _ _ (BK.grown x6 r5.nob _ _ hS) (fun hS => ?_)
      clear hK K
      skip
      have z6 := heap_grownBy z5 x6 (by have := HG.out; omega)
      clear z5
      have g6 := grownBy_trans g5 x6
      clear r5 g5 x6
      refine wpAnyH_take (i := 11) (v := .agg #[.string (strB k), .int .i64 v, .int .i64 s, .int .i64 e, .slice pt t.length ct]) rfl (by kernel_rfl) (by kernel_rfl) (by kernel_rfl) (fun _ _ _ h => h) (Or.inl ⟨by kernel_rfl, ?_⟩) hS ?_
      · intro w hw; clear hw; go_simp
      change wpAnyH _ _ _ _ _ _ _ (Act.put _ (some 15) _) _
      simp only [Act.put, List.setIfInBounds_toArray, List.set_cons_succ, List.set_cons_zero]
      refine wpAnyH_ready (rs := [13]) (by kernel_rfl) (by simp) ?_
      refine AllReadyH.cons rfl (fun K hK => ?_) AllReadyH.nil
      refine step_st24 rfl (.tmp 3) (.tmp 15) rfl ob rfl _ _ _ _ _ _ z6 rfl rfl ⟨rfl, rfl, rfl, rfl, rfl⟩ ?_
      intro wn hwn hgn
      refine hK.out _ _ (BK.grown hgn (nob24 z6) _ _ hS) (fun hS => ?_)
      clear hK K
      change wpAnyH _ _ _ _ _ _ _ (Act.put _ (none) _) _
      simp only [Act.put]
      refine wpAnyH_done (by kernel_rfl) ?_ _
      go_wp2_with fail
      go_meet
      exact from_met r6 g6 z6 hob hwn hgn b6 HG.out
  case rest =>
    obtain ⟨ob, pt, ct, rfl, hob, hx, hbt, hr, hg⟩ := hcut
    have hEc := ErrT.grown (hE.below (HB0.out.mono (Nat.le_refl _))) hr0 hg
    clear hr0 K1 K2 K3 K4 K5
    have hy : wc.heap[w.heap.size]? = _ := heap_grownBy HX0.out hg (by have := HGW.out; omega)
    have HNE : Hid (g ≠ ob ∧ w.heap.size ≠ ob) := by
      show _ ∧ _
      have h1 := HG.out
      have h2 := lt_of_block HX0.out
      omega
    have hkm : (strB k).size ≤ maxLen := by rw [strB_size]; have := HL.out; unfold maxLen; omega
    have htm : t.length ≤ maxLen := by have := HL.out; unfold maxLen; omega
    obtain ⟨⟨q0, q1, q2, q3, q4⟩, _⟩ := five24 hx
    have hlt := lt_of_block hx
    go_wp2_with fail
    refine (check_any (strB k) v s e pt t.length ct _ hkm htm).mono ?_
    rintro en w1 ⟨u, rfl, hu, B1⟩
    clear q0 q1 q2 q3 q4 hlt
    go_wp2_with fail
    refine (of_code (hEc.below B1) hu.fault).mono ?_
    rintro en w2 ⟨rfl, B2⟩
    have hr2 := (hr.keeps B1).keeps B2
    go_wp2_with fail
    refine (fail_any _ hr2).mono ?_
    rintro en w3 ⟨rfl, hr3, hg3⟩
    have hx3 := heap_grownBy (heap_stays (heap_stays hx B1) B2) hg3 (Ne.symm HNE.out.1)
    have hy3 := heap_grownBy (heap_stays (heap_stays hy B1) B2) hg3 (by have := HGW.out; omega)
    have hb3 := ((hbt.stays B1).stays B2).rd hr2 hg3
    have hgg : w.grownBy w3 (some g) := grownBy_trans (grownBy_trans (below_grownBy HB0.out _) hg) (grownBy_trans (below_grownBy B1 _) (grownBy_trans (below_grownBy B2 _) hg3))
    clear hx hy hbt hr hg hEc hu B1 B2 hr2 hg3
    generalize hc6 : (if c5 = 0 then chk (strB k) v s e t.length else c5) = c6 at *
    go_wp2_with fail
    refine (code_any hr3).mono ?_
    rintro en w4 ⟨rfl, hw4⟩
    cases hw4
    by_cases h6 : c6 = 0
    · subst h6
      have HR := hid2 hr3
      obtain ⟨⟨q0, q1, q2, q3, q4⟩, _⟩ := five24 hx3
      have hlt := lt_of_block hx3
      have HF6 : Hid (frm bs a code = (⟨strB k, v, s, e, t⟩, a5, 0)) := by show _ = _; rw [HF.out, if_pos rfl]
      clear hc6 hr3
      go_wp2_with (refine st24 rfl (.tmp 2) (.tmp 25) rfl w.heap.size rfl _ _ _ _ _ _ hy3 rfl rfl ⟨rfl, rfl, rfl, rfl, rfl⟩ ?_; intro wz hwz hgz)
      refine bodyPost_ret (v := .agg #[.string (strB k), .int .i64 v, .int .i64 s, .int .i64 e, .slice pt t.length ct]) ?_ rfl ⟨pt, ct, ?_, ?_, ?_, ?_⟩
      · exact results24 Tryd.results54 _ _ w.heap.size rfl _ _ _ _ _ 39 (0, 0) hwz
      · rw [HF6.out]
      · rw [HF6.out]; exact hb3.grown hgz hy3 (by decide)
      · rw [HF6.out]; exact HR.out.other hgz hy3 (by decide) (by have := HGW.out; omega)
      · exact from_grown hgg hgz (Nat.le_refl _)
    · have HR := hid2 hr3
      have HF6 : Hid (frm bs a code = (zeroE, a5, c6)) := by show _ = _; rw [HF.out, if_neg h6]
      have hd : (c6 != 0) = true := by simpa using h6
      clear hc6 hr3 h6
      go_wp2_with (refine st24 rfl (.tmp 2) (.tmp 24) rfl w.heap.size rfl _ _ _ _ _ _ hy3 rfl rfl ⟨rfl, rfl, rfl, rfl, rfl⟩ ?_; intro wz hwz hgz)
      refine bodyPost_ret (v := .agg #[.string ⟨#[]⟩, .int .i64 0, .int .i64 0, .int .i64 0, .slice none 0 0]) ?_ rfl ⟨none, 0, ?_, ?_, ?_, ?_⟩
      · exact results24 Tryd.results54 _ _ w.heap.size rfl _ _ _ _ _ 39 (0, 0) hwz
      · rw [HF6.out]; rfl
      · rw [HF6.out]; exact Bs5.nil _
      · rw [HF6.out]; exact HR.out.other hgz hy3 (by decide) (by have := HGW.out; omega)
      · exact from_grown hgg hgz (Nat.le_refl _)
end Go.Proofs.YtgmghekgelmmcaaDoor.Ite
