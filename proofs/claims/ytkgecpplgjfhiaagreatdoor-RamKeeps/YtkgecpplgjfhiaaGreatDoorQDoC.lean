/-
  An act of the law, both ways: Drop.
-/
import Derived.Test.YtkgecpplgjfhiaaGreatDoorQDoS
namespace Go.Proofs.YtkgecpplgjfhiaaGreatDoor
open Go.RowKit
open Ite (Ent zeroE checkE sizeE)
open Lis (Lst but Tag)
variable {w : World} {B g : Nat} {lim : Int} {L R : List Ent} {M : Nat} {p : Option Addr} {cap : Nat} {x : Ent} {q : Option Addr} {c : Nat} {kd now : Int}
theorem peek_none {L : List Ent} {k : ByteArray} (h : idx L k = none) : peekP L k = (zeroE, false) := by unfold peekP; rw [h]
theorem peek_some {L : List Ent} {k : ByteArray} {i : Nat} (h : idx L k = some i) : peekP L k = (atE L i, true) := by unfold peekP; rw [h]
theorem atE_get {L : List Ent} {k : ByteArray} {i : Nat} (h : idx L k = some i) : L[i]? = some (atE L i) := by
  have := idx_lt h
  rw [atE_some (List.getElem?_eq_getElem this)]
  exact List.getElem?_eq_getElem this
theorem find_none {L : List Ent} {k : ByteArray} (h : idx L k = none) : findE L k = -1 := by unfold findE; rw [h]
theorem find_some {L : List Ent} {k : ByteArray} {i : Nat} (h : idx L k = some i) : findE L k = (i : Int) := by unfold findE; rw [h]

set_option maxHeartbeats 4000000 in
set_option maxRecDepth 10000 in
theorem do_drop (h : Tier w B g lim L M) (_hM : M ≤ 900) (hE : Es w B (.slice p R.length cap) R) (hz : p = none → cap = 0) (hR : R.length ≤ 640) (hx : Bq w B (.slice q x.val.length c) x.val) (he : ErrT w) (h0 : 0 < B) (hkk : x.key.size ≤ 1000) (_hkv : x.val.length ≤ 5000) :
    Calls Tryz.prog 13 #[.pointer (some ⟨g, 0, none⟩), .agg #[.int .i64 lim, .slice p R.length cap], .agg #[.int .i64 2, .string x.key, .int .i64 x.ver, .int .i64 x.asof, .int .i64 x.ends, .slice q x.val.length c, .int .i64 now]] w fun e w' => ∃ p' cap' b, e = .returned (.tuple #[.agg #[.int .i64 lim, .slice p' (dropE R x.key).length cap'], .bool b]) ∧ (L = R → b = true) ∧ Es w' B (.slice p' (dropE R x.key).length cap') (dropE R x.key) ∧ (p' = none → cap' = 0) ∧ Tier w' B g lim (dropE L x.key) (M + 1) ∧ Fr B w w' := by
  have hfine := h.fine
  have hBw : B ≤ w.heap.size := Nat.le_of_lt hfine.2.2.2.2.2.2
  obtain ⟨S0, A0⟩ := do_start (lim := lim) (p := p) (R := R) (cap := cap) (kd := 2) (x := x) (q := q) (c := c) (now := now) hE hx he h0 hBw
  have HT1 := hid2 (h.below A0)
  have HS1 := hid2 S0
  have HZ := hid2 hz
  have HF := hid2 hfine
  have HH := hid2 h
  obtain ⟨w1, hw1⟩ : ∃ w1, w1 = (((w.alloc (.cells #[.int .i64 lim, .slice p R.length cap] 37)).alloc (.cells #[.int .i64 2, .string x.key, .int .i64 x.ver, .int .i64 x.asof, .int .i64 x.ends, .slice q x.val.length c, .int .i64 now] 44)).alloc (.cells #[.int .i64 0, .slice none 0 0] 37)) := ⟨_, rfl⟩
  have HW := hid2 hw1
  rw [← hw1] at HT1 HS1
  clear hw1 h hE hz hx he S0 A0 hfine
  obtain ⟨⟨k0, k1, k2, k3, k4⟩, k5, k6⟩ := HS1.out.cells
  go_enter Tryz.func13, Tryz.ntmps13
  have KF := hid2 (fun W (s : DoS w B lim R p cap 2 x q c now W) => find_any s.es x.key (Nat.le_trans hR (by omega)))
  have KP := hid2 (fun W (t : Tier W B g lim L M) => drop_t t x.key hkk)
  generalize hdr : dropE R x.key = R' at *
  have HDR := hid2 hdr
  generalize hpl : peekP L x.key = sl at *
  obtain ⟨xl, bl⟩ := sl
  have HPL := hid2 hpl
  generalize hfe : findE R x.key = fe at *
  have HFE := hid2 hfe
  dsimp only at KF KP
  clear hpl hfe hdr
  go_upto_region 1 with fail
  rw [← HW.out]
  clear HW
  go_wp2_with fail
  refine (show Calls _ _ _ _ _ from KF.out _ HS1.out).mono ?_
  rintro e w2 ⟨rfl, hw2⟩
  subst hw2
  go_wp2_with fail
  refine (show Calls _ _ _ _ _ from KP.out _ HT1.out).mono ?_
  rintro e w3 ⟨ql, cl, rfl, hql, hf, ht⟩
  have HS3 := hid2 (HS1.out.next hf h0)
  have HT3 := hid2 ht
  have HY3 := hid2 hql
  clear hql ht
  clear hf HS1 HT1  k0 k1 k2 k3 k4 k5 k6
  obtain ⟨⟨k0, k1, k2, k3, k4⟩, k5, k6⟩ := HS3.out.cells
  go_upto_region 13 with fail
  obtain ⟨w4, hw4⟩ : ∃ w4, w4 = w3.alloc (.cells #[.string xl.key, .int .i64 xl.ver, .int .i64 xl.asof, .int .i64 xl.ends, .slice ql xl.val.length cl] 25) := ⟨_, rfl⟩
  rw [← hw4]
  obtain ⟨b19, hb19⟩ : ∃ b19, b19 = w3.heap.size := ⟨_, rfl⟩
  rw [← hb19]
  have A4 : Below w3.heap.size w3 w4 := by rw [hw4]; go_grown
  have Hb19 : Hid (w4.heap[b19]? = some (.cells #[.string xl.key, .int .i64 xl.ver, .int .i64 xl.asof, .int .i64 xl.ends, .slice ql xl.val.length cl] 25 (0, 0))) := by show _ = _; rw [hw4, hb19]; exact heap_alloc_new w3 _
  have HLb19 : Hid (w.heap.size + 2 < b19) := by show _ < _; rw [hb19]; exact k0
  have HS4 := hid2 (HS3.out.below A4 h0)
  have HT4 := hid2 (HT3.out.below A4)
  have HY4 := hid2 (HY3.out.stays A4)
  clear hw4 hb19 A4 HS3 HT3 HY3 k0 k1 k2 k3 k4 k5 k6
  obtain ⟨⟨k0, k1, k2, k3, k4⟩, k5, k6⟩ := HS4.out.cells
  cases hi : idx R x.key with
  | none =>
    have hfe : fe = -1 := by rw [← HFE.out, find_none hi]
    subst hfe
    have HI := hid2 hi
    have hdr : R = R' := by rw [← HDR.out]; unfold dropE; rw [hi]
    subst hdr
    cases hil : idx L x.key with
    | none =>
      have e1 := HPL.out
      rw [peek_none hil] at e1
      cases e1
      clear hi hil
      go_wp2_with fail
      have hdr5 : Below w4.heap.size w4 (World.drew w4) := drew_below_m w4 1 _
      obtain ⟨w5, hw5⟩ : ∃ w5, w5 = World.drew w4 := ⟨_, rfl⟩
      rw [← hw5] at hdr5
      have HS5 := hid2 (HS4.out.below hdr5 h0)
      have HT5 := hid2 (HT4.out.below hdr5)
      have HY5 := hid2 (HY4.out.stays hdr5)
      have Hb19 := hid2 (heap_stays Hb19.out hdr5)
      have hS0 : Hid ((fun W => Ex (w.heap.size + 2) w5 W) w5) := Ex.refl _ _
      clear HS4 HT4 HY4 k0 k1 k2 k3 k4 k5 k6
      have KS : Hid (Calls Tryz.prog 25 #[.agg #[.string zeroE.key, .int .i64 zeroE.ver, .int .i64 zeroE.asof, .int .i64 zeroE.ends, .slice ql zeroE.val.length cl], .agg #[.string ⟨#[]⟩, .int .i64 0, .int .i64 0, .int .i64 0, .slice none 0 0]] w5 fun en w' => en = .returned (.bool true) ∧ Below w5.heap.size w5 w') := by
        have := Ite.rsame6_any zeroE.key zeroE.key zeroE.ver zeroE.asof zeroE.ends zeroE.ver zeroE.asof zeroE.ends HY5.out.bs (show Ite.Bs w5 (.slice none 0 0) zeroE.val from (Bq.nil w5 B).bs)
        rw [Ite.sameB_self] at this
        exact this
      refine wp_region_held_drew (S := fun W => Ex (w.heap.size + 2) w5 W) (by kernel_rfl) (by rw [← hw5]; exact hS0.out) (fun hS => ?_)
      rw [← hw5] at hS ⊢
      clear hw5 hS0
      refine wpAnyH_take (i := 0) (v := (.agg #[.int .i64 lim, .slice p R.length cap])) rfl (by kernel_rfl) (by kernel_rfl) (by kernel_rfl) (fun _ _ _ h => h) (yieldsIf_load_mid (by kernel_rfl) 37 (.tmp 4) rfl w.heap.size 0 rfl ([.int .i64 lim, .slice p R.length cap]) _ (fun W hw => two_range (Ex.heap hw HS5.out.r (by omega))) und_rm.choose_spec rfl (size_rm)) hS ?_
      change wpAnyH _ _ _ _ _ _ _ (Act.put _ (some 109) _) _
      simp only [Act.put, List.setIfInBounds_toArray, List.set_cons_succ, List.set_cons_zero]
      refine wpAnyH_take (i := 1) (v := .bool false) rfl (by kernel_rfl) (by kernel_rfl) (by kernel_rfl) (fun _ _ _ h => h) (Or.inl ⟨by kernel_rfl, ?_⟩) hS ?_
      · intro w hw; clear hw; go_simp
      change wpAnyH _ _ _ _ _ _ _ (Act.put _ (some 110) _) _
      simp only [Act.put, List.setIfInBounds_toArray, List.set_cons_succ, List.set_cons_zero]
      refine wpAnyH_take (i := 2) (v := .bool true) rfl (by kernel_rfl) (by kernel_rfl) (by kernel_rfl) (fun _ _ _ h => h) (Or.inl ⟨by kernel_rfl, ?_⟩) hS ?_
      · intro w hw; clear hw; go_simp
      change wpAnyH _ _ _ _ _ _ _ (Act.put _ (some 111) _) _
      simp only [Act.put, List.setIfInBounds_toArray, List.set_cons_succ, List.set_cons_zero]
      refine wpAnyH_take (i := 3) (v := .bool true) rfl (by kernel_rfl) (by kernel_rfl) (by kernel_rfl) (fun _ _ _ h => h) (Or.inl ⟨by kernel_rfl, ?_⟩) hS ?_
      · intro w hw; clear hw; go_simp
      change wpAnyH _ _ _ _ _ _ _ (Act.put _ (some 112) _) _
      simp only [Act.put, List.setIfInBounds_toArray, List.set_cons_succ, List.set_cons_zero]
      refine wpAnyH_take (i := 4) (v := (.agg #[.string zeroE.key, .int .i64 zeroE.ver, .int .i64 zeroE.asof, .int .i64 zeroE.ends, .slice ql zeroE.val.length cl])) rfl (by kernel_rfl) (by kernel_rfl) (by kernel_rfl) (fun _ _ _ h => h) (yieldsIf_load_mid (by kernel_rfl) 25 (.tmp 19) rfl b19 0 rfl ([.string zeroE.key, .int .i64 zeroE.ver, .int .i64 zeroE.asof, .int .i64 zeroE.ends, .slice ql zeroE.val.length cl]) _ (fun W hw => box_range (Ex.heap hw Hb19.out (by have := HLb19.out; omega))) Ite.Tryz.und24.choose_spec rfl (Ite.Tryz.size24)) hS ?_
      change wpAnyH _ _ _ _ _ _ _ (Act.put _ (some 113) _) _
      simp only [Act.put, List.setIfInBounds_toArray, List.set_cons_succ, List.set_cons_zero]
      refine wpAnyH_take (i := 5) (v := .agg #[.string ⟨#[]⟩, .int .i64 0, .int .i64 0, .int .i64 0, .slice none 0 0]) rfl (by kernel_rfl) (by kernel_rfl) (by kernel_rfl) (fun _ _ _ h => h) (Or.inl ⟨by kernel_rfl, ?_⟩) hS ?_
      · intro w hw; clear hw; go_simp
      change wpAnyH _ _ _ _ _ _ _ (Act.put _ (some 114) _) _
      simp only [Act.put, List.setIfInBounds_toArray, List.set_cons_succ, List.set_cons_zero]
      refine wpAnyH_ready (rs := [6]) (by kernel_rfl) (by simp) ?_
      refine AllReadyH.cons rfl (fun K hK => ?_) AllReadyH.nil
      go_simp
      go_wp2_with fail
      refine (show Calls _ _ _ _ _ from KS.out).mono ?_
      rintro e w6 ⟨rfl, hb6⟩
      have HS6 := hid2 (HS5.out.below hb6 h0)
      have HT6 := hid2 (HT5.out.below hb6)
      have HY6 := hid2 (HY5.out.stays hb6)

      refine hK.out _ _ (Ex.below hS hb6) (fun hS => ?_)
      clear hK K
      skip
      clear hb6
      refine wpAnyH_take (i := 7) (v := .bool true) rfl (by kernel_rfl) (by kernel_rfl) (by kernel_rfl) (fun _ _ _ h => h) (Or.inl ⟨by kernel_rfl, ?_⟩) hS ?_
      · intro w hw; clear hw; go_simp
      change wpAnyH _ _ _ _ _ _ _ (Act.put _ (some 116) _) _
      simp only [Act.put, List.setIfInBounds_toArray, List.set_cons_succ, List.set_cons_zero]
      refine wpAnyH_ready (rs := [8]) (by kernel_rfl) (by simp) ?_
      refine AllReadyH.cons rfl (fun K hK => ?_) AllReadyH.nil
      refine step_st37 rfl (.tmp 6) (.tmp 109) rfl (w.heap.size + 2) rfl _ _ _ HS6.out.z rfl rfl ⟨rfl, rfl⟩ ?_
      intro wz TZ gz
      refine hK.out _ _ (Ex.grown hS gz) (fun hS => ?_)
      clear hK K
      change wpAnyH _ _ _ _ _ _ _ (Act.put _ (none) _) _
      simp only [Act.put]
      refine wpAnyH_take (i := 9) (v := .bool true) rfl (by kernel_rfl) (by kernel_rfl) (by kernel_rfl) (fun _ _ _ h => h) (Or.inl ⟨by kernel_rfl, ?_⟩) hS ?_
      · intro w hw; clear hw; go_simp
      change wpAnyH _ _ _ _ _ _ _ (Act.put _ (some 7) _) _
      simp only [Act.put, List.setIfInBounds_toArray, List.set_cons_succ, List.set_cons_zero]
      refine wpAnyH_done (by kernel_rfl) ?_ _
      go_wp2_with fail
      have fz := HS6.out.fr.box gz (Nat.le_add_right _ _)
      have tz := (HT6.out.boxed gz (Nat.le_trans hBw (Nat.le_add_right _ _)) HS6.out.z.tag good_rm).more
      have ez := HS6.out.es.box2 gz (Nat.le_trans hBw (Nat.le_add_right _ _)) HS6.out.z.tag (by decide) (by decide)
      refine bodyPost_ret (results_rm Tryz.results13 _ _ (w.heap.size + 2) rfl _ _ TZ _ rfl) rfl ⟨p, cap, true, rfl, (fun _ => rfl), ez, HZ.out, tz, fz⟩
    | some i =>
      have e1 := HPL.out
      rw [peek_some hil] at e1
      cases e1
      have HNE : Hid (L = R → False) := by
        intro e
        rw [← e, hil] at hi
        cases hi
      clear hi hil
      generalize atE L i = xl at *
      go_wp2_with fail
      have hdr5 : Below w4.heap.size w4 (World.drew w4) := drew_below_m w4 1 _
      obtain ⟨w5, hw5⟩ : ∃ w5, w5 = World.drew w4 := ⟨_, rfl⟩
      rw [← hw5] at hdr5
      have HS5 := hid2 (HS4.out.below hdr5 h0)
      have HT5 := hid2 (HT4.out.below hdr5)
      have HY5 := hid2 (HY4.out.stays hdr5)
      have Hb19 := hid2 (heap_stays Hb19.out hdr5)
      have hS0 : Hid ((fun W => Ex (w.heap.size + 2) w5 W) w5) := Ex.refl _ _
      clear HS4 HT4 HY4 k0 k1 k2 k3 k4 k5 k6
      refine wp_region_held_drew (S := fun W => Ex (w.heap.size + 2) w5 W) (by kernel_rfl) (by rw [← hw5]; exact hS0.out) (fun hS => ?_)
      rw [← hw5] at hS ⊢
      clear hw5 hS0
      refine wpAnyH_take (i := 0) (v := (.agg #[.int .i64 lim, .slice p R.length cap])) rfl (by kernel_rfl) (by kernel_rfl) (by kernel_rfl) (fun _ _ _ h => h) (yieldsIf_load_mid (by kernel_rfl) 37 (.tmp 4) rfl w.heap.size 0 rfl ([.int .i64 lim, .slice p R.length cap]) _ (fun W hw => two_range (Ex.heap hw HS5.out.r (by omega))) und_rm.choose_spec rfl (size_rm)) hS ?_
      change wpAnyH _ _ _ _ _ _ _ (Act.put _ (some 109) _) _
      simp only [Act.put, List.setIfInBounds_toArray, List.set_cons_succ, List.set_cons_zero]
      refine wpAnyH_take (i := 1) (v := .bool true) rfl (by kernel_rfl) (by kernel_rfl) (by kernel_rfl) (fun _ _ _ h => h) (Or.inl ⟨by kernel_rfl, ?_⟩) hS ?_
      · intro w hw; clear hw; go_simp
      change wpAnyH _ _ _ _ _ _ _ (Act.put _ (some 110) _) _
      simp only [Act.put, List.setIfInBounds_toArray, List.set_cons_succ, List.set_cons_zero]
      refine wpAnyH_take (i := 2) (v := .bool false) rfl (by kernel_rfl) (by kernel_rfl) (by kernel_rfl) (fun _ _ _ h => h) (Or.inl ⟨by kernel_rfl, ?_⟩) hS ?_
      · intro w hw; clear hw; go_simp
      change wpAnyH _ _ _ _ _ _ _ (Act.put _ (some 111) _) _
      simp only [Act.put, List.setIfInBounds_toArray, List.set_cons_succ, List.set_cons_zero]
      refine wpAnyH_take (i := 3) (v := .bool false) rfl (by kernel_rfl) (by kernel_rfl) (by kernel_rfl) (fun _ _ _ h => h) (Or.inl ⟨by kernel_rfl, ?_⟩) hS ?_
      · intro w hw; clear hw; go_simp
      change wpAnyH _ _ _ _ _ _ _ (Act.put _ (some 112) _) _
      simp only [Act.put, List.setIfInBounds_toArray, List.set_cons_succ, List.set_cons_zero]
      refine wpAnyH_take (i := 4) (v := undef) rfl (by kernel_rfl) (by kernel_rfl) (by kernel_rfl) (fun _ _ _ h => h) (Or.inr ⟨by kernel_rfl, rfl⟩) hS ?_
      change wpAnyH _ _ _ _ _ _ _ (Act.put _ (some 113) _) _
      simp only [Act.put, List.setIfInBounds_toArray, List.set_cons_succ, List.set_cons_zero]
      refine wpAnyH_take (i := 5) (v := undef) rfl (by kernel_rfl) (by kernel_rfl) (by kernel_rfl) (fun _ _ _ h => h) (Or.inr ⟨by kernel_rfl, rfl⟩) hS ?_
      change wpAnyH _ _ _ _ _ _ _ (Act.put _ (some 114) _) _
      simp only [Act.put, List.setIfInBounds_toArray, List.set_cons_succ, List.set_cons_zero]
      refine wpAnyH_take (i := 6) (v := undef) rfl (by kernel_rfl) (by kernel_rfl) (by kernel_rfl) (fun _ _ _ h => h) (Or.inr ⟨by kernel_rfl, rfl⟩) hS ?_
      change wpAnyH _ _ _ _ _ _ _ (Act.put _ (some 115) _) _
      simp only [Act.put, List.setIfInBounds_toArray, List.set_cons_succ, List.set_cons_zero]
      refine wpAnyH_take (i := 7) (v := .bool false) rfl (by kernel_rfl) (by kernel_rfl) (by kernel_rfl) (fun _ _ _ h => h) (Or.inl ⟨by kernel_rfl, ?_⟩) hS ?_
      · intro w hw; clear hw; go_simp
      change wpAnyH _ _ _ _ _ _ _ (Act.put _ (some 116) _) _
      simp only [Act.put, List.setIfInBounds_toArray, List.set_cons_succ, List.set_cons_zero]
      refine wpAnyH_ready (rs := [8]) (by kernel_rfl) (by simp) ?_
      refine AllReadyH.cons rfl (fun K hK => ?_) AllReadyH.nil
      refine step_st37 rfl (.tmp 6) (.tmp 109) rfl (w.heap.size + 2) rfl _ _ _ HS5.out.z rfl rfl ⟨rfl, rfl⟩ ?_
      intro wz TZ gz
      refine hK.out _ _ (Ex.grown hS gz) (fun hS => ?_)
      clear hK K
      change wpAnyH _ _ _ _ _ _ _ (Act.put _ (none) _) _
      simp only [Act.put]
      refine wpAnyH_take (i := 9) (v := .bool false) rfl (by kernel_rfl) (by kernel_rfl) (by kernel_rfl) (fun _ _ _ h => h) (Or.inl ⟨by kernel_rfl, ?_⟩) hS ?_
      · intro w hw; clear hw; go_simp
      change wpAnyH _ _ _ _ _ _ _ (Act.put _ (some 7) _) _
      simp only [Act.put, List.setIfInBounds_toArray, List.set_cons_succ, List.set_cons_zero]
      refine wpAnyH_done (by kernel_rfl) ?_ _
      go_wp2_with fail
      have fz := HS5.out.fr.box gz (Nat.le_add_right _ _)
      have tz := (HT5.out.boxed gz (Nat.le_trans hBw (Nat.le_add_right _ _)) HS5.out.z.tag good_rm).more
      have ez := HS5.out.es.box2 gz (Nat.le_trans hBw (Nat.le_add_right _ _)) HS5.out.z.tag (by decide) (by decide)
      refine bodyPost_ret (results_rm Tryz.results13 _ _ (w.heap.size + 2) rfl _ _ TZ _ rfl) rfl ⟨p, cap, false, rfl, (fun e => (HNE.out e).elim), ez, HZ.out, tz, fz⟩
  | some j =>
    have hfe : fe = (j : Int) := by rw [← HFE.out, find_some hi]
    subst hfe
    have hdr : butE R j = R' := by rw [← HDR.out]; unfold dropE; rw [hi]
    subst hdr
    have hjl := idx_lt hi
    have hat := atE_get hi
    have hn0 : ¬ (j : Int) < 0 := by omega
    have KB := hid2 (fun W (s : DoS w B lim R p cap 2 x q c now W) => rbut_t (lim := lim) s.es hjl (Nat.le_trans hR (by omega)))
    obtain ⟨rb, ro, q5, c5, rfl, hrg, hbq, hkd⟩ := HS4.out.es.look hat
    have HRN0 := hid2 (hkd.ne (Nat.le_trans hBw (Nat.le_add_right _ 2)) HS4.out.z.tag (by decide))
    have HRG0 := hid2 hrg
    have HBQ4 := hid2 hbq
    have HI := hid2 hi
    have hI : (0 : Int) ≤ (j : Int) ∧ (j : Int) < (R.length : Int) := by omega
    have htn : ((j : Int)).toNat = j := by omega
    clear hrg hbq hkd
    cases hil : idx L x.key with
    | none =>
      have e1 := HPL.out
      rw [peek_none hil] at e1
      cases e1
      have HNE : Hid (L = R → False) := by
        intro e
        rw [← e, hil] at hi
        cases hi
      clear hi hil hat
      generalize atE R j = xr at *
      go_wp2_with fail
      have hdr5 : Below w4.heap.size w4 (World.drew w4) := drew_below_m w4 1 _
      obtain ⟨w5, hw5⟩ : ∃ w5, w5 = World.drew w4 := ⟨_, rfl⟩
      rw [← hw5] at hdr5
      have HS5 := hid2 (HS4.out.below hdr5 h0)
      have HT5 := hid2 (HT4.out.below hdr5)
      have HY5 := hid2 (HY4.out.stays hdr5)
      have HBQ5 := hid2 (HBQ4.out.stays hdr5)
      have Hb19 := hid2 (heap_stays Hb19.out hdr5)
      have hS0 : Hid ((fun W => Ex (w.heap.size + 2) w5 W) w5) := Ex.refl _ _
      clear HS4 HT4 HY4 HBQ4 k0 k1 k2 k3 k4 k5 k6
      have HRG := hid2 (rng_old hdr5 HRG0.out)
      have HRN := HRN0
      refine wp_region_held_drew (S := fun W => Ex (w.heap.size + 2) w5 W) (by kernel_rfl) (by rw [← hw5]; exact hS0.out) (fun hS => ?_)
      rw [← hw5] at hS ⊢
      clear hw5 hS0
      refine wpAnyH_take (i := 0) (v := (.agg #[.int .i64 lim, .slice (some ⟨rb, ro, none⟩) R.length cap])) rfl (by kernel_rfl) (by kernel_rfl) (by kernel_rfl) (fun _ _ _ h => h) (yieldsIf_load_mid (by kernel_rfl) 37 (.tmp 4) rfl w.heap.size 0 rfl ([.int .i64 lim, .slice (some ⟨rb, ro, none⟩) R.length cap]) _ (fun W hw => two_range (Ex.heap hw HS5.out.r (by omega))) und_rm.choose_spec rfl (size_rm)) hS ?_
      change wpAnyH _ _ _ _ _ _ _ (Act.put _ (some 117) _) _
      simp only [Act.put, List.setIfInBounds_toArray, List.set_cons_succ, List.set_cons_zero]
      refine wpAnyH_take (i := 1) (v := .int .i64 (j : Int)) rfl (by kernel_rfl) (by kernel_rfl) (by kernel_rfl) (fun _ _ _ h => h) (Or.inl ⟨by kernel_rfl, ?_⟩) hS ?_
      · intro w hw; clear hw; go_simp
      change wpAnyH _ _ _ _ _ _ _ (Act.put _ (some 118) _) _
      simp only [Act.put, List.setIfInBounds_toArray, List.set_cons_succ, List.set_cons_zero]
      refine wpAnyH_take (i := 3) (v := .bool false) rfl (by kernel_rfl) (by kernel_rfl) (by kernel_rfl) (fun _ _ _ h => h) (Or.inl ⟨by kernel_rfl, ?_⟩) hS ?_
      · intro w hw; clear hw; go_simp
      change wpAnyH _ _ _ _ _ _ _ (Act.put _ (some 120) _) _
      simp only [Act.put, List.setIfInBounds_toArray, List.set_cons_succ, List.set_cons_zero]
      refine wpAnyH_ready (rs := [2]) (by kernel_rfl) (by simp) ?_
      refine AllReadyH.cons rfl (fun K hK => ?_) AllReadyH.nil
      go_simp
      go_wp2_with fail
      refine (show Calls _ _ _ _ _ from KB.out _ HS5.out).mono ?_
      rintro e w6 ⟨p', cap', rfl, hes, hz', _, hb6⟩
      have HE6 := hid2 hes
      have HZ' := hid2 hz'
      clear hes hz'
      have HS6 := hid2 (HS5.out.below hb6 h0)
      have HT6 := hid2 (HT5.out.below hb6)
      have HY6 := hid2 (HY5.out.stays hb6)
      have HBQ6 := hid2 (HBQ5.out.stays hb6)

      refine hK.out _ _ (Ex.below hS hb6) (fun hS => ?_)
      clear hK K
      skip
      clear hb6
      refine wpAnyH_take (i := 4) (v := .bool false) rfl (by kernel_rfl) (by kernel_rfl) (by kernel_rfl) (fun _ _ _ h => h) (Or.inl ⟨by kernel_rfl, ?_⟩) hS ?_
      · intro w hw; clear hw; go_simp
      change wpAnyH _ _ _ _ _ _ _ (Act.put _ (some 121) _) _
      simp only [Act.put, List.setIfInBounds_toArray, List.set_cons_succ, List.set_cons_zero]
      refine wpAnyH_take (i := 5) (v := undef) rfl (by kernel_rfl) (by kernel_rfl) (by kernel_rfl) (fun _ _ _ h => h) (Or.inr ⟨by kernel_rfl, rfl⟩) hS ?_
      change wpAnyH _ _ _ _ _ _ _ (Act.put _ (some 122) _) _
      simp only [Act.put, List.setIfInBounds_toArray, List.set_cons_succ, List.set_cons_zero]
      refine wpAnyH_take (i := 6) (v := undef) rfl (by kernel_rfl) (by kernel_rfl) (by kernel_rfl) (fun _ _ _ h => h) (Or.inr ⟨by kernel_rfl, rfl⟩) hS ?_
      change wpAnyH _ _ _ _ _ _ _ (Act.put _ (some 123) _) _
      simp only [Act.put, List.setIfInBounds_toArray, List.set_cons_succ, List.set_cons_zero]
      refine wpAnyH_take (i := 7) (v := undef) rfl (by kernel_rfl) (by kernel_rfl) (by kernel_rfl) (fun _ _ _ h => h) (Or.inr ⟨by kernel_rfl, rfl⟩) hS ?_
      change wpAnyH _ _ _ _ _ _ _ (Act.put _ (some 124) _) _
      simp only [Act.put, List.setIfInBounds_toArray, List.set_cons_succ, List.set_cons_zero]
      refine wpAnyH_take (i := 8) (v := undef) rfl (by kernel_rfl) (by kernel_rfl) (by kernel_rfl) (fun _ _ _ h => h) (Or.inr ⟨by kernel_rfl, rfl⟩) hS ?_
      change wpAnyH _ _ _ _ _ _ _ (Act.put _ (some 125) _) _
      simp only [Act.put, List.setIfInBounds_toArray, List.set_cons_succ, List.set_cons_zero]
      refine wpAnyH_take (i := 9) (v := undef) rfl (by kernel_rfl) (by kernel_rfl) (by kernel_rfl) (fun _ _ _ h => h) (Or.inr ⟨by kernel_rfl, rfl⟩) hS ?_
      change wpAnyH _ _ _ _ _ _ _ (Act.put _ (some 126) _) _
      simp only [Act.put, List.setIfInBounds_toArray, List.set_cons_succ, List.set_cons_zero]
      refine wpAnyH_take (i := 10) (v := undef) rfl (by kernel_rfl) (by kernel_rfl) (by kernel_rfl) (fun _ _ _ h => h) (Or.inr ⟨by kernel_rfl, rfl⟩) hS ?_
      change wpAnyH _ _ _ _ _ _ _ (Act.put _ (some 127) _) _
      simp only [Act.put, List.setIfInBounds_toArray, List.set_cons_succ, List.set_cons_zero]
      refine wpAnyH_take (i := 11) (v := undef) rfl (by kernel_rfl) (by kernel_rfl) (by kernel_rfl) (fun _ _ _ h => h) (Or.inr ⟨by kernel_rfl, rfl⟩) hS ?_
      change wpAnyH _ _ _ _ _ _ _ (Act.put _ (some 128) _) _
      simp only [Act.put, List.setIfInBounds_toArray, List.set_cons_succ, List.set_cons_zero]
      refine wpAnyH_take (i := 12) (v := .bool false) rfl (by kernel_rfl) (by kernel_rfl) (by kernel_rfl) (fun _ _ _ h => h) (Or.inl ⟨by kernel_rfl, ?_⟩) hS ?_
      · intro w hw; clear hw; go_simp
      change wpAnyH _ _ _ _ _ _ _ (Act.put _ (some 129) _) _
      simp only [Act.put, List.setIfInBounds_toArray, List.set_cons_succ, List.set_cons_zero]
      refine wpAnyH_ready (rs := [13]) (by kernel_rfl) (by simp) ?_
      refine AllReadyH.cons rfl (fun K hK => ?_) AllReadyH.nil
      refine step_st37 rfl (.tmp 6) (.tmp 119) rfl (w.heap.size + 2) rfl _ _ _ HS6.out.z rfl rfl ⟨rfl, rfl⟩ ?_
      intro wz TZ gz
      refine hK.out _ _ (Ex.grown hS gz) (fun hS => ?_)
      clear hK K
      change wpAnyH _ _ _ _ _ _ _ (Act.put _ (none) _) _
      simp only [Act.put]
      refine wpAnyH_take (i := 14) (v := .bool false) rfl (by kernel_rfl) (by kernel_rfl) (by kernel_rfl) (fun _ _ _ h => h) (Or.inl ⟨by kernel_rfl, ?_⟩) hS ?_
      · intro w hw; clear hw; go_simp
      change wpAnyH _ _ _ _ _ _ _ (Act.put _ (some 7) _) _
      simp only [Act.put, List.setIfInBounds_toArray, List.set_cons_succ, List.set_cons_zero]
      refine wpAnyH_done (by kernel_rfl) ?_ _
      go_wp2_with fail
      have fz := HS6.out.fr.box gz (Nat.le_add_right _ _)
      have tz := (HT6.out.boxed gz (Nat.le_trans hBw (Nat.le_add_right _ _)) HS6.out.z.tag good_rm).more
      have ez := HE6.out.box2 gz (Nat.le_trans hBw (Nat.le_add_right _ _)) HS6.out.z.tag (by decide) (by decide)
      refine bodyPost_ret (results_rm Tryz.results13 _ _ (w.heap.size + 2) rfl _ _ TZ _ rfl) rfl ⟨p', cap', false, rfl, (fun e => (HNE.out e).elim), ez, HZ'.out, tz, fz⟩
    | some i =>
      have e1 := HPL.out
      rw [peek_some hil] at e1
      cases e1
      have HEQ : Hid (L = R → atE L i = atE R j) := by
        intro e
        rw [← e, hil] at hi
        cases hi
        rw [e]
      clear hi hil hat
      generalize atE R j = xr at *
      generalize atE L i = xl at *
      go_wp2_with fail
      have hdr5 : Below w4.heap.size w4 (World.drew w4) := drew_below_m w4 1 _
      obtain ⟨w5, hw5⟩ : ∃ w5, w5 = World.drew w4 := ⟨_, rfl⟩
      rw [← hw5] at hdr5
      have HS5 := hid2 (HS4.out.below hdr5 h0)
      have HT5 := hid2 (HT4.out.below hdr5)
      have HY5 := hid2 (HY4.out.stays hdr5)
      have HBQ5 := hid2 (HBQ4.out.stays hdr5)
      have Hb19 := hid2 (heap_stays Hb19.out hdr5)
      have hS0 : Hid ((fun W => Ex (w.heap.size + 2) w5 W) w5) := Ex.refl _ _
      clear HS4 HT4 HY4 HBQ4 k0 k1 k2 k3 k4 k5 k6
      have HRG := hid2 (rng_old hdr5 HRG0.out)
      have HRN := HRN0
      refine wp_region_held_drew (S := fun W => Ex (w.heap.size + 2) w5 W) (by kernel_rfl) (by rw [← hw5]; exact hS0.out) (fun hS => ?_)
      rw [← hw5] at hS ⊢
      clear hw5 hS0
      refine wpAnyH_take (i := 0) (v := (.agg #[.int .i64 lim, .slice (some ⟨rb, ro, none⟩) R.length cap])) rfl (by kernel_rfl) (by kernel_rfl) (by kernel_rfl) (fun _ _ _ h => h) (yieldsIf_load_mid (by kernel_rfl) 37 (.tmp 4) rfl w.heap.size 0 rfl ([.int .i64 lim, .slice (some ⟨rb, ro, none⟩) R.length cap]) _ (fun W hw => two_range (Ex.heap hw HS5.out.r (by omega))) und_rm.choose_spec rfl (size_rm)) hS ?_
      change wpAnyH _ _ _ _ _ _ _ (Act.put _ (some 117) _) _
      simp only [Act.put, List.setIfInBounds_toArray, List.set_cons_succ, List.set_cons_zero]
      refine wpAnyH_take (i := 1) (v := .int .i64 (j : Int)) rfl (by kernel_rfl) (by kernel_rfl) (by kernel_rfl) (fun _ _ _ h => h) (Or.inl ⟨by kernel_rfl, ?_⟩) hS ?_
      · intro w hw; clear hw; go_simp
      change wpAnyH _ _ _ _ _ _ _ (Act.put _ (some 118) _) _
      simp only [Act.put, List.setIfInBounds_toArray, List.set_cons_succ, List.set_cons_zero]
      refine wpAnyH_take (i := 3) (v := .bool true) rfl (by kernel_rfl) (by kernel_rfl) (by kernel_rfl) (fun _ _ _ h => h) (Or.inl ⟨by kernel_rfl, ?_⟩) hS ?_
      · intro w hw; clear hw; go_simp
      change wpAnyH _ _ _ _ _ _ _ (Act.put _ (some 120) _) _
      simp only [Act.put, List.setIfInBounds_toArray, List.set_cons_succ, List.set_cons_zero]
      refine wpAnyH_ready (rs := [2]) (by kernel_rfl) (by simp) ?_
      refine AllReadyH.cons rfl (fun K hK => ?_) AllReadyH.nil
      go_simp
      go_wp2_with fail
      refine (show Calls _ _ _ _ _ from KB.out _ HS5.out).mono ?_
      rintro e w6 ⟨p', cap', rfl, hes, hz', _, hb6⟩
      have HE6 := hid2 hes
      have HZ' := hid2 hz'
      clear hes hz'
      have HS6 := hid2 (HS5.out.below hb6 h0)
      have HT6 := hid2 (HT5.out.below hb6)
      have HY6 := hid2 (HY5.out.stays hb6)
      have HBQ6 := hid2 (HBQ5.out.stays hb6)

      refine hK.out _ _ (Ex.below hS hb6) (fun hS => ?_)
      clear hK K
      skip
      clear hb6
      refine wpAnyH_take (i := 4) (v := .bool true) rfl (by kernel_rfl) (by kernel_rfl) (by kernel_rfl) (fun _ _ _ h => h) (Or.inl ⟨by kernel_rfl, ?_⟩) hS ?_
      · intro w hw; clear hw; go_simp
      change wpAnyH _ _ _ _ _ _ _ (Act.put _ (some 121) _) _
      simp only [Act.put, List.setIfInBounds_toArray, List.set_cons_succ, List.set_cons_zero]
      refine wpAnyH_take (i := 5) (v := (.agg #[.string xl.key, .int .i64 xl.ver, .int .i64 xl.asof, .int .i64 xl.ends, .slice ql xl.val.length cl])) rfl (by kernel_rfl) (by kernel_rfl) (by kernel_rfl) (fun _ _ _ h => h) (yieldsIf_load_mid (by kernel_rfl) 25 (.tmp 19) rfl b19 0 rfl ([.string xl.key, .int .i64 xl.ver, .int .i64 xl.asof, .int .i64 xl.ends, .slice ql xl.val.length cl]) _ (fun W hw => box_range (Ex.heap hw Hb19.out (by have := HLb19.out; omega))) Ite.Tryz.und24.choose_spec rfl (Ite.Tryz.size24)) hS ?_
      change wpAnyH _ _ _ _ _ _ _ (Act.put _ (some 122) _) _
      simp only [Act.put, List.setIfInBounds_toArray, List.set_cons_succ, List.set_cons_zero]
      refine wpAnyH_take (i := 6) (v := .pointer (some ⟨w.heap.size, 1, none⟩)) rfl (by kernel_rfl) (by kernel_rfl) (by kernel_rfl) (fun _ _ _ h => h) (Or.inl ⟨by kernel_rfl, ?_⟩) hS ?_
      · intro w hw; clear hw; go_simp
      change wpAnyH _ _ _ _ _ _ _ (Act.put _ (some 123) _) _
      simp only [Act.put, List.setIfInBounds_toArray, List.set_cons_succ, List.set_cons_zero]
      refine wpAnyH_take (i := 7) (v := .slice (some ⟨rb, ro, none⟩) R.length cap) rfl (by kernel_rfl) (by kernel_rfl) (by kernel_rfl) (fun _ _ _ h => h) (Or.inl ⟨by kernel_rfl, ?_⟩) hS ?_
      · intro w hw
        have e := (Two.cells (Ex.heap hw HS5.out.r (by omega))).2.2.1
        clear hw
        go_simp
      change wpAnyH _ _ _ _ _ _ _ (Act.put _ (some 124) _) _
      simp only [Act.put, List.setIfInBounds_toArray, List.set_cons_succ, List.set_cons_zero]
      refine wpAnyH_take (i := 8) (v := .int .i64 (j : Int)) rfl (by kernel_rfl) (by kernel_rfl) (by kernel_rfl) (fun _ _ _ h => h) (Or.inl ⟨by kernel_rfl, ?_⟩) hS ?_
      · intro w hw; clear hw; go_simp
      change wpAnyH _ _ _ _ _ _ _ (Act.put _ (some 125) _) _
      simp only [Act.put, List.setIfInBounds_toArray, List.set_cons_succ, List.set_cons_zero]
      refine wpAnyH_take (i := 9) (v := .pointer (some ⟨rb, ro + j * 5, none⟩)) rfl (by kernel_rfl) (by kernel_rfl) (by kernel_rfl) (fun _ _ _ h => h) (Or.inl ⟨by kernel_rfl, ?_⟩) hS ?_
      · intro w hw; clear hw; go_simp
      change wpAnyH _ _ _ _ _ _ _ (Act.put _ (some 126) _) _
      simp only [Act.put, List.setIfInBounds_toArray, List.set_cons_succ, List.set_cons_zero]
      refine wpAnyH_take (i := 10) (v := (.agg #[.string xr.key, .int .i64 xr.ver, .int .i64 xr.asof, .int .i64 xr.ends, .slice q5 xr.val.length c5])) rfl (by kernel_rfl) (by kernel_rfl) (by kernel_rfl) (fun _ _ _ h => h) (yieldsIf_load_mid (by kernel_rfl) 25 (.tmp 126) rfl rb (ro + j * 5) rfl ([.string xr.key, .int .i64 xr.ver, .int .i64 xr.asof, .int .i64 xr.ends, .slice q5 xr.val.length c5]) _ (fun W hw => Ex.rng hw HRG.out HRN.out) Ite.Tryz.und24.choose_spec rfl (Ite.Tryz.size24)) hS ?_
      change wpAnyH _ _ _ _ _ _ _ (Act.put _ (some 127) _) _
      simp only [Act.put, List.setIfInBounds_toArray, List.set_cons_succ, List.set_cons_zero]
      have KS := hid2 (Ite.rsame6_any xl.key xr.key xl.ver xl.asof xl.ends xr.ver xr.asof xr.ends HY6.out.bs HBQ6.out.bs)
      generalize hsb : Ite.sameB xl.key xr.key xl.ver xl.asof xl.ends xr.ver xr.asof xr.ends xl.val xr.val = sb at *
      have HSB := hid2 hsb
      clear hsb
      refine wpAnyH_ready (rs := [11]) (by kernel_rfl) (by simp) ?_
      refine AllReadyH.cons rfl (fun K hK => ?_) AllReadyH.nil
      go_simp
      go_wp2_with fail
      refine (show Calls _ _ _ _ _ from KS.out).mono ?_
      rintro e w7 ⟨rfl, hb7⟩
      have HS7 := hid2 (HS6.out.below hb7 h0)
      have HT7 := hid2 (HT6.out.below hb7)
      have HE7 := hid2 (HE6.out.stays hb7)
      refine hK.out _ _ (Ex.below hS hb7) (fun hS => ?_)
      clear hK K
      skip
      clear hb7
      refine wpAnyH_take (i := 12) (v := .bool sb) rfl (by kernel_rfl) (by kernel_rfl) (by kernel_rfl) (fun _ _ _ h => h) (Or.inl ⟨by kernel_rfl, ?_⟩) hS ?_
      · intro w hw; clear hw; go_simp
      change wpAnyH _ _ _ _ _ _ _ (Act.put _ (some 129) _) _
      simp only [Act.put, List.setIfInBounds_toArray, List.set_cons_succ, List.set_cons_zero]
      refine wpAnyH_ready (rs := [13]) (by kernel_rfl) (by simp) ?_
      refine AllReadyH.cons rfl (fun K hK => ?_) AllReadyH.nil
      refine step_st37 rfl (.tmp 6) (.tmp 119) rfl (w.heap.size + 2) rfl _ _ _ HS7.out.z rfl rfl ⟨rfl, rfl⟩ ?_
      intro wz TZ gz
      refine hK.out _ _ (Ex.grown hS gz) (fun hS => ?_)
      clear hK K
      change wpAnyH _ _ _ _ _ _ _ (Act.put _ (none) _) _
      simp only [Act.put]
      refine wpAnyH_take (i := 14) (v := .bool sb) rfl (by kernel_rfl) (by kernel_rfl) (by kernel_rfl) (fun _ _ _ h => h) (Or.inl ⟨by kernel_rfl, ?_⟩) hS ?_
      · intro w hw; clear hw; go_simp
      change wpAnyH _ _ _ _ _ _ _ (Act.put _ (some 7) _) _
      simp only [Act.put, List.setIfInBounds_toArray, List.set_cons_succ, List.set_cons_zero]
      refine wpAnyH_done (by kernel_rfl) ?_ _
      go_wp2_with fail
      have fz := HS7.out.fr.box gz (Nat.le_add_right _ _)
      have tz := (HT7.out.boxed gz (Nat.le_trans hBw (Nat.le_add_right _ _)) HS7.out.z.tag good_rm).more
      have ez := HE7.out.box2 gz (Nat.le_trans hBw (Nat.le_add_right _ _)) HS7.out.z.tag (by decide) (by decide)
      refine bodyPost_ret (results_rm Tryz.results13 _ _ (w.heap.size + 2) rfl _ _ TZ _ rfl) rfl ⟨p', cap', sb, rfl, (fun e => by have e2 := HSB.out; rw [HEQ.out e, Ite.sameB_self] at e2; exact e2.symm), ez, HZ'.out, tz, fz⟩
end Go.Proofs.YtkgecpplgjfhiaaGreatDoor
