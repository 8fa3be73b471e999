/-
  An entry is put in.
-/
import Derived.Test.YtkgecpplgjfhiaaGreatDoorQApp
namespace Go.Proofs.YtkgecpplgjfhiaaGreatDoor
open Go.RowKit
open Ite (Ent zeroE checkE sizeE)
open Lis (Lst but Tag getL setL)
variable {w : World} {B g gb gl B1 B2 gc : Nat} {v : Value} {lim : Int} {n : Nat} {s : Lst} {bl : List Int} {T : Int → Ent} {th : Nat} {X : Int → Int} {H : Nat → Int} {M : Nat} {C : Nat → List Int}
section
variable {ops : Array Oper} {rest : List Oper} {op : Oper} {a : Act}
theorem step_stTh {w : World} {K : Act → World → Prop} {Q : Exit → Act → World → Prop} {E : Prop} (hgd : op.guard = none) (x y : Operand) (ho : op.op = .store 103 x y) (b o : Nat) (hx : a.eval x = .pointer (some ⟨b, o, none⟩)) (k : ByteArray) (v1 v2 v3 nx : Int) (p : Option Addr) (n c : Nat)
    (hy : a.eval y = .agg #[.string k, .int .i64 v1, .int .i64 v2, .int .i64 v3, .slice p n c, .int .i64 nx]) (ht : w.there b o 6)
    (h : ∀ w', w' = w.setCells b o [.string k, .int .i64 v1, .int .i64 v2, .int .i64 v3, .slice p n c, .int .i64 nx] → K (a.put op.dst undef) w') : if Region.wanted op (yielded ops a.tmps) = true then Oper.wp Tryz.prog op a w K Q else E := by
  have hwt : Region.wanted op (yielded ops a.tmps) = true := by simp [Region.wanted, hgd]
  rw [if_pos hwt]
  exact wp_store_mid 103 x y ho b o #[.string k, .int .i64 v1, .int .i64 v2, .int .i64 v3, .slice p n c, .int .i64 nx] hx hy ht (by kernel_rfl) (by simp [Value.oneCell']) (h _ rfl)
end
theorem chg_chg {α : Type} (f : Int → α) (x : Int) (a b : α) : chg (chg f x a) x b = chg f x b := by
  funext y
  unfold chg
  split <;> rfl
theorem cell_six_new (w : World) (x0 x1 x2 x3 x4 x5 : Value) (e : TypeId) : ∀ j u, [x0, x1, x2, x3, x4, x5][j]? = some u → (w.alloc (.cells #[x0, x1, x2, x3, x4, x5] e)).cell? ((⟨w.heap.size, 0, none⟩ : Addr).add j) = some u := by
  intro j u hu
  rw [Ite.add_zero_off]
  have := heap_alloc_new w (.cells #[x0, x1, x2, x3, x4, x5] e)
  simp only [World.cell?, this]
  simpa using hu
/-- The state behind it. -/
theorem add_end {w7 : World} {e : Ent} {j : Nat} {r : List Int} {v' : Value} {th' : Nat} {T0 : Int → Ent} {X0 : Int → Int} (t : Tn lim n (slt n) s T th C bl) (pl : Pl n s) (he : checkE e = 0) (hk : ∀ y ∈ s.U, (T y).key ≠ e.key) (hF : s.F = (j : Int) :: r) (hw : ∀ c, c < n → Way X (H c) (C c)) (hjth : (j : Int) ≤ th) (hjn : (j : Int) < n) (hjU : ¬ (j : Int) ∈ s.U) (hr : tk e ≤ lim - Sla.used bl)
    (h0 : (X0 = X ∧ T0 = T ∧ (j : Int) ≠ th ∧ th' = th) ∨ (X0 = chg X th 0 ∧ T0 = chg T th zeroE ∧ (j : Int) = th ∧ th' = th + 1))
    (h : Tb w7 B g gb gl B1 B2 gc v' lim n (Lis.addP s (ucl e)).1 (Sla.takeP lim bl (ucl e)).1 (chg T0 j e) th' (chg X0 j (H (slt n e.key))) (chgN H (slt n e.key) j) (M + 1)) : Tier w7 B g lim (e :: s.U.map T) (M + 1) := by
  obtain ⟨c0, c8, _⟩ := fine_class he
  have e1 : (Lis.addP s (ucl e)).1 = ⟨setL s (ucl e) ((j : Int) :: getL s (ucl e)), r, (j : Int) :: s.U, s.n⟩ := by
    unfold Lis.addP
    rw [if_neg (by rw [pl.len]; omega), hF]
  have e2 : (Sla.takeP lim bl (ucl e)).1 = bl ++ [ucl e] := by
    unfold Sla.takeP
    have hr' : ¬ Sla.sz (ucl e) > lim - Sla.used bl := by
      have : tk e = Sla.sz (ucl e) := rfl
      omega
    rw [if_neg (by omega), if_neg hr']
  have e3 : chg T0 j e = chg T j e := by
    rcases h0 with ⟨_, h, _⟩ | ⟨_, h, hj, _⟩
    · rw [h]
    · rw [h, ← hj, chg_chg]
  have e4 : chg X0 j (H (slt n e.key)) = chg X j (H (slt n e.key)) := by
    rcases h0 with ⟨h, _⟩ | ⟨h, _, hj, _⟩
    · rw [h]
    · rw [h, ← hj, chg_chg]
  have e5 : th' = if (j : Int) = th then th + 1 else th := by
    rcases h0 with ⟨_, _, h1, h2⟩ | ⟨_, _, h1, h2⟩
    · rw [if_neg h1]; exact h2
    · rw [if_pos h1]; exact h2
  rw [e1, e2, e3, e4] at h
  subst e5
  refine ⟨_, _, _, _, _, _, _, _, _, _, _, _, _, _, h, t.add pl he hk hF (by omega) hjth hjn hjU hr, ?_, fun c hc => ?_⟩
  · show _ = ((j : Int) :: s.U).map (chg T j e)
    rw [List.map_cons, chg_at, new_map hjU]
  · unfold chgN
    by_cases ec : c = slt n e.key
    · subst ec
      rw [if_pos rfl, if_pos rfl]
      refine ⟨rfl, by omega, ?_⟩
      rw [chg_at]
      exact (hw _ hc).out (fun hm => hjU ((t.ch _ _).1 hm).1)
    · rw [if_neg ec, if_neg ec]
      exact (hw _ hc).out (fun hm => hjU ((t.ch _ _).1 hm).1)
set_option maxHeartbeats 2000000 in
set_option maxRecDepth 8000 in
theorem add_tb (h : Tb w B g gb gl B1 B2 gc v lim n s bl T th X H M) (t : Tn lim n (slt n) s T th C bl) (hw : ∀ c, c < n → Way X (H c) (C c)) (x : Ent) {p : Option Addr} {c : Nat} (he : checkE x = 0) (hk : ∀ y ∈ s.U, (T y).key ≠ x.key) (hB : Bq w B (.slice p x.val.length c) x.val) (hM : M ≤ 900) (hr : tk x ≤ lim - Sla.used bl) :
    Calls Tryz.prog 57 #[.pointer (some ⟨g, 0, none⟩), .agg #[.string x.key, .int .i64 x.ver, .int .i64 x.asof, .int .i64 x.ends, .slice p x.val.length c], .int .i64 (ucl x)] w fun en w' => en = .returned (.tuple #[]) ∧ Fr B w w' ∧ Tier w' B g lim (x :: s.U.map T) (M + 1) := by
  have pl := h.lx.pl.1
  obtain ⟨d0, d8, _⟩ := fine_class he
  obtain ⟨jj, r, hF, hj0, hjth, hjn, hjU⟩ := t.some_free pl d0 d8 hr
  obtain ⟨j, rfl⟩ := Int.eq_ofNat_of_zero_le hj0
  have hth : th ≤ 640 := Nat.le_trans t.thn h.n1.2
  have HTN := hid2 t
  have HPL := hid2 pl
  have HE := hid2 he
  have HK := hid2 hk
  have HW := hid2 hw
  have HR := hid2 hr
  have HCK := hid2 (Ite.chk_ok he)
  have HS := hid2 (slt_lt h.n1.1 x.key)
  have B0 : Below w.heap.size w (w.alloc (.cells #[.string x.key, .int .i64 x.ver, .int .i64 x.asof, .int .i64 x.ends, .slice p x.val.length c] 25)) := by go_grown
  have HT0 := hid2 (h.below B0)
  have HQ := hid2 hB
  have Y0 := hid2 (heap_alloc_new w (.cells #[.string x.key, .int .i64 x.ver, .int .i64 x.asof, .int .i64 x.ends, .slice p x.val.length c] 25))
  have F0 := hid2 (Fr.of (B := B) B0)
  have KT := hid2 (Sla.take_bg HT0.out.bg (HT0.out.ok t) (ucl x))
  obtain ⟨c0, c1, c2, c3, c4, cf⟩ := HT0.out.cells
  have eA : (Lis.addP s (ucl x)).2.1 = (j : Int) := by
    unfold Lis.addP
    rw [if_neg (by rw [pl.len]; omega), hF]
  have HA := hid2 eA
  clear h t hw pl he hk hr B0 hB eA c3 c4
  go_enter Tryz.func57, Tryz.ntmps57
  go_wp2_with fail
  refine (show Calls _ _ _ _ _ from KT.out).mono ?_
  rintro e1 w1 ⟨v1, rfl, _, bg1, gr1⟩
  have G1 := Fr.grown gr1 HT0.out.lo.1 ⟨_, _, HT0.out.bg⟩ (.inr (.inl rfl))
  have Y1 := hid2 (G1.ent Y0.out good_ent.1)
  have F1 := hid2 (F0.out.trans G1)
  have HT1 := hid2 (HT0.out.budget gr1 bg1)
  have KA := hid2 (Lis.add_lx HT1.out.lx hM (ucl x))
  have c12 := HT1.out.cells.2.2.1
  clear bg1 gr1 G1 KT c1 c2
  go_wp2_with fail
  refine (show Calls _ _ _ _ _ from KA.out).mono ?_
  rintro e2 w2 ⟨v2, rfl, _, lx2, md2⟩
  rw [HA.out]
  have HT2 := hid2 (HT1.out.listed md2 lx2)
  have G2 : Fr B w1 w2 := Fr.mid md2 (Nat.le_of_lt (Nat.lt_of_le_of_lt HT1.out.lo.1 HT1.out.lo.2.1))
  have Y2 := hid2 (G2.ent Y1.out good_ent.1)
  have F2 := hid2 (F1.out.trans G2)
  obtain ⟨g0, c20, c21, c22, c23, cf2⟩ := HT2.out.cells
  have hbsz := HT2.out.lo
  have htb := lt_of_block HT2.out.obj
  clear lx2 md2 G2 KA c12 c20 c21 c23
  by_cases hj : (j : Int) = th
  · obtain rfl : j = th := by omega
    obtain ⟨pv, cv, rfl, hcv, hcm⟩ := HT2.out.thg.len
    obtain ⟨cs, ho, hcs⟩ := HT2.out.thg.own
    have HO := hid2 ho
    have HCS := hid2 hcs
    have hj5 : j < j + 1 := Nat.lt_succ_self j
    have ht5 : ((j : Int)).toNat = j := by omega
    obtain ⟨i0, hi, hz0, hz1, hz2⟩ := info_parts info_th
    clear ho hcs hj
    go_wp2_with (first
      | (at_builtin; refine wpList_append_own _ rfl (.tmp 35) (.tmp 37) 79 rfl B2 103 i0 zth 6 72 Tryz.underlying79 hi hz0 hz1 hz2 rfl (by decide) _ j cs rfl (HO.out.alloc _) ⟨w2.heap.size, 0, none⟩ 1 1 [.string ⟨#[]⟩, .int .i64 0, .int .i64 0, .int .i64 0, .slice none 0 0, .int .i64 0] rfl rfl (cell_six_new _ _ _ _ _ _ _ _) (by intro u hu; simp at hu; rcases hu with rfl | rfl | rfl | rfl | rfl | rfl <;> rfl) (by unfold maxLen; omega) (by omega) (by simp; omega) ?_; intro v3 w3 hown3 hgrow3 hnil3; obtain ⟨tb, cap, rfl⟩ := own_form hown3; have A3 := hid2 (HT2.out.app_obj (show Below w2.heap.size w2 (w2.alloc (.cells #[.string ⟨#[]⟩, .int .i64 0, .int .i64 0, .int .i64 0, .slice none 0 0, .int .i64 0] 103)) by (go_grown)) (HO.out.alloc _) hgrow3); have HOW3 := hid2 hown3; have HG3 := hid2 hgrow3; have a31 := A3.out.1; have a32 := A3.out.2.1; have a33 : (w3.cell? ⟨g, 2, none⟩).isSome = true := (by rw [a31]; rfl); clear hown3 hgrow3 hnil3)
      | (refine stSl rfl (.tmp 40) (.tmp 38) rfl g 2 rfl (some ⟨tb, 0, none⟩) (j + 1) cap rfl a33 (a32 2) ?_; intro w4 hw4; have T4 := HT2.out.append (show Below w2.heap.size w2 (w2.alloc (.cells #[.string ⟨#[]⟩, .int .i64 0, .int .i64 0, .int .i64 0, .slice none 0 0, .int .i64 0] 103)) by (go_grown)) (HO.out.alloc _) HCS.out HG3.out HOW3.out; rw [← hw4] at T4; have HT4 := hid2 T4.1; have F4 := hid2 (F2.out.trans T4.2); have Y4 := hid2 (T4.2.ent Y2.out good_ent.1); clear hw4 T4 a31 a32 a33 c22 cf2; have Q4 := hid2 (HQ.out.fr F4.out); have KC := hid2 (chain_tb HT4.out x.key (Nat.le_trans HCK.out.1 (by omega))); obtain ⟨⟨q0, q1, q2, q3, q4⟩, qf⟩ := Ite.five24 Y4.out; have hq := lt_of_block Y4.out))
    refine (show Calls _ _ _ _ _ from KC.out).mono ?_
    rintro e5 w5 ⟨rfl, m5, hw5⟩
    have hb5 : Below w4.heap.size w4 w5 := by rw [hw5]; exact drew_below_m _ _ _
    have HT5 := hid2 (HT4.out.below hb5)
    have F5 := hid2 (F4.out.then_ hb5)
    have Y5 := hid2 (heap_stays Y4.out hb5)
    have Y5r := hid2 (box_range Y5.out)
    have HQ5 := hid2 (Q4.out.stays hb5)
    have c53 := HT5.out.cells.2.2.2.1
    have h5 := (HT5.out.head HS.out).1
    have TH5 : Hid (w5.there tb (j * 6) 6) := by
      obtain ⟨tb', cap', p', c', hv', _, _, _, _, hfz5, hrange5, _⟩ := HT5.out.thg.look hj5
      obtain ⟨rfl, rfl⟩ := slice_eq hv'
      exact fun k hk => ⟨hrange5.isSome k (by simpa [thC] using hk), hfz5 _⟩
    have hI5 : (0 : Int) ≤ (j : Int) ∧ (j : Int) < (((j + 1) : Nat) : Int) := by omega
    clear hw5 hb5 KC q0 q1 q2 q3 q4 qf hq
    go_wp2_with fail
    refine wp_region_held_drew (S := fun W => W.cell? ⟨g, 2, none⟩ = some (.slice (some ⟨tb, 0, none⟩) (j + 1) cap) ∧ W.rangeAt w.heap.size 0 [.string x.key, .int .i64 x.ver, .int .i64 x.asof, .int .i64 x.ends, .slice p x.val.length c] ∧ W.cell? ⟨gc, slt n x.key, none⟩ = some (.int .i64 (H (slt n x.key)))) (by kernel_rfl) (⟨c53, Y5r.out, h5⟩) (fun hS => ?_)
    change wpAnyH _ _ _ _ _ _ _ _ (World.drew _)
    refine wpAnyH_take (i := 0) (v := .pointer (some ⟨g, 0, none⟩)) rfl (by kernel_rfl) (by kernel_rfl) (by kernel_rfl) (fun _ _ _ h => h) (Or.inl ⟨by kernel_rfl, ?_⟩) hS ?_
    · intro w hw; clear hw; go_simp
    change wpAnyH _ _ _ _ _ _ _ (Act.put _ (some 45) _) _
    simp only [Act.put, List.setIfInBounds_toArray, List.set_cons_succ, List.set_cons_zero]
    refine wpAnyH_take (i := 1) (v := .pointer (some ⟨g, 0, none⟩)) rfl (by kernel_rfl) (by kernel_rfl) (by kernel_rfl) (fun _ _ _ h => h) (Or.inl ⟨by kernel_rfl, ?_⟩) hS ?_
    · intro w hw; clear hw; go_simp
    change wpAnyH _ _ _ _ _ _ _ (Act.put _ (some 46) _) _
    simp only [Act.put, List.setIfInBounds_toArray, List.set_cons_succ, List.set_cons_zero]
    refine wpAnyH_take (i := 2) (v := .pointer (some ⟨g, 2, none⟩)) rfl (by kernel_rfl) (by kernel_rfl) (by kernel_rfl) (fun _ _ _ h => h) (Or.inl ⟨by kernel_rfl, ?_⟩) hS ?_
    · intro w hw; clear hw; go_simp
    change wpAnyH _ _ _ _ _ _ _ (Act.put _ (some 47) _) _
    simp only [Act.put, List.setIfInBounds_toArray, List.set_cons_succ, List.set_cons_zero]
    refine wpAnyH_take (i := 3) (v := .slice (some ⟨tb, 0, none⟩) (j + 1) cap) rfl (by kernel_rfl) (by kernel_rfl) (by kernel_rfl) (fun _ _ _ h => h) (Or.inl ⟨by kernel_rfl, ?_⟩) hS ?_
    · intro w hw
      have hc := hw.1
      clear hw
      go_simp
    change wpAnyH _ _ _ _ _ _ _ (Act.put _ (some 48) _) _
    simp only [Act.put, List.setIfInBounds_toArray, List.set_cons_succ, List.set_cons_zero]
    refine wpAnyH_take (i := 4) (v := .int .i64 (j : Int)) rfl (by kernel_rfl) (by kernel_rfl) (by kernel_rfl) (fun _ _ _ h => h) (Or.inl ⟨by kernel_rfl, ?_⟩) hS ?_
    · intro w hw; clear hw; go_simp
    change wpAnyH _ _ _ _ _ _ _ (Act.put _ (some 49) _) _
    simp only [Act.put, List.setIfInBounds_toArray, List.set_cons_succ, List.set_cons_zero]
    refine wpAnyH_take (i := 5) (v := .agg #[.string x.key, .int .i64 x.ver, .int .i64 x.asof, .int .i64 x.ends, .slice p x.val.length c]) rfl (by kernel_rfl) (by kernel_rfl) (by kernel_rfl) (fun _ _ _ h => h) (yieldsIf_load_mid (by kernel_rfl) 25 (.tmp 4) rfl w.heap.size 0 rfl ([.string x.key, .int .i64 x.ver, .int .i64 x.asof, .int .i64 x.ends, .slice p x.val.length c]) _ (fun W hw => hw.2.1) Ite.Tryz.und24.choose_spec rfl (Ite.Tryz.size24)) hS ?_
    change wpAnyH _ _ _ _ _ _ _ (Act.put _ (some 50) _) _
    simp only [Act.put, List.setIfInBounds_toArray, List.set_cons_succ, List.set_cons_zero]
    refine wpAnyH_take (i := 6) (v := .pointer (some ⟨gc, slt n x.key, none⟩)) rfl (by kernel_rfl) (by kernel_rfl) (by kernel_rfl) (fun _ _ _ h => h) (Or.inl ⟨by kernel_rfl, ?_⟩) hS ?_
    · intro w hw; clear hw; go_simp
    change wpAnyH _ _ _ _ _ _ _ (Act.put _ (some 51) _) _
    simp only [Act.put, List.setIfInBounds_toArray, List.set_cons_succ, List.set_cons_zero]
    refine wpAnyH_take (i := 7) (v := .pointer (some ⟨gc, slt n x.key, none⟩)) rfl (by kernel_rfl) (by kernel_rfl) (by kernel_rfl) (fun _ _ _ h => h) (Or.inl ⟨by kernel_rfl, ?_⟩) hS ?_
    · intro w hw; clear hw; go_simp
    change wpAnyH _ _ _ _ _ _ _ (Act.put _ (some 52) _) _
    simp only [Act.put, List.setIfInBounds_toArray, List.set_cons_succ, List.set_cons_zero]
    refine wpAnyH_take (i := 8) (v := .int .i64 (H (slt n x.key))) rfl (by kernel_rfl) (by kernel_rfl) (by kernel_rfl) (fun _ _ _ h => h) (Or.inl ⟨by kernel_rfl, ?_⟩) hS ?_
    · intro w hw
      have hc := hw.2.2
      clear hw
      go_simp
    change wpAnyH _ _ _ _ _ _ _ (Act.put _ (some 53) _) _
    simp only [Act.put, List.setIfInBounds_toArray, List.set_cons_succ, List.set_cons_zero]
    refine wpAnyH_take (i := 9) (v := .agg #[.string x.key, .int .i64 x.ver, .int .i64 x.asof, .int .i64 x.ends, .slice p x.val.length c, .int .i64 (H (slt n x.key))]) rfl (by kernel_rfl) (by kernel_rfl) (by kernel_rfl) (fun _ _ _ h => h) (Or.inl ⟨by kernel_rfl, ?_⟩) hS ?_
    · intro w hw; clear hw; go_simp
    change wpAnyH _ _ _ _ _ _ _ (Act.put _ (some 54) _) _
    simp only [Act.put, List.setIfInBounds_toArray, List.set_cons_succ, List.set_cons_zero]
    refine wpAnyH_take (i := 10) (v := .pointer (some ⟨tb, j * 6, none⟩)) rfl (by kernel_rfl) (by kernel_rfl) (by kernel_rfl) (fun _ _ _ h => h) (Or.inl ⟨by kernel_rfl, ?_⟩) hS ?_
    · intro w hw
      clear hw
      go_simp
      try (intro hh; exfalso; omega)
    change wpAnyH _ _ _ _ _ _ _ (Act.put _ (some 55) _) _
    simp only [Act.put, List.setIfInBounds_toArray, List.set_cons_succ, List.set_cons_zero]
    refine wpAnyH_ready (rs := [11]) (by kernel_rfl) (by simp) ?_
    refine AllReadyH.cons rfl (fun K hK => ?_) AllReadyH.nil
    refine step_stTh rfl (.tmp 55) (.tmp 54) rfl tb (j * 6) rfl _ _ _ _ _ _ _ _ rfl TH5.out ?_
    intro w6 hw6
    have HT6 := (HT5.out.below (show Below w5.heap.size w5 w5.drew from drew_below_m w5 1 _)).setThing hj5 x HQ5.out (H (slt n x.key))
    rw [show thC x (.slice p x.val.length c) (H (slt n x.key)) = [.string x.key, .int .i64 x.ver, .int .i64 x.asof, .int .i64 x.ends, .slice p x.val.length c, .int .i64 (H (slt n x.key))] from rfl, ← hw6] at HT6
    obtain ⟨T6, F6⟩ := HT6
    have HT6 := hid2 T6
    have HF6 := hid2 F6
    have c63 := T6.cells.2.2.2.1
    have Y6 := hid2 (F6.ent Y5.out good_ent.1)
    have h6 := (T6.head HS.out).1
    have f6 := (T6.head HS.out).2
    clear hw6 T6 F6
    refine hK.out _ _ (⟨c63, box_range Y6.out, h6⟩) (fun hS => ?_)
    clear hK K
    change wpAnyH _ _ _ _ _ _ _ (Act.put _ (none) _) _
    simp only [Act.put]
    refine wpAnyH_done (by kernel_rfl) ?_ _
    skip
    have hsome : (w6.cell? ⟨gc, slt n x.key, none⟩).isSome = true := by rw [h6]; rfl
    clear c53 h5 hI5 TH5
    go_wp2_with (refine st3 rfl (.tmp 58) (.tmp 57) rfl gc (slt n x.key) rfl (j : Int) rfl hsome f6 ?_; intro w7 hw7; have HT7 := HT6.out.setHead HS.out (j : Int); rw [← hw7] at HT7; have HT7 := hid2 HT7; clear hw7)
    go_end0
    exact ⟨rfl, ((F5.out.then_ (show Below w5.heap.size w5 w5.drew from drew_below_m w5 1 _)).trans HF6.out).trans HT7.out.2, add_end HTN.out HPL.out HE.out HK.out hF HW.out hjth hjn hjU HR.out (.inr ⟨rfl, rfl, rfl, rfl⟩) HT7.out.1⟩
  · have hjlt : j < th := by omega
    obtain ⟨tb, cap, _, _, rfl, _⟩ := HT2.out.thg.look hjlt
    have hj5 : j < th := hjlt
    have ht5 : ((j : Int)).toNat = j := by omega
    have hj' : ((j : Int) == (th : Int)) = false := by simpa using hj
    have hjn' : ¬ ((j : Int) = (th : Int)) := hj
    have HT4 := hid2 HT2.out
    have F4 := hid2 F2.out
    have Y4 := hid2 Y2.out
    obtain ⟨w4, hw4⟩ : ∃ w4, w4 = w2 := ⟨w2, rfl⟩
    rw [← hw4] at HT4 F4 Y4 c22 cf2 g0 ⊢
    clear hw4
    have Q4 := hid2 (HQ.out.fr F4.out)
    have KC := hid2 (chain_tb HT4.out x.key (Nat.le_trans HCK.out.1 (by omega)))
    obtain ⟨⟨q0, q1, q2, q3, q4⟩, qf⟩ := Ite.five24 Y4.out
    have hq := lt_of_block Y4.out
    go_wp2_with fail
    refine (show Calls _ _ _ _ _ from KC.out).mono ?_
    rintro e5 w5 ⟨rfl, m5, hw5⟩
    have hb5 : Below w4.heap.size w4 w5 := by rw [hw5]; exact drew_below_m _ _ _
    have HT5 := hid2 (HT4.out.below hb5)
    have F5 := hid2 (F4.out.then_ hb5)
    have Y5 := hid2 (heap_stays Y4.out hb5)
    have Y5r := hid2 (box_range Y5.out)
    have HQ5 := hid2 (Q4.out.stays hb5)
    have c53 := HT5.out.cells.2.2.2.1
    have h5 := (HT5.out.head HS.out).1
    have TH5 : Hid (w5.there tb (j * 6) 6) := by
      obtain ⟨tb', cap', p', c', hv', _, _, _, _, hfz5, hrange5, _⟩ := HT5.out.thg.look hj5
      obtain ⟨rfl, rfl⟩ := slice_eq hv'
      exact fun k hk => ⟨hrange5.isSome k (by simpa [thC] using hk), hfz5 _⟩
    have hI5 : (0 : Int) ≤ (j : Int) ∧ (j : Int) < ((th : Nat) : Int) := by omega
    clear hw5 hb5 KC q0 q1 q2 q3 q4 qf hq
    go_wp2_with fail
    refine wp_region_held_drew (S := fun W => W.cell? ⟨g, 2, none⟩ = some (.slice (some ⟨tb, 0, none⟩) th cap) ∧ W.rangeAt w.heap.size 0 [.string x.key, .int .i64 x.ver, .int .i64 x.asof, .int .i64 x.ends, .slice p x.val.length c] ∧ W.cell? ⟨gc, slt n x.key, none⟩ = some (.int .i64 (H (slt n x.key)))) (by kernel_rfl) (⟨c53, Y5r.out, h5⟩) (fun hS => ?_)
    change wpAnyH _ _ _ _ _ _ _ _ (World.drew _)
    refine wpAnyH_take (i := 0) (v := .pointer (some ⟨g, 0, none⟩)) rfl (by kernel_rfl) (by kernel_rfl) (by kernel_rfl) (fun _ _ _ h => h) (Or.inl ⟨by kernel_rfl, ?_⟩) hS ?_
    · intro w hw; clear hw; go_simp
    change wpAnyH _ _ _ _ _ _ _ (Act.put _ (some 45) _) _
    simp only [Act.put, List.setIfInBounds_toArray, List.set_cons_succ, List.set_cons_zero]
    refine wpAnyH_take (i := 1) (v := .pointer (some ⟨g, 0, none⟩)) rfl (by kernel_rfl) (by kernel_rfl) (by kernel_rfl) (fun _ _ _ h => h) (Or.inl ⟨by kernel_rfl, ?_⟩) hS ?_
    · intro w hw; clear hw; go_simp
    change wpAnyH _ _ _ _ _ _ _ (Act.put _ (some 46) _) _
    simp only [Act.put, List.setIfInBounds_toArray, List.set_cons_succ, List.set_cons_zero]
    refine wpAnyH_take (i := 2) (v := .pointer (some ⟨g, 2, none⟩)) rfl (by kernel_rfl) (by kernel_rfl) (by kernel_rfl) (fun _ _ _ h => h) (Or.inl ⟨by kernel_rfl, ?_⟩) hS ?_
    · intro w hw; clear hw; go_simp
    change wpAnyH _ _ _ _ _ _ _ (Act.put _ (some 47) _) _
    simp only [Act.put, List.setIfInBounds_toArray, List.set_cons_succ, List.set_cons_zero]
    refine wpAnyH_take (i := 3) (v := .slice (some ⟨tb, 0, none⟩) th cap) rfl (by kernel_rfl) (by kernel_rfl) (by kernel_rfl) (fun _ _ _ h => h) (Or.inl ⟨by kernel_rfl, ?_⟩) hS ?_
    · intro w hw
      have hc := hw.1
      clear hw
      go_simp
    change wpAnyH _ _ _ _ _ _ _ (Act.put _ (some 48) _) _
    simp only [Act.put, List.setIfInBounds_toArray, List.set_cons_succ, List.set_cons_zero]
    refine wpAnyH_take (i := 4) (v := .int .i64 (j : Int)) rfl (by kernel_rfl) (by kernel_rfl) (by kernel_rfl) (fun _ _ _ h => h) (Or.inl ⟨by kernel_rfl, ?_⟩) hS ?_
    · intro w hw; clear hw; go_simp
    change wpAnyH _ _ _ _ _ _ _ (Act.put _ (some 49) _) _
    simp only [Act.put, List.setIfInBounds_toArray, List.set_cons_succ, List.set_cons_zero]
    refine wpAnyH_take (i := 5) (v := .agg #[.string x.key, .int .i64 x.ver, .int .i64 x.asof, .int .i64 x.ends, .slice p x.val.length c]) rfl (by kernel_rfl) (by kernel_rfl) (by kernel_rfl) (fun _ _ _ h => h) (yieldsIf_load_mid (by kernel_rfl) 25 (.tmp 4) rfl w.heap.size 0 rfl ([.string x.key, .int .i64 x.ver, .int .i64 x.asof, .int .i64 x.ends, .slice p x.val.length c]) _ (fun W hw => hw.2.1) Ite.Tryz.und24.choose_spec rfl (Ite.Tryz.size24)) hS ?_
    change wpAnyH _ _ _ _ _ _ _ (Act.put _ (some 50) _) _
    simp only [Act.put, List.setIfInBounds_toArray, List.set_cons_succ, List.set_cons_zero]
    refine wpAnyH_take (i := 6) (v := .pointer (some ⟨gc, slt n x.key, none⟩)) rfl (by kernel_rfl) (by kernel_rfl) (by kernel_rfl) (fun _ _ _ h => h) (Or.inl ⟨by kernel_rfl, ?_⟩) hS ?_
    · intro w hw; clear hw; go_simp
    change wpAnyH _ _ _ _ _ _ _ (Act.put _ (some 51) _) _
    simp only [Act.put, List.setIfInBounds_toArray, List.set_cons_succ, List.set_cons_zero]
    refine wpAnyH_take (i := 7) (v := .pointer (some ⟨gc, slt n x.key, none⟩)) rfl (by kernel_rfl) (by kernel_rfl) (by kernel_rfl) (fun _ _ _ h => h) (Or.inl ⟨by kernel_rfl, ?_⟩) hS ?_
    · intro w hw; clear hw; go_simp
    change wpAnyH _ _ _ _ _ _ _ (Act.put _ (some 52) _) _
    simp only [Act.put, List.setIfInBounds_toArray, List.set_cons_succ, List.set_cons_zero]
    refine wpAnyH_take (i := 8) (v := .int .i64 (H (slt n x.key))) rfl (by kernel_rfl) (by kernel_rfl) (by kernel_rfl) (fun _ _ _ h => h) (Or.inl ⟨by kernel_rfl, ?_⟩) hS ?_
    · intro w hw
      have hc := hw.2.2
      clear hw
      go_simp
    change wpAnyH _ _ _ _ _ _ _ (Act.put _ (some 53) _) _
    simp only [Act.put, List.setIfInBounds_toArray, List.set_cons_succ, List.set_cons_zero]
    refine wpAnyH_take (i := 9) (v := .agg #[.string x.key, .int .i64 x.ver, .int .i64 x.asof, .int .i64 x.ends, .slice p x.val.length c, .int .i64 (H (slt n x.key))]) rfl (by kernel_rfl) (by kernel_rfl) (by kernel_rfl) (fun _ _ _ h => h) (Or.inl ⟨by kernel_rfl, ?_⟩) hS ?_
    · intro w hw; clear hw; go_simp
    change wpAnyH _ _ _ _ _ _ _ (Act.put _ (some 54) _) _
    simp only [Act.put, List.setIfInBounds_toArray, List.set_cons_succ, List.set_cons_zero]
    refine wpAnyH_take (i := 10) (v := .pointer (some ⟨tb, j * 6, none⟩)) rfl (by kernel_rfl) (by kernel_rfl) (by kernel_rfl) (fun _ _ _ h => h) (Or.inl ⟨by kernel_rfl, ?_⟩) hS ?_
    · intro w hw
      clear hw
      go_simp
      try (intro hh; exfalso; omega)
    change wpAnyH _ _ _ _ _ _ _ (Act.put _ (some 55) _) _
    simp only [Act.put, List.setIfInBounds_toArray, List.set_cons_succ, List.set_cons_zero]
    refine wpAnyH_ready (rs := [11]) (by kernel_rfl) (by simp) ?_
    refine AllReadyH.cons rfl (fun K hK => ?_) AllReadyH.nil
    refine step_stTh rfl (.tmp 55) (.tmp 54) rfl tb (j * 6) rfl _ _ _ _ _ _ _ _ rfl TH5.out ?_
    intro w6 hw6
    have HT6 := (HT5.out.below (show Below w5.heap.size w5 w5.drew from drew_below_m w5 1 _)).setThing hj5 x HQ5.out (H (slt n x.key))
    rw [show thC x (.slice p x.val.length c) (H (slt n x.key)) = [.string x.key, .int .i64 x.ver, .int .i64 x.asof, .int .i64 x.ends, .slice p x.val.length c, .int .i64 (H (slt n x.key))] from rfl, ← hw6] at HT6
    obtain ⟨T6, F6⟩ := HT6
    have HT6 := hid2 T6
    have HF6 := hid2 F6
    have c63 := T6.cells.2.2.2.1
    have Y6 := hid2 (F6.ent Y5.out good_ent.1)
    have h6 := (T6.head HS.out).1
    have f6 := (T6.head HS.out).2
    clear hw6 T6 F6
    refine hK.out _ _ (⟨c63, box_range Y6.out, h6⟩) (fun hS => ?_)
    clear hK K
    change wpAnyH _ _ _ _ _ _ _ (Act.put _ (none) _) _
    simp only [Act.put]
    refine wpAnyH_done (by kernel_rfl) ?_ _
    skip
    have hsome : (w6.cell? ⟨gc, slt n x.key, none⟩).isSome = true := by rw [h6]; rfl
    clear c53 h5 hI5 TH5
    go_wp2_with (refine st3 rfl (.tmp 58) (.tmp 57) rfl gc (slt n x.key) rfl (j : Int) rfl hsome f6 ?_; intro w7 hw7; have HT7 := HT6.out.setHead HS.out (j : Int); rw [← hw7] at HT7; have HT7 := hid2 HT7; clear hw7)
    go_end0
    exact ⟨rfl, ((F5.out.then_ (show Below w5.heap.size w5 w5.drew from drew_below_m w5 1 _)).trans HF6.out).trans HT7.out.2, add_end HTN.out HPL.out HE.out HK.out hF HW.out hjth hjn hjU HR.out (.inl ⟨rfl, rfl, hj, rfl⟩) HT7.out.1⟩
end Go.Proofs.YtkgecpplgjfhiaaGreatDoor
