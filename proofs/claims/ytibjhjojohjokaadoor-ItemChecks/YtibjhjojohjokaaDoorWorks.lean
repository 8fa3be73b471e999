/-
  The fixed example.
-/
import Derived.Test.YtibjhjojohjokaaDoorRReadE
import Derived.Lib.SlBytesConst
namespace Go.Proofs.YtibjhjojohjokaaDoor
open Go.RowKit

/-- The example's entry. -/
def exE : Ent := ⟨⟨#[107]⟩, 3, 5, 9, [97, 98]⟩
theorem exE_check : checkE exE = 0 := by kernel_rfl
theorem exE_len : (rowB exE).length = 8 := by kernel_rfl
theorem exE_size : sizeP 1 3 5 9 2 = 8 := by kernel_rfl
theorem exE_byt : Byt exE.val := by
  intro x hx
  simp [exE] at hx
  omega
theorem exE_read : readE (rowB exE ++ rowB exE) = ([exE, exE], 0) := by
  have h := readE_put [exE, exE] (by intro x hx; simp at hx; subst hx; exact exE_check)
  simpa [allB] using h
theorem ex_bad : readE [1, 107, 3, 2, 0, 0] = ([], 2) := by kernel_rfl
theorem ex_chk : chk ⟨#[107]⟩ 3 2 9 2 = 2 := by kernel_rfl

/-- What stays while the example is looked at. -/
def ExS (w : World) (xb yb : Nat) (px pz : Option Addr) (cz zb zo : Nat) : Prop :=
  w.heap[xb]? = some (.cells #[.string ⟨#[107]⟩, .int .i64 3, .int .i64 5, .int .i64 9, .slice px 2 2] 24 (0, 0)) ∧ w.heap[yb]? = some (.cells #[.string ⟨#[107]⟩, .int .i64 3, .int .i64 2, .int .i64 9, .slice px 2 2] 24 (0, 0)) ∧ At5 w zb zo ⟨#[107]⟩ 3 5 9 (.slice pz 2 cz)
theorem exS_stays {w w' : World} {xb yb : Nat} {px pz : Option Addr} {cz zb zo : Nat} (h : ExS w xb yb px pz cz zb zo) (hb : Below w.heap.size w w') : ExS w' xb yb px pz cz zb zo :=
  ⟨heap_stays h.1 hb, heap_stays h.2.1 hb, h.2.2.stays hb⟩
theorem sl_lit {w : World} (C : Array Value) (n : Nat) (l : List Int) (hn : C.toList = U l) (h2 : C.size = n) (hm : n ≤ maxLen) : SlAt (w.alloc (.cells C 5)) w.heap.size (.slice (some ⟨w.heap.size, 0, none⟩) n n) (U l) := by
  have hl : (U l).length = n := by rw [← hn, Array.length_toList, h2]
  refine .inr ⟨_, n, by rw [hl], by omega, hm, .inr ⟨0, rfl, by simp, fun k u hk => ?_⟩⟩
  rw [World.cell?_alloc_at _ _ _ _ rfl, Nat.zero_add]
  rw [← hn] at hk
  simpa using hk

set_option maxHeartbeats 8000000 in
set_option maxRecDepth 10000 in
theorem works_any {w : World} (hE : ErrT w) : Calls Tryd.prog 8 #[] w fun en w' => en = .returned (.bool true) ∧ Below w.heap.size w w' := by
  have hcv := Go.Lib.run_convert_bytes_const (P := Tryd.prog) w 22 5 #[.int .u8 97, .int .u8 98] 2 2 Tryd.underlying22 Tryd.underlying5
  go_enter Tryd.func8, Tryd.ntmps8
  go_wp2_with fail
  clear hcv
  obtain ⟨w0, hw0⟩ : ∃ w0, w0 = (w.alloc (.cells #[.int .u8 97, .int .u8 98] 5 (2, 3))).alloc (.cells #[.string ⟨#[107]⟩, .int .i64 3, .int .i64 5, .int .i64 9, .slice (some ⟨w.heap.size, 0, none⟩) 2 2] 24) := ⟨_, rfl⟩
  rw [← hw0]
  have B0 : Below w.heap.size w w0 := by rw [hw0]; go_grown
  have hx0 : w0.heap[w.heap.size + 1]? = some (.cells #[.string ⟨#[107]⟩, .int .i64 3, .int .i64 5, .int .i64 9, .slice (some ⟨w.heap.size, 0, none⟩) 2 2] 24 (0, 0)) := by
    have := heap_alloc_new (w.alloc (.cells #[.int .u8 97, .int .u8 98] 5 (2, 3))) (.cells #[.string ⟨#[107]⟩, .int .i64 3, .int .i64 5, .int .i64 9, .slice (some ⟨w.heap.size, 0, none⟩) 2 2] 24)
    rw [show (w.alloc (.cells #[.int .u8 97, .int .u8 98] 5 (2, 3))).heap.size = w.heap.size + 1 by simp] at this
    rw [hw0]
    exact this
  have hb0 : Bs w0 (.slice (some ⟨w.heap.size, 0, none⟩) 2 2) [97, 98] := by
    refine ⟨w.heap.size, .inr ⟨_, 2, rfl, by simp [U], by unfold maxLen; omega, .inr ⟨0, rfl, ?_, fun k u hk => ?_⟩⟩⟩
    · rw [hw0]; simp; omega
    · have hh : w0.heap[w.heap.size]? = some (.cells #[.int .u8 97, .int .u8 98] 5 (2, 3)) := by rw [hw0, Below.heap_alloc _ _ _ (by simp)]; exact heap_alloc_new w _
      simp only [World.cell?, hh]
      rcases k with _ | _ | k <;> simp [U] at hk ⊢
      · exact hk
      · exact hk
  obtain ⟨xb, hxb⟩ : ∃ xb, xb = w.heap.size + 1 := ⟨_, rfl⟩
  rw [← hxb] at hx0 ⊢
  obtain ⟨px, hpx⟩ : ∃ px : Option Addr, px = some ⟨w.heap.size, 0, none⟩ := ⟨_, rfl⟩
  rw [← hpx] at hx0 hb0 ⊢
  clear hw0 hxb hpx
  have HV : Hid (Byt [97, 98]) := exE_byt
  have HE := hid2 (hE.below B0)
  have HB0 := hid2 B0
  clear hE B0
  refine (putE_any (bs := []) ⟨#[107]⟩ 3 5 9 (by decide) (by decide) (by decide) (by decide) (by decide) (by decide) (SlAt.nil _ 0) hb0).mono ?_
  rintro en w1 ⟨sv1, rfl, hown1, B1⟩
  rw [show (([] : List Int) ++ rowP ⟨#[107]⟩ 3 5 9 [97, 98]).length = 8 by kernel_rfl] at hown1
  change w1.ownsRow w0.heap.size 5 1 sv1 8 (U (rowB exE)) at hown1
  have HRD := hid2 exE_read
  have HRB : Hid (Byt (rowB exE)) := rowB_byt exE_byt
  have hRL := exE_len
  generalize rowB exE = R at *
  obtain ⟨pb, cb, hfb⟩ := own_len hown1
  subst hfb
  obtain ⟨b1, hbb1, hs1⟩ := own_sl hown1
  have HX0 := hid2 hx0
  have HBX := hid2 hb0
  have HSZ := hid2 B1.size
  clear hx0 hb0
  go_wp2_with (at_builtin; refine wpList_append_sl _ rfl _ _ rfl w0.heap.size _ 8 (U R) rfl hown1 b1 _ R rfl hs1 (by omega) HSZ.out ?_; intro v2 w2 hown2 hgrow2)
  have B2 : Below w0.heap.size w0 w2 := B1.grown hgrow2 HSZ.out (fun k hk => (hown1.lt k hk).1)
  rw [← U_append] at hown2
  obtain ⟨b2, hbb2, hs2⟩ := own_sl hown2
  obtain ⟨p2, n2, c2, hf2⟩ := hs2.some3
  subst hf2
  clear hown1 hs1 hgrow2 hown2
  refine (read_ents hs2 (HRB.out.append HRB.out) (by rw [List.length_append]; omega) (HE.out.below B2)).mono ?_
  rintro en w3 ⟨l3, u3, rfl, hl3, hu3, B3⟩
  rw [HRD.out] at hl3 hu3
  obtain rfl := Fault.none hu3
  obtain ⟨zp, zc, rfl, _, _, hz⟩ := hl3
  obtain ⟨zb, zo, pz, cz, rfl, hzb, a0, a1, a2, a3, a4, hbz⟩ := hz 1 exE rfl
  have HZ3 : Hid (At5 w3 zb (zo + 5) ⟨#[107]⟩ 3 5 9 (.slice pz 2 cz)) := ⟨a0, a1, a2, a3, a4⟩
  have HBZ : Hid (Bs w3 (.slice pz 2 cz) [97, 98]) := hbz
  have B03 := hid2 (B2.trans (B3.mono B2.size))
  clear hz a0 a1 a2 a3 a4 hbz hu3 hs2 B2 B3
  go_wp2_with fail
  have X3 : Below w3.heap.size w3 (w3.alloc (.cells #[.int .u8 1, .int .u8 107, .int .u8 3, .int .u8 2, .int .u8 0, .int .u8 0] 5)) := by go_grown
  refine (read_ents (bs := [1, 107, 3, 2, 0, 0]) (sl_lit _ 6 _ rfl rfl (by decide)) (by intro x hx; simp at hx; omega) (by decide) (HE.out.below (B03.out.trans (X3.mono B03.out.size)))).mono ?_
  rintro en w4 ⟨l4, u4, rfl, hl4, hu4, B4⟩
  rw [ex_bad] at hu4
  have hB34 := X3.trans (B4.mono X3.size)
  have B04 := B03.out.trans (hB34.mono B03.out.size)
  have HZ4 := hid2 (HZ3.out.stays hB34)
  have HBZ4 := hid2 (HBZ.out.stays hB34)
  have hx4 := heap_stays HX0.out B04
  obtain ⟨⟨q0, q1, q2, q3, q4⟩, _⟩ := five24 hx4
  have hlt4 := lt_of_block hx4
  have HF4 := hid2 hu4
  have HX4 := hid2 (HBX.out.stays B04)
  have HE4 := hid2 (HE.out.below B04)
  have HB4 := hid2 (HB0.out.trans (B04.mono HB0.out.size))
  have HXX := hid2 hx4
  clear hl4 hu4 X3 B4 hB34 B03 HZ3 HBZ HBX HE HB0
  go_wp2_with (refine st24 rfl (.tmp 7) (.tmp 25) rfl w4.heap.size rfl _ _ _ _ _ _ (heap_alloc_new w4 _) rfl rfl ⟨rfl, rfl, rfl, rfl, rfl⟩ ?_; intro w5 z5 y5; obtain ⟨⟨p0, p1, p2, p3, p4⟩, pf⟩ := five24 z5; have hlt5 := lt_of_block z5)
  have X5 : Below w4.heap.size w4 w5 := made_below y5
  have hst := heap_setCell_same w5 w4.heap.size 2 _ 24 (.int .i64 2) z5
  have z6 : (w5.setCell ⟨w4.heap.size, 2, none⟩ (.int .i64 2)).heap[w4.heap.size]? = some (.cells #[.string ⟨#[107]⟩, .int .i64 3, .int .i64 2, .int .i64 9, .slice px 2 2] 24 (0, 0)) := by rw [hst]; rfl
  have X6 : Below w4.heap.size w4 (w5.setCell ⟨w4.heap.size, 2, none⟩ (.int .i64 2)) := X5.grown (setCell_grownBy w5 w4.heap.size 2 _) X5.size (fun k hk => by cases hk; exact Nat.le_refl _)
  obtain ⟨w8, hw8⟩ : ∃ w8, w8 = w5.setCell ⟨w4.heap.size, 2, none⟩ (.int .i64 2) := ⟨_, rfl⟩
  rw [← hw8] at z6 X6 ⊢
  obtain ⟨yb, hyb⟩ : ∃ yb, yb = w4.heap.size := ⟨_, rfl⟩
  have hX6 := hid2 X6
  rw [← hyb] at z6 ⊢
  have HS8 : Hid (ExS w8.drew xb yb px pz cz zb (zo + 5)) := exS_stays ⟨heap_stays HXX.out hX6.out, z6, HZ4.out.stays hX6.out⟩ (Below.refl w8.heap.size w8).drew
  have HZ := hid2 (HBZ4.out.stays hX6.out)
  have HX := hid2 (HX4.out.stays hX6.out)
  have HF := hid2 (HF4.out.below hX6.out)
  have HER := hid2 (HE4.out.below hX6.out)
  have HB8 := hid2 (HB4.out.trans (hX6.out.mono HB4.out.size))
  clear hw8 hst z6 X6 X5 z5 y5 p0 p1 p2 p3 p4 pf hlt5 q0 q1 q2 q3 q4 hlt4 hx4 HZ4 HBZ4 HX4 HF4 HE4 HB4 HXX hX6 hyb HX0 HRD HRB hRL hzb
  refine wp_region_held_drew (S := fun W => ExS W xb yb px pz cz zb (zo + 5)) (by kernel_rfl) (HS8.out) (fun hS => ?_)
  change wpAnyH _ _ _ _ _ _ _ _ (World.drew _)
  have D8 : Below w8.heap.size w8 (World.drew w8) := (Below.refl _ _).drew
  refine wpAnyH_take (i := 0) (v := .slice pb 8 cb) rfl (by kernel_rfl) (by kernel_rfl) (by kernel_rfl) (fun _ _ _ h => h) (Or.inl ⟨by kernel_rfl, ?_⟩) hS ?_
  · intro w hw; clear hw; go_simp
  change wpAnyH _ _ _ _ _ _ _ (Act.put _ (some 27) _) _
  simp only [Act.put, List.setIfInBounds_toArray, List.set_cons_succ, List.set_cons_zero]
  refine wpAnyH_take (i := 1) (v := .int .i64 8) rfl (by kernel_rfl) (by kernel_rfl) (by kernel_rfl) (fun _ _ _ h => h) (Or.inl ⟨by kernel_rfl, ?_⟩) hS ?_
  · intro w hw; clear hw; go_simp
  change wpAnyH _ _ _ _ _ _ _ (Act.put _ (some 28) _) _
  simp only [Act.put, List.setIfInBounds_toArray, List.set_cons_succ, List.set_cons_zero]
  refine wpAnyH_take (i := 2) (v := .bool true) rfl (by kernel_rfl) (by kernel_rfl) (by kernel_rfl) (fun _ _ _ h => h) (Or.inl ⟨by kernel_rfl, ?_⟩) hS ?_
  · intro w hw; clear hw; go_simp
  change wpAnyH _ _ _ _ _ _ _ (Act.put _ (some 29) _) _
  simp only [Act.put, List.setIfInBounds_toArray, List.set_cons_succ, List.set_cons_zero]
  refine wpAnyH_take (i := 3) (v := .bool true) rfl (by kernel_rfl) (by kernel_rfl) (by kernel_rfl) (fun _ _ _ h => h) (Or.inl ⟨by kernel_rfl, ?_⟩) hS ?_
  · intro w hw; clear hw; go_simp
  change wpAnyH _ _ _ _ _ _ _ (Act.put _ (some 30) _) _
  simp only [Act.put, List.setIfInBounds_toArray, List.set_cons_succ, List.set_cons_zero]
  refine wpAnyH_take (i := 4) (v := .agg #[.string ⟨#[107]⟩, .int .i64 3, .int .i64 5, .int .i64 9, .slice px 2 2]) rfl (by kernel_rfl) (by kernel_rfl) (by kernel_rfl) (fun _ _ _ h => h) (Or.inl ⟨by kernel_rfl, ?_⟩) hS ?_
  · intro w hw
    obtain ⟨s1, s2, s3⟩ := hw
    obtain ⟨⟨e0, e1, e2, e3, e4⟩, _⟩ := five24 s1
    go_simp
  change wpAnyH _ _ _ _ _ _ _ (Act.put _ (some 31) _) _
  simp only [Act.put, List.setIfInBounds_toArray, List.set_cons_succ, List.set_cons_zero]
  refine wpAnyH_ready (rs := [5]) (by kernel_rfl) (by simp) ?_
  refine AllReadyH.cons rfl (fun K hK => ?_) AllReadyH.nil
  go_simp
  go_wp2_with (go_at_call 20; refine (size_any ⟨#[107]⟩ 3 5 9 px 2 2 _ (by decide) (by decide) (by decide) (by decide) (by decide)).mono ?_; rintro en w9 ⟨rfl, B9⟩)
  rw [exE_size]
  have D9 := D8.trans (B9.mono D8.size)
  refine hK.out _ _ (exS_stays hS B9) (fun hS => ?_)
  clear hK K
  skip
  refine wpAnyH_take (i := 6) (v := .bool true) rfl (by kernel_rfl) (by kernel_rfl) (by kernel_rfl) (fun _ _ _ h => h) (Or.inl ⟨by kernel_rfl, ?_⟩) hS ?_
  · intro w hw; clear hw; go_simp
  change wpAnyH _ _ _ _ _ _ _ (Act.put _ (some 33) _) _
  simp only [Act.put, List.setIfInBounds_toArray, List.set_cons_succ, List.set_cons_zero]
  refine wpAnyH_take (i := 7) (v := .bool true) rfl (by kernel_rfl) (by kernel_rfl) (by kernel_rfl) (fun _ _ _ h => h) (Or.inl ⟨by kernel_rfl, ?_⟩) hS ?_
  · intro w hw; clear hw; go_simp
  change wpAnyH _ _ _ _ _ _ _ (Act.put _ (some 34) _) _
  simp only [Act.put, List.setIfInBounds_toArray, List.set_cons_succ, List.set_cons_zero]
  refine wpAnyH_take (i := 8) (v := .bool true) rfl (by kernel_rfl) (by kernel_rfl) (by kernel_rfl) (fun _ _ _ h => h) (Or.inl ⟨by kernel_rfl, ?_⟩) hS ?_
  · intro w hw; clear hw; go_simp
  change wpAnyH _ _ _ _ _ _ _ (Act.put _ (some 35) _) _
  simp only [Act.put, List.setIfInBounds_toArray, List.set_cons_succ, List.set_cons_zero]
  refine wpAnyH_take (i := 9) (v := .nilIface) rfl (by kernel_rfl) (by kernel_rfl) (by kernel_rfl) (fun _ _ _ h => h) (Or.inl ⟨by kernel_rfl, ?_⟩) hS ?_
  · intro w hw; clear hw; go_simp
  change wpAnyH _ _ _ _ _ _ _ (Act.put _ (some 36) _) _
  simp only [Act.put, List.setIfInBounds_toArray, List.set_cons_succ, List.set_cons_zero]
  refine wpAnyH_take (i := 10) (v := .bool true) rfl (by kernel_rfl) (by kernel_rfl) (by kernel_rfl) (fun _ _ _ h => h) (Or.inl ⟨by kernel_rfl, ?_⟩) hS ?_
  · intro w hw; clear hw; go_simp
  change wpAnyH _ _ _ _ _ _ _ (Act.put _ (some 37) _) _
  simp only [Act.put, List.setIfInBounds_toArray, List.set_cons_succ, List.set_cons_zero]
  refine wpAnyH_take (i := 11) (v := .bool true) rfl (by kernel_rfl) (by kernel_rfl) (by kernel_rfl) (fun _ _ _ h => h) (Or.inl ⟨by kernel_rfl, ?_⟩) hS ?_
  · intro w hw; clear hw; go_simp
  change wpAnyH _ _ _ _ _ _ _ (Act.put _ (some 38) _) _
  simp only [Act.put, List.setIfInBounds_toArray, List.set_cons_succ, List.set_cons_zero]
  refine wpAnyH_take (i := 12) (v := .bool true) rfl (by kernel_rfl) (by kernel_rfl) (by kernel_rfl) (fun _ _ _ h => h) (Or.inl ⟨by kernel_rfl, ?_⟩) hS ?_
  · intro w hw; clear hw; go_simp
  change wpAnyH _ _ _ _ _ _ _ (Act.put _ (some 39) _) _
  simp only [Act.put, List.setIfInBounds_toArray, List.set_cons_succ, List.set_cons_zero]
  refine wpAnyH_take (i := 13) (v := .slice (some ⟨zb, zo, none⟩) 2 zc) rfl (by kernel_rfl) (by kernel_rfl) (by kernel_rfl) (fun _ _ _ h => h) (Or.inl ⟨by kernel_rfl, ?_⟩) hS ?_
  · intro w hw; clear hw; go_simp
  change wpAnyH _ _ _ _ _ _ _ (Act.put _ (some 40) _) _
  simp only [Act.put, List.setIfInBounds_toArray, List.set_cons_succ, List.set_cons_zero]
  refine wpAnyH_take (i := 14) (v := .int .i64 2) rfl (by kernel_rfl) (by kernel_rfl) (by kernel_rfl) (fun _ _ _ h => h) (Or.inl ⟨by kernel_rfl, ?_⟩) hS ?_
  · intro w hw; clear hw; go_simp
  change wpAnyH _ _ _ _ _ _ _ (Act.put _ (some 41) _) _
  simp only [Act.put, List.setIfInBounds_toArray, List.set_cons_succ, List.set_cons_zero]
  refine wpAnyH_take (i := 15) (v := .bool true) rfl (by kernel_rfl) (by kernel_rfl) (by kernel_rfl) (fun _ _ _ h => h) (Or.inl ⟨by kernel_rfl, ?_⟩) hS ?_
  · intro w hw; clear hw; go_simp
  change wpAnyH _ _ _ _ _ _ _ (Act.put _ (some 42) _) _
  simp only [Act.put, List.setIfInBounds_toArray, List.set_cons_succ, List.set_cons_zero]
  refine wpAnyH_take (i := 16) (v := .bool true) rfl (by kernel_rfl) (by kernel_rfl) (by kernel_rfl) (fun _ _ _ h => h) (Or.inl ⟨by kernel_rfl, ?_⟩) hS ?_
  · intro w hw; clear hw; go_simp
  change wpAnyH _ _ _ _ _ _ _ (Act.put _ (some 43) _) _
  simp only [Act.put, List.setIfInBounds_toArray, List.set_cons_succ, List.set_cons_zero]
  refine wpAnyH_take (i := 17) (v := .bool true) rfl (by kernel_rfl) (by kernel_rfl) (by kernel_rfl) (fun _ _ _ h => h) (Or.inl ⟨by kernel_rfl, ?_⟩) hS ?_
  · intro w hw; clear hw; go_simp
  change wpAnyH _ _ _ _ _ _ _ (Act.put _ (some 44) _) _
  simp only [Act.put, List.setIfInBounds_toArray, List.set_cons_succ, List.set_cons_zero]
  refine wpAnyH_take (i := 18) (v := .slice (some ⟨zb, zo, none⟩) 2 zc) rfl (by kernel_rfl) (by kernel_rfl) (by kernel_rfl) (fun _ _ _ h => h) (Or.inl ⟨by kernel_rfl, ?_⟩) hS ?_
  · intro w hw; clear hw; go_simp
  change wpAnyH _ _ _ _ _ _ _ (Act.put _ (some 45) _) _
  simp only [Act.put, List.setIfInBounds_toArray, List.set_cons_succ, List.set_cons_zero]
  refine wpAnyH_take (i := 19) (v := .pointer (some ⟨zb, zo + 5, none⟩)) rfl (by kernel_rfl) (by kernel_rfl) (by kernel_rfl) (fun _ _ _ h => h) (Or.inl ⟨by kernel_rfl, ?_⟩) hS ?_
  · intro w hw; clear hw; go_simp
  change wpAnyH _ _ _ _ _ _ _ (Act.put _ (some 46) _) _
  simp only [Act.put, List.setIfInBounds_toArray, List.set_cons_succ, List.set_cons_zero]
  refine wpAnyH_take (i := 20) (v := .agg #[.string ⟨#[107]⟩, .int .i64 3, .int .i64 5, .int .i64 9, .slice pz 2 cz]) rfl (by kernel_rfl) (by kernel_rfl) (by kernel_rfl) (fun _ _ _ h => h) (Or.inl ⟨by kernel_rfl, ?_⟩) hS ?_
  · intro w hw
    obtain ⟨s1, s2, s3⟩ := hw
    obtain ⟨e0, e1, e2, e3, e4⟩ := s3
    go_simp
  change wpAnyH _ _ _ _ _ _ _ (Act.put _ (some 47) _) _
  simp only [Act.put, List.setIfInBounds_toArray, List.set_cons_succ, List.set_cons_zero]
  refine wpAnyH_take (i := 21) (v := .agg #[.string ⟨#[107]⟩, .int .i64 3, .int .i64 5, .int .i64 9, .slice px 2 2]) rfl (by kernel_rfl) (by kernel_rfl) (by kernel_rfl) (fun _ _ _ h => h) (Or.inl ⟨by kernel_rfl, ?_⟩) hS ?_
  · intro w hw
    obtain ⟨s1, s2, s3⟩ := hw
    obtain ⟨⟨e0, e1, e2, e3, e4⟩, _⟩ := five24 s1
    go_simp
  change wpAnyH _ _ _ _ _ _ _ (Act.put _ (some 48) _) _
  simp only [Act.put, List.setIfInBounds_toArray, List.set_cons_succ, List.set_cons_zero]
  refine wpAnyH_ready (rs := [22]) (by kernel_rfl) (by simp) ?_
  refine AllReadyH.cons rfl (fun K hK => ?_) AllReadyH.nil
  go_simp
  go_wp2_with (go_at_call 12; refine (same6_any ⟨#[107]⟩ ⟨#[107]⟩ 3 5 9 3 5 9 (HZ.out.stays D9) (HX.out.stays D9) HV.out HV.out).mono ?_; rintro en w10 ⟨rfl, B10⟩)
  rw [sameB_self]
  have D10 := D9.trans (B10.mono D9.size)
  refine hK.out _ _ (exS_stays hS B10) (fun hS => ?_)
  clear hK K
  skip
  refine wpAnyH_take (i := 23) (v := .bool true) rfl (by kernel_rfl) (by kernel_rfl) (by kernel_rfl) (fun _ _ _ h => h) (Or.inl ⟨by kernel_rfl, ?_⟩) hS ?_
  · intro w hw; clear hw; go_simp
  change wpAnyH _ _ _ _ _ _ _ (Act.put _ (some 50) _) _
  simp only [Act.put, List.setIfInBounds_toArray, List.set_cons_succ, List.set_cons_zero]
  refine wpAnyH_take (i := 24) (v := .bool true) rfl (by kernel_rfl) (by kernel_rfl) (by kernel_rfl) (fun _ _ _ h => h) (Or.inl ⟨by kernel_rfl, ?_⟩) hS ?_
  · intro w hw; clear hw; go_simp
  change wpAnyH _ _ _ _ _ _ _ (Act.put _ (some 51) _) _
  simp only [Act.put, List.setIfInBounds_toArray, List.set_cons_succ, List.set_cons_zero]
  refine wpAnyH_take (i := 25) (v := u4) rfl (by kernel_rfl) (by kernel_rfl) (by kernel_rfl) (fun _ _ _ h => h) (Or.inl ⟨by kernel_rfl, ?_⟩) hS ?_
  · intro w hw; clear hw; go_simp
  change wpAnyH _ _ _ _ _ _ _ (Act.put _ (some 52) _) _
  simp only [Act.put, List.setIfInBounds_toArray, List.set_cons_succ, List.set_cons_zero]
  refine wpAnyH_ready (rs := [26]) (by kernel_rfl) (by simp) ?_
  refine AllReadyH.cons rfl (fun K hK => ?_) AllReadyH.nil
  go_simp
  go_wp2_with (go_at_call 9; refine (of_code (HER.out.below D10) (HF.out.below D10)).mono ?_; rintro en w11 ⟨rfl, B11⟩)
  have D11 := D10.trans (B11.mono D10.size)
  refine hK.out _ _ (exS_stays hS B11) (fun hS => ?_)
  clear hK K
  skip
  refine wpAnyH_take (i := 27) (v := .bool true) rfl (by kernel_rfl) (by kernel_rfl) (by kernel_rfl) (fun _ _ _ h => h) (Or.inl ⟨by kernel_rfl, ?_⟩) hS ?_
  · intro w hw; clear hw; go_simp
  change wpAnyH _ _ _ _ _ _ _ (Act.put _ (some 54) _) _
  simp only [Act.put, List.setIfInBounds_toArray, List.set_cons_succ, List.set_cons_zero]
  refine wpAnyH_take (i := 28) (v := .bool true) rfl (by kernel_rfl) (by kernel_rfl) (by kernel_rfl) (fun _ _ _ h => h) (Or.inl ⟨by kernel_rfl, ?_⟩) hS ?_
  · intro w hw; clear hw; go_simp
  change wpAnyH _ _ _ _ _ _ _ (Act.put _ (some 55) _) _
  simp only [Act.put, List.setIfInBounds_toArray, List.set_cons_succ, List.set_cons_zero]
  refine wpAnyH_take (i := 29) (v := .bool true) rfl (by kernel_rfl) (by kernel_rfl) (by kernel_rfl) (fun _ _ _ h => h) (Or.inl ⟨by kernel_rfl, ?_⟩) hS ?_
  · intro w hw; clear hw; go_simp
  change wpAnyH _ _ _ _ _ _ _ (Act.put _ (some 56) _) _
  simp only [Act.put, List.setIfInBounds_toArray, List.set_cons_succ, List.set_cons_zero]
  refine wpAnyH_take (i := 30) (v := .agg #[.string ⟨#[107]⟩, .int .i64 3, .int .i64 2, .int .i64 9, .slice px 2 2]) rfl (by kernel_rfl) (by kernel_rfl) (by kernel_rfl) (fun _ _ _ h => h) (Or.inl ⟨by kernel_rfl, ?_⟩) hS ?_
  · intro w hw
    obtain ⟨s1, s2, s3⟩ := hw
    obtain ⟨⟨e0, e1, e2, e3, e4⟩, _⟩ := five24 s2
    go_simp
  change wpAnyH _ _ _ _ _ _ _ (Act.put _ (some 57) _) _
  simp only [Act.put, List.setIfInBounds_toArray, List.set_cons_succ, List.set_cons_zero]
  refine wpAnyH_ready (rs := [31]) (by kernel_rfl) (by simp) ?_
  refine AllReadyH.cons rfl (fun K hK => ?_) AllReadyH.nil
  go_simp
  go_wp2_with (go_at_call 10; refine (check_any ⟨#[107]⟩ 3 2 9 px 2 2 _ (by decide) (by decide)).mono ?_; rintro en w12 ⟨uc, rfl, hc, B12⟩)
  rw [ex_chk] at hc
  have D12 := D11.trans (B12.mono D11.size)
  refine hK.out _ _ (exS_stays hS B12) (fun hS => ?_)
  clear hK K
  skip
  refine wpAnyH_ready (rs := [32]) (by kernel_rfl) (by simp) ?_
  refine AllReadyH.cons rfl (fun K hK => ?_) AllReadyH.nil
  go_simp
  go_wp2_with (go_at_call 9; refine (of_code (HER.out.below D12) hc.fault).mono ?_; rintro en w13 ⟨rfl, B13⟩)
  have D13 := D12.trans (B13.mono D12.size)
  refine hK.out _ _ (exS_stays hS B13) (fun hS => ?_)
  clear hK K
  skip
  refine wpAnyH_take (i := 33) (v := .bool true) rfl (by kernel_rfl) (by kernel_rfl) (by kernel_rfl) (fun _ _ _ h => h) (Or.inl ⟨by kernel_rfl, ?_⟩) hS ?_
  · intro w hw; clear hw; go_simp
  change wpAnyH _ _ _ _ _ _ _ (Act.put _ (some 60) _) _
  simp only [Act.put, List.setIfInBounds_toArray, List.set_cons_succ, List.set_cons_zero]
  refine wpAnyH_take (i := 34) (v := .bool true) rfl (by kernel_rfl) (by kernel_rfl) (by kernel_rfl) (fun _ _ _ h => h) (Or.inl ⟨by kernel_rfl, ?_⟩) hS ?_
  · intro w hw; clear hw; go_simp
  change wpAnyH _ _ _ _ _ _ _ (Act.put _ (some 61) _) _
  simp only [Act.put, List.setIfInBounds_toArray, List.set_cons_succ, List.set_cons_zero]
  refine wpAnyH_take (i := 35) (v := .bool true) rfl (by kernel_rfl) (by kernel_rfl) (by kernel_rfl) (fun _ _ _ h => h) (Or.inl ⟨by kernel_rfl, ?_⟩) hS ?_
  · intro w hw; clear hw; go_simp
  change wpAnyH _ _ _ _ _ _ _ (Act.put _ (some 62) _) _
  simp only [Act.put, List.setIfInBounds_toArray, List.set_cons_succ, List.set_cons_zero]
  refine wpAnyH_take (i := 36) (v := .agg #[.string ⟨#[107]⟩, .int .i64 3, .int .i64 5, .int .i64 9, .slice px 2 2]) rfl (by kernel_rfl) (by kernel_rfl) (by kernel_rfl) (fun _ _ _ h => h) (Or.inl ⟨by kernel_rfl, ?_⟩) hS ?_
  · intro w hw
    obtain ⟨s1, s2, s3⟩ := hw
    obtain ⟨⟨e0, e1, e2, e3, e4⟩, _⟩ := five24 s1
    go_simp
  change wpAnyH _ _ _ _ _ _ _ (Act.put _ (some 63) _) _
  simp only [Act.put, List.setIfInBounds_toArray, List.set_cons_succ, List.set_cons_zero]
  refine wpAnyH_ready (rs := [37]) (by kernel_rfl) (by simp) ?_
  refine AllReadyH.cons rfl (fun K hK => ?_) AllReadyH.nil
  go_simp
  go_wp2_with (go_at_call 14; refine (live_any ⟨#[107]⟩ 3 5 9 8 px 2 2 _).mono ?_; rintro en w14 ⟨rfl, B14⟩)
  rw [show liveB 9 8 = true by decide]
  have D14 := D13.trans (B14.mono D13.size)
  refine hK.out _ _ (exS_stays hS B14) (fun hS => ?_)
  clear hK K
  skip
  refine wpAnyH_take (i := 38) (v := .bool true) rfl (by kernel_rfl) (by kernel_rfl) (by kernel_rfl) (fun _ _ _ h => h) (Or.inl ⟨by kernel_rfl, ?_⟩) hS ?_
  · intro w hw; clear hw; go_simp
  change wpAnyH _ _ _ _ _ _ _ (Act.put _ (some 65) _) _
  simp only [Act.put, List.setIfInBounds_toArray, List.set_cons_succ, List.set_cons_zero]
  refine wpAnyH_take (i := 39) (v := .bool true) rfl (by kernel_rfl) (by kernel_rfl) (by kernel_rfl) (fun _ _ _ h => h) (Or.inl ⟨by kernel_rfl, ?_⟩) hS ?_
  · intro w hw; clear hw; go_simp
  change wpAnyH _ _ _ _ _ _ _ (Act.put _ (some 66) _) _
  simp only [Act.put, List.setIfInBounds_toArray, List.set_cons_succ, List.set_cons_zero]
  refine wpAnyH_take (i := 40) (v := .agg #[.string ⟨#[107]⟩, .int .i64 3, .int .i64 5, .int .i64 9, .slice px 2 2]) rfl (by kernel_rfl) (by kernel_rfl) (by kernel_rfl) (fun _ _ _ h => h) (Or.inl ⟨by kernel_rfl, ?_⟩) hS ?_
  · intro w hw
    obtain ⟨s1, s2, s3⟩ := hw
    obtain ⟨⟨e0, e1, e2, e3, e4⟩, _⟩ := five24 s1
    go_simp
  change wpAnyH _ _ _ _ _ _ _ (Act.put _ (some 67) _) _
  simp only [Act.put, List.setIfInBounds_toArray, List.set_cons_succ, List.set_cons_zero]
  refine wpAnyH_ready (rs := [41]) (by kernel_rfl) (by simp) ?_
  refine AllReadyH.cons rfl (fun K hK => ?_) AllReadyH.nil
  go_simp
  go_wp2_with (go_at_call 14; refine (live_any ⟨#[107]⟩ 3 5 9 9 px 2 2 _).mono ?_; rintro en w15 ⟨rfl, B15⟩)
  rw [show liveB 9 9 = false by decide]
  have D15 := D14.trans (B15.mono D14.size)
  refine hK.out _ _ (exS_stays hS B15) (fun hS => ?_)
  clear hK K
  skip
  refine wpAnyH_take (i := 42) (v := .bool true) rfl (by kernel_rfl) (by kernel_rfl) (by kernel_rfl) (fun _ _ _ h => h) (Or.inl ⟨by kernel_rfl, ?_⟩) hS ?_
  · intro w hw; clear hw; go_simp
  change wpAnyH _ _ _ _ _ _ _ (Act.put _ (some 69) _) _
  simp only [Act.put, List.setIfInBounds_toArray, List.set_cons_succ, List.set_cons_zero]
  refine wpAnyH_take (i := 43) (v := .bool true) rfl (by kernel_rfl) (by kernel_rfl) (by kernel_rfl) (fun _ _ _ h => h) (Or.inl ⟨by kernel_rfl, ?_⟩) hS ?_
  · intro w hw; clear hw; go_simp
  change wpAnyH _ _ _ _ _ _ _ (Act.put _ (some 70) _) _
  simp only [Act.put, List.setIfInBounds_toArray, List.set_cons_succ, List.set_cons_zero]
  refine wpAnyH_take (i := 44) (v := .bool true) rfl (by kernel_rfl) (by kernel_rfl) (by kernel_rfl) (fun _ _ _ h => h) (Or.inl ⟨by kernel_rfl, ?_⟩) hS ?_
  · intro w hw; clear hw; go_simp
  change wpAnyH _ _ _ _ _ _ _ (Act.put _ (some 71) _) _
  simp only [Act.put, List.setIfInBounds_toArray, List.set_cons_succ, List.set_cons_zero]
  refine wpAnyH_take (i := 45) (v := .agg #[.string ⟨#[107]⟩, .int .i64 3, .int .i64 5, .int .i64 9, .slice px 2 2]) rfl (by kernel_rfl) (by kernel_rfl) (by kernel_rfl) (fun _ _ _ h => h) (Or.inl ⟨by kernel_rfl, ?_⟩) hS ?_
  · intro w hw
    obtain ⟨s1, s2, s3⟩ := hw
    obtain ⟨⟨e0, e1, e2, e3, e4⟩, _⟩ := five24 s1
    go_simp
  change wpAnyH _ _ _ _ _ _ _ (Act.put _ (some 72) _) _
  simp only [Act.put, List.setIfInBounds_toArray, List.set_cons_succ, List.set_cons_zero]
  refine wpAnyH_take (i := 47) (v := .agg #[.string ⟨#[107]⟩, .int .i64 3, .int .i64 5, .int .i64 9, .slice px 2 2]) rfl (by kernel_rfl) (by kernel_rfl) (by kernel_rfl) (fun _ _ _ h => h) (Or.inl ⟨by kernel_rfl, ?_⟩) hS ?_
  · intro w hw
    obtain ⟨s1, s2, s3⟩ := hw
    obtain ⟨⟨e0, e1, e2, e3, e4⟩, _⟩ := five24 s1
    go_simp
  change wpAnyH _ _ _ _ _ _ _ (Act.put _ (some 74) _) _
  simp only [Act.put, List.setIfInBounds_toArray, List.set_cons_succ, List.set_cons_zero]
  refine wpAnyH_ready (rs := [46]) (by kernel_rfl) (by simp) ?_
  refine AllReadyH.cons rfl (fun K hK => ?_) AllReadyH.nil
  go_simp
  go_wp2_with (go_at_call 16; refine (copy_any ⟨#[107]⟩ 3 5 9 (HX.out.stays D15) (by decide)).mono ?_; rintro en w16 ⟨pq, cq, rfl, hq, B16⟩)
  have D16 := D15.trans (B16.mono D15.size)
  refine hK.out _ _ (exS_stays hS B16) (fun hS => ?_)
  clear hK K
  skip
  refine wpAnyH_ready (rs := [48]) (by kernel_rfl) (by simp) ?_
  refine AllReadyH.cons rfl (fun K hK => ?_) AllReadyH.nil
  go_simp
  go_wp2_with (go_at_call 12; refine (same6_any ⟨#[107]⟩ ⟨#[107]⟩ 3 5 9 3 5 9 hq (HX.out.stays D16) HV.out HV.out).mono ?_; rintro en w17 ⟨rfl, B17⟩)
  rw [sameB_self]
  have D17 := D16.trans (B17.mono D16.size)
  refine hK.out _ _ (exS_stays hS B17) (fun hS => ?_)
  clear hK K
  skip
  refine wpAnyH_take (i := 49) (v := .bool true) rfl (by kernel_rfl) (by kernel_rfl) (by kernel_rfl) (fun _ _ _ h => h) (Or.inl ⟨by kernel_rfl, ?_⟩) hS ?_
  · intro w hw; clear hw; go_simp
  change wpAnyH _ _ _ _ _ _ _ (Act.put _ (some 76) _) _
  simp only [Act.put, List.setIfInBounds_toArray, List.set_cons_succ, List.set_cons_zero]
  refine wpAnyH_take (i := 50) (v := .bool true) rfl (by kernel_rfl) (by kernel_rfl) (by kernel_rfl) (fun _ _ _ h => h) (Or.inl ⟨by kernel_rfl, ?_⟩) hS ?_
  · intro w hw; clear hw; go_simp
  change wpAnyH _ _ _ _ _ _ _ (Act.put _ (some 0) _) _
  simp only [Act.put, List.setIfInBounds_toArray, List.set_cons_zero]
  refine wpAnyH_done (by kernel_rfl) ?_ _
  go_wp2
  go_ret
  exact ⟨rfl, HB8.out.trans (D17.mono HB8.out.size)⟩
end Go.Proofs.YtibjhjojohjokaaDoor
