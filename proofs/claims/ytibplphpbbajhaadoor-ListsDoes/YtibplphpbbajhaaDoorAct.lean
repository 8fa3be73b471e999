/-
  do of the law: one act on the program's lists and on the document's.
-/
import Derived.Test.YtibplphpbbajhaaDoorRTouch
import Derived.Test.YtibplphpbbajhaaDoorNew
namespace Go.Proofs.YtibplphpbbajhaaDoor
open Go.RowKit

theorem Mid.cells {B0 B : Nat} {w w' : World} (m : Mid B0 B w w') {b : Nat} {c : Obj} (h : w.heap[b]? = some c) (hb : B ≤ b) : w'.heap[b]? = some c := by
  rw [m.block b (lt_of_block h) (.inr hb)]; exact h
theorem Four.mid {B0 B : Nat} {w w' : World} (m : Mid B0 B w w') {b : Nat} {x y z : Value} {n : Int} (h : Four w b x y z n) (hb : B ≤ b) : Four w' b x y z n := m.cells h hb
theorem ErrT.mid {B0 B : Nat} {w w' : World} (h : ErrT w) (m : Mid B0 B w w') (h0 : 0 < B0) : ErrT w' := by
  unfold ErrT
  rw [World.cell?_of_block (w := w) (m.block 0 (lt_of_cell h) (.inl h0))]
  exact h
theorem Lx.fit {w : World} {B0 B g K n : Nat} {s : Lst} {M : Nat} (x : Lx w B0 B g K n s M) : Fit s := by
  obtain ⟨h, l, N, t, f, _, _, _, o, v⟩ := x
  have h1 := v.cnt
  have h2 := o.n40
  refine ⟨by rw [v.len]; exact o.K64, by omega, by omega, fun a ha => ?_⟩
  obtain ⟨k, hk⟩ := List.mem_iff_getElem?.1 ha
  rw [v.ok.at_ k a hk]
  exact Nat.le_trans (List.length_filter_le _ _) (by omega)
/-- What an act leaves. -/
def doP (s : Lst) (kd a : Int) : Lst := if kd = 0 then (addP s a).1 else if kd = 1 then (dropP s a).1 else if kd = 2 then (touchP s a).1 else s
/-- Two cells: an act's kind, and what it is on. -/
theorem act_cells {w : World} {b : Nat} {kd a : Int} (h : w.heap[b]? = some (.cells #[.int .i64 kd, .int .i64 a] 40 (0, 0))) : b < w.heap.size ∧ w.cell? ⟨b, 0, none⟩ = some (.int .i64 kd) ∧ w.cell? ⟨b, 1, none⟩ = some (.int .i64 a) := by
  exact ⟨lt_of_block h, by simp [World.cell?, h], by simp [World.cell?, h]⟩
theorem RV.form {w : World} {B : Nat} {v : Value} {s : Lst} (h : RV w B v s) : ∃ pL nL cL pF nF cF pU nU cU n, v = .agg #[.slice pL nL cL, .slice pF nF cF, .slice pU nU cU, .int .i64 n] := by
  obtain ⟨pL, nL, cL, pF, nF, cF, pU, nU, cU, e, _⟩ := h
  exact ⟨pL, nL, cL, pF, nF, cF, pU, nU, cU, _, e⟩
/-- A block behind the program's is written. -/
theorem Lx.put {w w' : World} {B0 B g K n : Nat} {s : Lst} {M q : Nat} (x : Lx w B0 B g K n s M) (m : w.grownBy w' (some q)) (hq : B ≤ q) : Lx w' B0 B g K n s M := by
  obtain ⟨h, l, N, t, f, h1, h2, h3, o, v⟩ := x
  obtain ⟨⟨b1, b2, b3⟩, _⟩ := o.cells
  exact ⟨h, l, N, t, f, h1, h2, h3, o.same (m.block g b1 (by simp; omega)) (m.block h b2 (by simp; omega)) (m.block l b3 (by simp; omega)), v⟩
theorem Mid.put {B0 B : Nat} {a w w' : World} {q : Nat} (m : Mid B0 B a w) (k : w.grownBy w' (some q)) (hq : a.heap.size ≤ q) : Mid B0 B a w' :=
  ⟨k.os.trans m.os, k.tape.trans m.tape, k.output.trans m.output, Nat.le_trans m.size k.size, fun j hj hb => (k.block j (Nat.lt_of_lt_of_le hj m.size) (by simp; omega)).trans (m.block j hj hb)⟩

set_option maxHeartbeats 4000000 in
set_option maxRecDepth 10000 in
theorem do_drop {w : World} {B0 B g K n0 : Nat} {v : Value} {s : Lst} {M : Nat} (x : Lx w B0 B g K n0 s M) (_hM : M ≤ 900) (r : RV w B v s) (hE : ErrT w) (h0 : 0 < B0) (hB : B ≤ w.heap.size) (a : Int) :
    Calls Tryd.prog 10 #[.pointer (some ⟨g, 0, none⟩), v, .agg #[.int .i64 1, .int .i64 a]] w fun e w' => ∃ u, e = .returned (.tuple #[u, .bool true]) ∧ Lx w' B0 B g K n0 (dropP s a).1 (M + 1) ∧ RV w' B u (dropP s a).1 ∧ Mid B0 B w w' := by
  have hfit := x.fit
  obtain ⟨pL, nL, cL, pF, nF, cF, pU, nU, cU, n, rfl⟩ := r.form
  obtain ⟨w1, hw1⟩ : ∃ w1, w1 = ((w.alloc (.cells #[.slice pL nL cL, .slice pF nF cF, .slice pU nU cU, .int .i64 n] 32)).alloc (.cells #[.int .i64 1, .int .i64 a] 40)).alloc (.cells #[.slice none 0 0, .slice none 0 0, .slice none 0 0, .int .i64 0] 32) := ⟨_, rfl⟩
  have A1 : Below w.heap.size w w1 := by rw [hw1]; go_grown
  have s1 : w1.heap.size = w.heap.size + 3 := by rw [hw1]; simp
  have Z0 : Four w1 w.heap.size (.slice pL nL cL) (.slice pF nF cF) (.slice pU nU cU) n := by rw [hw1]; exact (four_new w _ _ _ _).stays (by go_grown)
  have Z1 : w1.heap[w.heap.size + 1]? = some (.cells #[.int .i64 1, .int .i64 a] 40 (0, 0)) := by
    have := heap_alloc_new (w.alloc (.cells #[.slice pL nL cL, .slice pF nF cF, .slice pU nU cU, .int .i64 n] 32)) (.cells #[.int .i64 1, .int .i64 a] 40)
    rw [show (w.alloc (.cells #[.slice pL nL cL, .slice pF nF cF, .slice pU nU cU, .int .i64 n] 32)).heap.size = w.heap.size + 1 by simp] at this
    rw [hw1, Below.heap_alloc _ _ _ (by simp)]
    exact this
  have Z2 : Four w1 (w.heap.size + 2) (.slice none 0 0) (.slice none 0 0) (.slice none 0 0) 0 := by
    have := four_new ((w.alloc (.cells #[.slice pL nL cL, .slice pF nF cF, .slice pU nU cU, .int .i64 n] 32)).alloc (.cells #[.int .i64 1, .int .i64 a] 40)) (.slice none 0 0) (.slice none 0 0) (.slice none 0 0) 0
    rw [show ((w.alloc (.cells #[.slice pL nL cL, .slice pF nF cF, .slice pU nU cU, .int .i64 n] 32)).alloc (.cells #[.int .i64 1, .int .i64 a] 40)).heap.size = w.heap.size + 2 by simp] at this
    rw [hw1]; exact this
  have HX := hid2 (x.below A1)
  have HR := hid2 (r.stays A1)
  have HE := hid2 (hE.below A1)
  have HA := hid2 A1
  have HW := hid2 hw1
  have HF := hid2 hfit
  have H0 := hid2 Z0
  have H1 := hid2 Z1
  have H2 := hid2 Z2
  have HS := hid2 s1
  have HB := hid2 hB
  obtain ⟨q0, c0, c1, c2, c3, c4⟩ := Z0.cells
  obtain ⟨k0, k1, k2⟩ := act_cells Z1
  clear x r hE A1 hw1 s1 Z0 Z1 Z2 hfit hB
  go_enter Tryd.func10, Tryd.ntmps10
  go_upto_region 1 with fail
  rw [← HW.out]
  clear HW
  go_wp2_with fail
  refine (rdrop_any HR.out HF.out (by have := HB.out; have := HS.out; omega) a).mono ?_
  rintro e w2 ⟨u, rfl, hu, hb⟩
  have HU := hid2 hu
  obtain ⟨pL', nL', cL', pF', nF', cF', pU', nU', cU', n', rfl⟩ := hu.form
  have X2 := hid2 (HX.out.below hb)
  have E2 := hid2 (HE.out.below hb)
  have G1 := hid2 (heap_stays H1.out hb)
  have G2 := hid2 (H2.out.stays hb)
  have B2 := hid2 (HA.out.trans (hb.mono HA.out.size))
  have S2 : Hid (w.heap.size + 3 ≤ w2.heap.size) := by have := HS.out; have := hb.size; show _ ≤ _; omega
  clear hu hb q0 c0 c1 c2 c3 c4 k0 k1 k2 HX HE H0 H1 H2 HR
  obtain ⟨k0, k1, k2⟩ := act_cells G1.out
  go_upto_region 8 with fail
  obtain ⟨w3, hw3⟩ : ∃ w3, w3 = w2.alloc (.cells #[.slice pL' nL' cL', .slice pF' nF' cF', .slice pU' nU' cU', .int .i64 n'] 32) := ⟨_, rfl⟩
  rw [← hw3]
  obtain ⟨q, hq⟩ : ∃ q, q = w2.heap.size := ⟨_, rfl⟩
  rw [← hq]
  have A3 : Below w2.heap.size w2 w3 := by rw [hw3]; go_grown
  have G3 : Hid (Four w3 q (.slice pL' nL' cL') (.slice pF' nF' cF') (.slice pU' nU' cU') n') := by show Four _ _ _ _ _ _; rw [hw3, hq]; exact four_new w2 _ _ _ _
  have X3 := hid2 (X2.out.below A3)
  have E3 := hid2 (E2.out.below A3)
  have U3 := hid2 (HU.out.stays A3)
  have K3 := hid2 (heap_stays G1.out A3)
  have R3 := hid2 (G2.out.stays A3)
  have B3 := hid2 (B2.out.trans (A3.mono B2.out.size))
  have hqS : w.heap.size + 3 ≤ q := by rw [hq]; exact S2.out
  have HQB : Hid (B ≤ q) := by have := HB.out; show _ ≤ _; omega
  have HB1 : Hid (B ≤ w.heap.size + 1) := by have := HB.out; show _ ≤ _; omega
  have HB2 : Hid (B ≤ w.heap.size + 2) := by have := HB.out; show _ ≤ _; omega
  clear hw3 hq A3 X2 E2 G1 G2 HU B2 S2 k0 k1 k2
  obtain ⟨k0, k1, k2⟩ := act_cells K3.out
  obtain ⟨d0, d1, d2, d3, d4, d5⟩ := G3.out.cells
  obtain ⟨code, hc⟩ : ∃ code, code = (dropP s a).2 := ⟨_, rfl⟩
  have HC : Hid ((dropP s a).2 = code) := hc.symm
  rw [← hc]
  have R5 : Hid (Four w3.drew (w.heap.size + 2) (.slice none 0 0) (.slice none 0 0) (.slice none 0 0) 0) := R3.out
  have U5 : Hid (RV w3.drew B _ (dropP s a).1) := U3.out.stays ((Below.refl _ _).drew)
  have E5 : Hid (ErrT w3.drew) := E3.out
  have X5 : Hid (Lx w3.drew B0 B g K n0 s M) := X3.out.below ((Below.refl _ _).drew)
  have M5 : Hid (Mid B0 B w w3.drew) := (Mid.of B3.out).then_ ((Below.refl _ _).drew)
  have S5 : Hid (Four w3.drew q (.slice pL' nL' cL') (.slice pF' nF' cF') (.slice pU' nU' cU') n' ∧ w3.drew.heap[w.heap.size + 1]? = some (.cells #[.int .i64 1, .int .i64 a] 40 (0, 0))) := ⟨G3.out, K3.out⟩
  clear hc X3 E3 U3 R3 B3 k0 k1 k2 d0 d1 d2 d3 d4 d5 G3 K3
  refine wp_region_held_drew (S := fun W => Four W q (.slice pL' nL' cL') (.slice pF' nF' cF') (.slice pU' nU' cU') n' ∧ W.heap[w.heap.size + 1]? = some (.cells #[.int .i64 1, .int .i64 a] 40 (0, 0))) (by kernel_rfl) (S5.out) (fun hS => ?_)
  change wpAnyH _ _ _ _ _ _ _ _ (World.drew _)
  refine wpAnyH_take (i := 0) (v := .agg #[.slice pL' nL' cL', .slice pF' nF' cF', .slice pU' nU' cU', .int .i64 n']) rfl (by kernel_rfl) (by kernel_rfl) (by kernel_rfl) (fun _ _ _ h => h) (Or.inl ⟨by kernel_rfl, ?_⟩) hS ?_
  · intro w hw
    obtain ⟨l0, e0, e1, e2, e3, e4⟩ := Four.cells hw.1
    clear hw
    go_simp
  change wpAnyH _ _ _ _ _ _ _ (Act.put _ (some 55) _) _
  simp only [Act.put, List.setIfInBounds_toArray, List.set_cons_succ, List.set_cons_zero]
  refine wpAnyH_take (i := 1) (v := .pointer (some ⟨g, 0, none⟩)) rfl (by kernel_rfl) (by kernel_rfl) (by kernel_rfl) (fun _ _ _ h => h) (Or.inl ⟨by kernel_rfl, ?_⟩) hS ?_
  · intro w hw; clear hw; go_simp
  change wpAnyH _ _ _ _ _ _ _ (Act.put _ (some 56) _) _
  simp only [Act.put, List.setIfInBounds_toArray, List.set_cons_succ, List.set_cons_zero]
  refine wpAnyH_take (i := 2) (v := .pointer (some ⟨w.heap.size + 1, 1, none⟩)) rfl (by kernel_rfl) (by kernel_rfl) (by kernel_rfl) (fun _ _ _ h => h) (Or.inl ⟨by kernel_rfl, ?_⟩) hS ?_
  · intro w hw; clear hw; go_simp
  change wpAnyH _ _ _ _ _ _ _ (Act.put _ (some 57) _) _
  simp only [Act.put, List.setIfInBounds_toArray, List.set_cons_succ, List.set_cons_zero]
  refine wpAnyH_take (i := 3) (v := .int .i64 a) rfl (by kernel_rfl) (by kernel_rfl) (by kernel_rfl) (fun _ _ _ h => h) (Or.inl ⟨by kernel_rfl, ?_⟩) hS ?_
  · intro w hw
    obtain ⟨l0, e0, e1⟩ := act_cells hw.2
    clear hw
    go_simp
  change wpAnyH _ _ _ _ _ _ _ (Act.put _ (some 58) _) _
  simp only [Act.put, List.setIfInBounds_toArray, List.set_cons_succ, List.set_cons_zero]
  refine wpAnyH_take (i := 6) (v := .int .i64 code) rfl (by kernel_rfl) (by kernel_rfl) (by kernel_rfl) (fun _ _ _ h => h) (Or.inl ⟨by kernel_rfl, ?_⟩) hS ?_
  · intro w hw; clear hw; go_simp
  change wpAnyH _ _ _ _ _ _ _ (Act.put _ (some 61) _) _
  simp only [Act.put, List.setIfInBounds_toArray, List.set_cons_succ, List.set_cons_zero]
  refine wpAnyH_ready (rs := [4]) (by kernel_rfl) (by simp) ?_
  refine AllReadyH.cons rfl (fun K hK => ?_) AllReadyH.nil
  go_simp
  go_wp2_with fail
  refine (drop_lx X5.out a).mono ?_
  rintro e w6 ⟨v6, rfl, hf6, hx6, hm6⟩
  have R6 := hid2 (Four.mid hm6 R5.out HB2.out)
  have U6 := hid2 (U5.out.mid hm6)
  have E6 := hid2 (E5.out.mid hm6 h0)
  have X6 := hid2 hx6
  have M6 := hid2 (M5.out.trans hm6)
  have F6 := hid2 hf6
  refine hK.out _ _ (⟨Four.mid hm6 hS.1 HQB.out, hm6.cells hS.2 HB1.out⟩) (fun hS => ?_)
  clear hK K
  skip
  clear hf6 hx6 hm6 R5 U5 E5 X5 M5
  refine wpAnyH_ready (rs := [5]) (by kernel_rfl) (by simp) ?_
  refine AllReadyH.cons rfl (fun K hK => ?_) AllReadyH.nil
  go_simp
  go_wp2_with fail
  refine (of_code E6.out (by rw [HC.out] at F6; exact F6.out.fault)).mono ?_
  rintro e w7 ⟨rfl, hb7⟩
  have R7 := hid2 (R6.out.stays hb7)
  have U7 := hid2 (U6.out.stays hb7)
  have X7 := hid2 (X6.out.below hb7)
  have M7 := hid2 (M6.out.then_ hb7)
  refine hK.out _ _ (⟨Four.stays hS.1 hb7, heap_stays hS.2 hb7⟩) (fun hS => ?_)
  clear hK K
  skip
  clear hb7 R6 U6 X6 M6 F6 E6
  refine wpAnyH_take (i := 7) (v := .bool true) rfl (by kernel_rfl) (by kernel_rfl) (by kernel_rfl) (fun _ _ _ h => h) (Or.inl ⟨by kernel_rfl, ?_⟩) hS ?_
  · intro w hw; clear hw; go_simp
  change wpAnyH _ _ _ _ _ _ _ (Act.put _ (some 62) _) _
  simp only [Act.put, List.setIfInBounds_toArray, List.set_cons_succ, List.set_cons_zero]
  refine wpAnyH_ready (rs := [8]) (by kernel_rfl) (by simp) ?_
  refine AllReadyH.cons rfl (fun K hK => ?_) AllReadyH.nil
  refine step_st32 rfl (.tmp 6) (.tmp 55) rfl (w.heap.size + 2) rfl _ _ _ _ _ R7.out rfl rfl ⟨rfl, rfl, rfl, rfl⟩ ?_
  intro w8 hz8 hg8
  refine hK.out _ _ ⟨Four.grown hS.1 hg8 (by simp; omega), by rw [hg8.block _ (lt_of_block hS.2) (by simp)]; exact hS.2⟩ (fun hS => ?_)
  clear hK K
  refine wpAnyH_take (i := 9) (v := .bool true) rfl (by kernel_rfl) (by kernel_rfl) (by kernel_rfl) (fun _ _ _ h => h) (Or.inl ⟨by kernel_rfl, ?_⟩) hS ?_
  · intro w hw; clear hw; go_simp
  change wpAnyH _ _ _ _ _ _ _ (Act.put _ (some 7) _) _
  simp only [Act.put, List.setIfInBounds_toArray]
  refine wpAnyH_done (by kernel_rfl) ?_ _
  go_wp2_with fail
  have t8 : Tag w7 (w.heap.size + 2) 32 := R7.out.tag
  have o8 : Below w7.heap.size w7 w8 ∨ True := .inr trivial
  have x8 := X7.out.put hg8 HB2.out
  have m8 := M7.out.put hg8 (by omega)
  refine bodyPost_ret (results32 Tryd.results10 _ _ (w.heap.size + 2) rfl _ _ _ _ 32 (0, 0) hz8 (.bool true) rfl) rfl ⟨_, rfl, x8.more, U7.out.other hg8 t8 (by decide) (by decide), m8⟩

set_option maxHeartbeats 4000000 in
set_option maxRecDepth 10000 in
theorem do_touch {w : World} {B0 B g K n0 : Nat} {v : Value} {s : Lst} {M : Nat} (x : Lx w B0 B g K n0 s M) (hM : M ≤ 900) (r : RV w B v s) (hE : ErrT w) (h0 : 0 < B0) (hB : B ≤ w.heap.size) (a : Int) :
    Calls Tryd.prog 10 #[.pointer (some ⟨g, 0, none⟩), v, .agg #[.int .i64 2, .int .i64 a]] w fun e w' => ∃ u, e = .returned (.tuple #[u, .bool true]) ∧ Lx w' B0 B g K n0 (touchP s a).1 (M + 1) ∧ RV w' B u (touchP s a).1 ∧ Mid B0 B w w' := by
  have hfit := x.fit
  obtain ⟨pL, nL, cL, pF, nF, cF, pU, nU, cU, n, rfl⟩ := r.form
  obtain ⟨w1, hw1⟩ : ∃ w1, w1 = ((w.alloc (.cells #[.slice pL nL cL, .slice pF nF cF, .slice pU nU cU, .int .i64 n] 32)).alloc (.cells #[.int .i64 2, .int .i64 a] 40)).alloc (.cells #[.slice none 0 0, .slice none 0 0, .slice none 0 0, .int .i64 0] 32) := ⟨_, rfl⟩
  have A1 : Below w.heap.size w w1 := by rw [hw1]; go_grown
  have s1 : w1.heap.size = w.heap.size + 3 := by rw [hw1]; simp
  have Z0 : Four w1 w.heap.size (.slice pL nL cL) (.slice pF nF cF) (.slice pU nU cU) n := by rw [hw1]; exact (four_new w _ _ _ _).stays (by go_grown)
  have Z1 : w1.heap[w.heap.size + 1]? = some (.cells #[.int .i64 2, .int .i64 a] 40 (0, 0)) := by
    have := heap_alloc_new (w.alloc (.cells #[.slice pL nL cL, .slice pF nF cF, .slice pU nU cU, .int .i64 n] 32)) (.cells #[.int .i64 2, .int .i64 a] 40)
    rw [show (w.alloc (.cells #[.slice pL nL cL, .slice pF nF cF, .slice pU nU cU, .int .i64 n] 32)).heap.size = w.heap.size + 1 by simp] at this
    rw [hw1, Below.heap_alloc _ _ _ (by simp)]
    exact this
  have Z2 : Four w1 (w.heap.size + 2) (.slice none 0 0) (.slice none 0 0) (.slice none 0 0) 0 := by
    have := four_new ((w.alloc (.cells #[.slice pL nL cL, .slice pF nF cF, .slice pU nU cU, .int .i64 n] 32)).alloc (.cells #[.int .i64 2, .int .i64 a] 40)) (.slice none 0 0) (.slice none 0 0) (.slice none 0 0) 0
    rw [show ((w.alloc (.cells #[.slice pL nL cL, .slice pF nF cF, .slice pU nU cU, .int .i64 n] 32)).alloc (.cells #[.int .i64 2, .int .i64 a] 40)).heap.size = w.heap.size + 2 by simp] at this
    rw [hw1]; exact this
  have HX := hid2 (x.below A1)
  have HR := hid2 (r.stays A1)
  have HE := hid2 (hE.below A1)
  have HA := hid2 A1
  have HW := hid2 hw1
  have HF := hid2 hfit
  have H0 := hid2 Z0
  have H1 := hid2 Z1
  have H2 := hid2 Z2
  have HS := hid2 s1
  have HB := hid2 hB
  obtain ⟨q0, c0, c1, c2, c3, c4⟩ := Z0.cells
  obtain ⟨k0, k1, k2⟩ := act_cells Z1
  clear x r hE A1 hw1 s1 Z0 Z1 Z2 hfit hB
  go_enter Tryd.func10, Tryd.ntmps10
  go_upto_region 1 with fail
  rw [← HW.out]
  clear HW
  go_wp2_with fail
  refine (rtouch_any HR.out HF.out (by have := HB.out; have := HS.out; omega) a).mono ?_
  rintro e w2 ⟨u, rfl, hu, hb⟩
  have HU := hid2 hu
  obtain ⟨pL', nL', cL', pF', nF', cF', pU', nU', cU', n', rfl⟩ := hu.form
  have X2 := hid2 (HX.out.below hb)
  have E2 := hid2 (HE.out.below hb)
  have G1 := hid2 (heap_stays H1.out hb)
  have G2 := hid2 (H2.out.stays hb)
  have B2 := hid2 (HA.out.trans (hb.mono HA.out.size))
  have S2 : Hid (w.heap.size + 3 ≤ w2.heap.size) := by have := HS.out; have := hb.size; show _ ≤ _; omega
  clear hu hb q0 c0 c1 c2 c3 c4 k0 k1 k2 HX HE H0 H1 H2 HR
  obtain ⟨k0, k1, k2⟩ := act_cells G1.out
  go_upto_region 11 with fail
  obtain ⟨w3, hw3⟩ : ∃ w3, w3 = w2.alloc (.cells #[.slice pL' nL' cL', .slice pF' nF' cF', .slice pU' nU' cU', .int .i64 n'] 32) := ⟨_, rfl⟩
  rw [← hw3]
  obtain ⟨q, hq⟩ : ∃ q, q = w2.heap.size := ⟨_, rfl⟩
  rw [← hq]
  have A3 : Below w2.heap.size w2 w3 := by rw [hw3]; go_grown
  have G3 : Hid (Four w3 q (.slice pL' nL' cL') (.slice pF' nF' cF') (.slice pU' nU' cU') n') := by show Four _ _ _ _ _ _; rw [hw3, hq]; exact four_new w2 _ _ _ _
  have X3 := hid2 (X2.out.below A3)
  have E3 := hid2 (E2.out.below A3)
  have U3 := hid2 (HU.out.stays A3)
  have K3 := hid2 (heap_stays G1.out A3)
  have R3 := hid2 (G2.out.stays A3)
  have B3 := hid2 (B2.out.trans (A3.mono B2.out.size))
  have hqS : w.heap.size + 3 ≤ q := by rw [hq]; exact S2.out
  have HQB : Hid (B ≤ q) := by have := HB.out; show _ ≤ _; omega
  have HB1 : Hid (B ≤ w.heap.size + 1) := by have := HB.out; show _ ≤ _; omega
  have HB2 : Hid (B ≤ w.heap.size + 2) := by have := HB.out; show _ ≤ _; omega
  clear hw3 hq A3 X2 E2 G1 G2 HU B2 S2 k0 k1 k2
  obtain ⟨k0, k1, k2⟩ := act_cells K3.out
  obtain ⟨d0, d1, d2, d3, d4, d5⟩ := G3.out.cells
  obtain ⟨code, hc⟩ : ∃ code, code = (touchP s a).2 := ⟨_, rfl⟩
  have HC : Hid ((touchP s a).2 = code) := hc.symm
  rw [← hc]
  have R5 : Hid (Four w3.drew (w.heap.size + 2) (.slice none 0 0) (.slice none 0 0) (.slice none 0 0) 0) := R3.out
  have U5 : Hid (RV w3.drew B _ (touchP s a).1) := U3.out.stays ((Below.refl _ _).drew)
  have E5 : Hid (ErrT w3.drew) := E3.out
  have X5 : Hid (Lx w3.drew B0 B g K n0 s M) := X3.out.below ((Below.refl _ _).drew)
  have M5 : Hid (Mid B0 B w w3.drew) := (Mid.of B3.out).then_ ((Below.refl _ _).drew)
  have S5 : Hid (Four w3.drew q (.slice pL' nL' cL') (.slice pF' nF' cF') (.slice pU' nU' cU') n' ∧ w3.drew.heap[w.heap.size + 1]? = some (.cells #[.int .i64 2, .int .i64 a] 40 (0, 0))) := ⟨G3.out, K3.out⟩
  clear hc X3 E3 U3 R3 B3 k0 k1 k2 d0 d1 d2 d3 d4 d5 G3 K3
  refine wp_region_held_drew (S := fun W => Four W q (.slice pL' nL' cL') (.slice pF' nF' cF') (.slice pU' nU' cU') n' ∧ W.heap[w.heap.size + 1]? = some (.cells #[.int .i64 2, .int .i64 a] 40 (0, 0))) (by kernel_rfl) (S5.out) (fun hS => ?_)
  change wpAnyH _ _ _ _ _ _ _ _ (World.drew _)
  refine wpAnyH_take (i := 0) (v := .agg #[.slice pL' nL' cL', .slice pF' nF' cF', .slice pU' nU' cU', .int .i64 n']) rfl (by kernel_rfl) (by kernel_rfl) (by kernel_rfl) (fun _ _ _ h => h) (Or.inl ⟨by kernel_rfl, ?_⟩) hS ?_
  · intro w hw
    obtain ⟨l0, e0, e1, e2, e3, e4⟩ := Four.cells hw.1
    clear hw
    go_simp
  change wpAnyH _ _ _ _ _ _ _ (Act.put _ (some 72) _) _
  simp only [Act.put, List.setIfInBounds_toArray, List.set_cons_succ, List.set_cons_zero]
  refine wpAnyH_take (i := 1) (v := .pointer (some ⟨g, 0, none⟩)) rfl (by kernel_rfl) (by kernel_rfl) (by kernel_rfl) (fun _ _ _ h => h) (Or.inl ⟨by kernel_rfl, ?_⟩) hS ?_
  · intro w hw; clear hw; go_simp
  change wpAnyH _ _ _ _ _ _ _ (Act.put _ (some 73) _) _
  simp only [Act.put, List.setIfInBounds_toArray, List.set_cons_succ, List.set_cons_zero]
  refine wpAnyH_take (i := 2) (v := .pointer (some ⟨w.heap.size + 1, 1, none⟩)) rfl (by kernel_rfl) (by kernel_rfl) (by kernel_rfl) (fun _ _ _ h => h) (Or.inl ⟨by kernel_rfl, ?_⟩) hS ?_
  · intro w hw; clear hw; go_simp
  change wpAnyH _ _ _ _ _ _ _ (Act.put _ (some 74) _) _
  simp only [Act.put, List.setIfInBounds_toArray, List.set_cons_succ, List.set_cons_zero]
  refine wpAnyH_take (i := 3) (v := .int .i64 a) rfl (by kernel_rfl) (by kernel_rfl) (by kernel_rfl) (fun _ _ _ h => h) (Or.inl ⟨by kernel_rfl, ?_⟩) hS ?_
  · intro w hw
    obtain ⟨l0, e0, e1⟩ := act_cells hw.2
    clear hw
    go_simp
  change wpAnyH _ _ _ _ _ _ _ (Act.put _ (some 75) _) _
  simp only [Act.put, List.setIfInBounds_toArray, List.set_cons_succ, List.set_cons_zero]
  refine wpAnyH_take (i := 6) (v := .int .i64 code) rfl (by kernel_rfl) (by kernel_rfl) (by kernel_rfl) (fun _ _ _ h => h) (Or.inl ⟨by kernel_rfl, ?_⟩) hS ?_
  · intro w hw; clear hw; go_simp
  change wpAnyH _ _ _ _ _ _ _ (Act.put _ (some 78) _) _
  simp only [Act.put, List.setIfInBounds_toArray, List.set_cons_succ, List.set_cons_zero]
  refine wpAnyH_ready (rs := [4]) (by kernel_rfl) (by simp) ?_
  refine AllReadyH.cons rfl (fun K hK => ?_) AllReadyH.nil
  go_simp
  go_wp2_with fail
  refine (touch_lx X5.out hM a).mono ?_
  rintro e w6 ⟨v6, rfl, hf6, hx6, hm6⟩
  have R6 := hid2 (Four.mid hm6 R5.out HB2.out)
  have U6 := hid2 (U5.out.mid hm6)
  have E6 := hid2 (E5.out.mid hm6 h0)
  have X6 := hid2 hx6
  have M6 := hid2 (M5.out.trans hm6)
  have F6 := hid2 hf6
  refine hK.out _ _ (⟨Four.mid hm6 hS.1 HQB.out, hm6.cells hS.2 HB1.out⟩) (fun hS => ?_)
  clear hK K
  skip
  clear hf6 hx6 hm6 R5 U5 E5 X5 M5
  refine wpAnyH_ready (rs := [5]) (by kernel_rfl) (by simp) ?_
  refine AllReadyH.cons rfl (fun K hK => ?_) AllReadyH.nil
  go_simp
  go_wp2_with fail
  refine (of_code E6.out (by rw [HC.out] at F6; exact F6.out.fault)).mono ?_
  rintro e w7 ⟨rfl, hb7⟩
  have R7 := hid2 (R6.out.stays hb7)
  have U7 := hid2 (U6.out.stays hb7)
  have X7 := hid2 (X6.out.below hb7)
  have M7 := hid2 (M6.out.then_ hb7)
  refine hK.out _ _ (⟨Four.stays hS.1 hb7, heap_stays hS.2 hb7⟩) (fun hS => ?_)
  clear hK K
  skip
  clear hb7 R6 U6 X6 M6 F6 E6
  refine wpAnyH_take (i := 7) (v := .bool true) rfl (by kernel_rfl) (by kernel_rfl) (by kernel_rfl) (fun _ _ _ h => h) (Or.inl ⟨by kernel_rfl, ?_⟩) hS ?_
  · intro w hw; clear hw; go_simp
  change wpAnyH _ _ _ _ _ _ _ (Act.put _ (some 79) _) _
  simp only [Act.put, List.setIfInBounds_toArray, List.set_cons_succ, List.set_cons_zero]
  refine wpAnyH_ready (rs := [8]) (by kernel_rfl) (by simp) ?_
  refine AllReadyH.cons rfl (fun K hK => ?_) AllReadyH.nil
  refine step_st32 rfl (.tmp 6) (.tmp 72) rfl (w.heap.size + 2) rfl _ _ _ _ _ R7.out rfl rfl ⟨rfl, rfl, rfl, rfl⟩ ?_
  intro w8 hz8 hg8
  refine hK.out _ _ ⟨Four.grown hS.1 hg8 (by simp; omega), by rw [hg8.block _ (lt_of_block hS.2) (by simp)]; exact hS.2⟩ (fun hS => ?_)
  clear hK K
  refine wpAnyH_take (i := 9) (v := .bool true) rfl (by kernel_rfl) (by kernel_rfl) (by kernel_rfl) (fun _ _ _ h => h) (Or.inl ⟨by kernel_rfl, ?_⟩) hS ?_
  · intro w hw; clear hw; go_simp
  change wpAnyH _ _ _ _ _ _ _ (Act.put _ (some 7) _) _
  simp only [Act.put, List.setIfInBounds_toArray]
  refine wpAnyH_done (by kernel_rfl) ?_ _
  go_wp2_with fail
  have t8 : Tag w7 (w.heap.size + 2) 32 := R7.out.tag
  have o8 : Below w7.heap.size w7 w8 ∨ True := .inr trivial
  have x8 := X7.out.put hg8 HB2.out
  have m8 := M7.out.put hg8 (by omega)
  refine bodyPost_ret (results32 Tryd.results10 _ _ (w.heap.size + 2) rfl _ _ _ _ 32 (0, 0) hz8 (.bool true) rfl) rfl ⟨_, rfl, x8, U7.out.other hg8 t8 (by decide) (by decide), m8⟩

set_option maxHeartbeats 4000000 in
set_option maxRecDepth 10000 in
theorem do_add {w : World} {B0 B g K n0 : Nat} {v : Value} {s : Lst} {M : Nat} (x : Lx w B0 B g K n0 s M) (hM : M ≤ 900) (r : RV w B v s) (hE : ErrT w) (h0 : 0 < B0) (hB : B ≤ w.heap.size) (a : Int) :
    Calls Tryd.prog 10 #[.pointer (some ⟨g, 0, none⟩), v, .agg #[.int .i64 0, .int .i64 a]] w fun e w' => ∃ u, e = .returned (.tuple #[u, .bool true]) ∧ Lx w' B0 B g K n0 (addP s a).1 (M + 1) ∧ RV w' B u (addP s a).1 ∧ Mid B0 B w w' := by
  have hfit := x.fit
  obtain ⟨pL, nL, cL, pF, nF, cF, pU, nU, cU, n, rfl⟩ := r.form
  obtain ⟨w1, hw1⟩ : ∃ w1, w1 = ((w.alloc (.cells #[.slice pL nL cL, .slice pF nF cF, .slice pU nU cU, .int .i64 n] 32)).alloc (.cells #[.int .i64 0, .int .i64 a] 40)).alloc (.cells #[.slice none 0 0, .slice none 0 0, .slice none 0 0, .int .i64 0] 32) := ⟨_, rfl⟩
  have A1 : Below w.heap.size w w1 := by rw [hw1]; go_grown
  have s1 : w1.heap.size = w.heap.size + 3 := by rw [hw1]; simp
  have Z0 : Four w1 w.heap.size (.slice pL nL cL) (.slice pF nF cF) (.slice pU nU cU) n := by rw [hw1]; exact (four_new w _ _ _ _).stays (by go_grown)
  have Z1 : w1.heap[w.heap.size + 1]? = some (.cells #[.int .i64 0, .int .i64 a] 40 (0, 0)) := by
    have := heap_alloc_new (w.alloc (.cells #[.slice pL nL cL, .slice pF nF cF, .slice pU nU cU, .int .i64 n] 32)) (.cells #[.int .i64 0, .int .i64 a] 40)
    rw [show (w.alloc (.cells #[.slice pL nL cL, .slice pF nF cF, .slice pU nU cU, .int .i64 n] 32)).heap.size = w.heap.size + 1 by simp] at this
    rw [hw1, Below.heap_alloc _ _ _ (by simp)]
    exact this
  have Z2 : Four w1 (w.heap.size + 2) (.slice none 0 0) (.slice none 0 0) (.slice none 0 0) 0 := by
    have := four_new ((w.alloc (.cells #[.slice pL nL cL, .slice pF nF cF, .slice pU nU cU, .int .i64 n] 32)).alloc (.cells #[.int .i64 0, .int .i64 a] 40)) (.slice none 0 0) (.slice none 0 0) (.slice none 0 0) 0
    rw [show ((w.alloc (.cells #[.slice pL nL cL, .slice pF nF cF, .slice pU nU cU, .int .i64 n] 32)).alloc (.cells #[.int .i64 0, .int .i64 a] 40)).heap.size = w.heap.size + 2 by simp] at this
    rw [hw1]; exact this
  have HX := hid2 (x.below A1)
  have HR := hid2 (r.stays A1)
  have HE := hid2 (hE.below A1)
  have HA := hid2 A1
  have HW := hid2 hw1
  have HF := hid2 hfit
  have H0 := hid2 Z0
  have H1 := hid2 Z1
  have H2 := hid2 Z2
  have HS := hid2 s1
  have HB := hid2 hB
  obtain ⟨q0, c0, c1, c2, c3, c4⟩ := Z0.cells
  obtain ⟨k0, k1, k2⟩ := act_cells Z1
  clear x r hE A1 hw1 s1 Z0 Z1 Z2 hfit hB
  go_enter Tryd.func10, Tryd.ntmps10
  go_upto_region 1 with fail
  rw [← HW.out]
  clear HW
  go_wp2_with fail
  obtain ⟨nd, hnd⟩ : ∃ nd, nd = (addP s a).2.1 := ⟨_, rfl⟩
  obtain ⟨code, hc⟩ : ∃ code, code = (addP s a).2.2 := ⟨_, rfl⟩
  have KR := radd_any HR.out HF.out (by have := HB.out; have := HS.out; omega) a
  have KX := fun W (y : Lx W B0 B g K n0 s M) => add_lx y hM a
  rw [← hnd, ← hc] at KR
  simp only [← hnd, ← hc] at KX
  have HKX := hid2 KX
  clear hnd hc KX
  refine (show Calls _ _ _ _ _ from KR).mono ?_
  clear KR
  rintro e w2 ⟨u, rfl, hu, hb⟩
  have HU := hid2 hu
  obtain ⟨pL', nL', cL', pF', nF', cF', pU', nU', cU', n', rfl⟩ := hu.form
  have X2 := hid2 (HX.out.below hb)
  have E2 := hid2 (HE.out.below hb)
  have G1 := hid2 (heap_stays H1.out hb)
  have G2 := hid2 (H2.out.stays hb)
  have B2 := hid2 (HA.out.trans (hb.mono HA.out.size))
  have S2 : Hid (w.heap.size + 3 ≤ w2.heap.size) := by have := HS.out; have := hb.size; show _ ≤ _; omega
  clear hu hb q0 c0 c1 c2 c3 c4 k0 k1 k2 HX HE H0 H1 H2 HR
  obtain ⟨k0, k1, k2⟩ := act_cells G1.out
  go_upto_region 4 with fail
  obtain ⟨w3, hw3⟩ : ∃ w3, w3 = w2.alloc (.cells #[.slice pL' nL' cL', .slice pF' nF' cF', .slice pU' nU' cU', .int .i64 n'] 32) := ⟨_, rfl⟩
  rw [← hw3]
  obtain ⟨q, hq⟩ : ∃ q, q = w2.heap.size := ⟨_, rfl⟩
  rw [← hq]
  have A3 : Below w2.heap.size w2 w3 := by rw [hw3]; go_grown
  have G3 : Hid (Four w3 q (.slice pL' nL' cL') (.slice pF' nF' cF') (.slice pU' nU' cU') n') := by show Four _ _ _ _ _ _; rw [hw3, hq]; exact four_new w2 _ _ _ _
  have X3 := hid2 (X2.out.below A3)
  have E3 := hid2 (E2.out.below A3)
  have U3 := hid2 (HU.out.stays A3)
  have K3 := hid2 (heap_stays G1.out A3)
  have R3 := hid2 (G2.out.stays A3)
  have B3 := hid2 (B2.out.trans (A3.mono B2.out.size))
  have hqS : w.heap.size + 3 ≤ q := by rw [hq]; exact S2.out
  have HQB : Hid (B ≤ q) := by have := HB.out; show _ ≤ _; omega
  have HB1 : Hid (B ≤ w.heap.size + 1) := by have := HB.out; show _ ≤ _; omega
  have HB2 : Hid (B ≤ w.heap.size + 2) := by have := HB.out; show _ ≤ _; omega
  clear hw3 hq A3 X2 E2 G1 G2 HU B2 S2 k0 k1 k2
  obtain ⟨k0, k1, k2⟩ := act_cells K3.out
  go_wp2_with fail
  refine (show Calls _ _ _ _ _ from HKX.out _ X3.out).mono ?_
  rintro e w4 ⟨v6, rfl, hf6, hx6, hm6⟩
  have R6 : Hid (Four w4.drew (w.heap.size + 2) (.slice none 0 0) (.slice none 0 0) (.slice none 0 0) 0) := R3.out.mid hm6 HB2.out
  have U6 : Hid (RV w4.drew B _ (addP s a).1) := (U3.out.mid hm6).stays ((Below.refl _ _).drew)
  have E6 : Hid (ErrT w4.drew) := (show ErrT w4 from E3.out.mid hm6 h0)
  have X6 : Hid (Lx w4.drew B0 B g K n0 (addP s a).1 (M + 1)) := hx6.below ((Below.refl _ _).drew)
  have F6 : Hid (Fault1 w4.drew v6 code) := hf6.below ((Below.refl _ _).drew)
  have M6 : Hid (Mid B0 B w w4.drew) := ((Mid.of B3.out).trans hm6).then_ ((Below.refl _ _).drew)
  have S5 : Hid (Four w4.drew q (.slice pL' nL' cL') (.slice pF' nF' cF') (.slice pU' nU' cU') n' ∧ w4.drew.heap[w.heap.size + 1]? = some (.cells #[.int .i64 0, .int .i64 a] 40 (0, 0))) := ⟨G3.out.mid hm6 HQB.out, hm6.cells K3.out HB1.out⟩
  clear X3 E3 U3 R3 B3 G3 K3 hf6 hx6 hm6 k0 k1 k2 HKX
  go_upto_region 5 with fail
  refine wp_region_held_drew (S := fun W => Four W q (.slice pL' nL' cL') (.slice pF' nF' cF') (.slice pU' nU' cU') n' ∧ W.heap[w.heap.size + 1]? = some (.cells #[.int .i64 0, .int .i64 a] 40 (0, 0))) (by kernel_rfl) (S5.out) (fun hS => ?_)
  change wpAnyH _ _ _ _ _ _ _ _ (World.drew _)
  refine wpAnyH_take (i := 0) (v := .agg #[.slice pL' nL' cL', .slice pF' nF' cF', .slice pU' nU' cU', .int .i64 n']) rfl (by kernel_rfl) (by kernel_rfl) (by kernel_rfl) (fun _ _ _ h => h) (Or.inl ⟨by kernel_rfl, ?_⟩) hS ?_
  · intro w hw
    obtain ⟨l0, e0, e1, e2, e3, e4⟩ := Four.cells hw.1
    clear hw
    go_simp
  change wpAnyH _ _ _ _ _ _ _ (Act.put _ (some 36) _) _
  simp only [Act.put, List.setIfInBounds_toArray, List.set_cons_succ, List.set_cons_zero]
  refine wpAnyH_take (i := 1) (v := .int .i64 nd) rfl (by kernel_rfl) (by kernel_rfl) (by kernel_rfl) (fun _ _ _ h => h) (Or.inl ⟨by kernel_rfl, ?_⟩) hS ?_
  · intro w hw; clear hw; go_simp
  change wpAnyH _ _ _ _ _ _ _ (Act.put _ (some 37) _) _
  simp only [Act.put, List.setIfInBounds_toArray, List.set_cons_succ, List.set_cons_zero]
  refine wpAnyH_take (i := 2) (v := .int .i64 nd) rfl (by kernel_rfl) (by kernel_rfl) (by kernel_rfl) (fun _ _ _ h => h) (Or.inl ⟨by kernel_rfl, ?_⟩) hS ?_
  · intro w hw; clear hw; go_simp
  change wpAnyH _ _ _ _ _ _ _ (Act.put _ (some 38) _) _
  simp only [Act.put, List.setIfInBounds_toArray, List.set_cons_succ, List.set_cons_zero]
  refine wpAnyH_take (i := 3) (v := .bool true) rfl (by kernel_rfl) (by kernel_rfl) (by kernel_rfl) (fun _ _ _ h => h) (Or.inl ⟨by kernel_rfl, ?_⟩) hS ?_
  · intro w hw; clear hw; go_simp
  change wpAnyH _ _ _ _ _ _ _ (Act.put _ (some 39) _) _
  simp only [Act.put, List.setIfInBounds_toArray, List.set_cons_succ, List.set_cons_zero]
  refine wpAnyH_take (i := 4) (v := .bool true) rfl (by kernel_rfl) (by kernel_rfl) (by kernel_rfl) (fun _ _ _ h => h) (Or.inl ⟨by kernel_rfl, ?_⟩) hS ?_
  · intro w hw; clear hw; go_simp
  change wpAnyH _ _ _ _ _ _ _ (Act.put _ (some 40) _) _
  simp only [Act.put, List.setIfInBounds_toArray, List.set_cons_succ, List.set_cons_zero]
  refine wpAnyH_take (i := 5) (v := v6) rfl (by kernel_rfl) (by kernel_rfl) (by kernel_rfl) (fun _ _ _ h => h) (Or.inl ⟨by kernel_rfl, ?_⟩) hS ?_
  · intro w hw; clear hw; go_simp
  change wpAnyH _ _ _ _ _ _ _ (Act.put _ (some 41) _) _
  simp only [Act.put, List.setIfInBounds_toArray, List.set_cons_succ, List.set_cons_zero]
  refine wpAnyH_take (i := 7) (v := .int .i64 code) rfl (by kernel_rfl) (by kernel_rfl) (by kernel_rfl) (fun _ _ _ h => h) (Or.inl ⟨by kernel_rfl, ?_⟩) hS ?_
  · intro w hw; clear hw; go_simp
  change wpAnyH _ _ _ _ _ _ _ (Act.put _ (some 43) _) _
  simp only [Act.put, List.setIfInBounds_toArray, List.set_cons_succ, List.set_cons_zero]
  refine wpAnyH_ready (rs := [6]) (by kernel_rfl) (by simp) ?_
  refine AllReadyH.cons rfl (fun K hK => ?_) AllReadyH.nil
  go_simp
  go_wp2_with fail
  refine (of_code E6.out F6.out.fault).mono ?_
  rintro e w7 ⟨rfl, hb7⟩
  have R7 := hid2 (R6.out.stays hb7)
  have U7 := hid2 (U6.out.stays hb7)
  have X7 := hid2 (X6.out.below hb7)
  have M7 := hid2 (M6.out.then_ hb7)
  refine hK.out _ _ (⟨Four.stays hS.1 hb7, heap_stays hS.2 hb7⟩) (fun hS => ?_)
  clear hK K
  skip
  clear hb7 R6 U6 X6 M6 F6 E6
  refine wpAnyH_take (i := 8) (v := .bool true) rfl (by kernel_rfl) (by kernel_rfl) (by kernel_rfl) (fun _ _ _ h => h) (Or.inl ⟨by kernel_rfl, ?_⟩) hS ?_
  · intro w hw; clear hw; go_simp
  change wpAnyH _ _ _ _ _ _ _ (Act.put _ (some 44) _) _
  simp only [Act.put, List.setIfInBounds_toArray, List.set_cons_succ, List.set_cons_zero]
  refine wpAnyH_take (i := 9) (v := .bool true) rfl (by kernel_rfl) (by kernel_rfl) (by kernel_rfl) (fun _ _ _ h => h) (Or.inl ⟨by kernel_rfl, ?_⟩) hS ?_
  · intro w hw; clear hw; go_simp
  change wpAnyH _ _ _ _ _ _ _ (Act.put _ (some 45) _) _
  simp only [Act.put, List.setIfInBounds_toArray, List.set_cons_succ, List.set_cons_zero]
  refine wpAnyH_ready (rs := [10]) (by kernel_rfl) (by simp) ?_
  refine AllReadyH.cons rfl (fun K hK => ?_) AllReadyH.nil
  refine step_st32 rfl (.tmp 6) (.tmp 36) rfl (w.heap.size + 2) rfl _ _ _ _ _ R7.out rfl rfl ⟨rfl, rfl, rfl, rfl⟩ ?_
  intro w8 hz8 hg8
  refine hK.out _ _ ⟨Four.grown hS.1 hg8 (by simp; omega), by rw [hg8.block _ (lt_of_block hS.2) (by simp)]; exact hS.2⟩ (fun hS => ?_)
  clear hK K
  refine wpAnyH_take (i := 11) (v := .bool true) rfl (by kernel_rfl) (by kernel_rfl) (by kernel_rfl) (fun _ _ _ h => h) (Or.inl ⟨by kernel_rfl, ?_⟩) hS ?_
  · intro w hw; clear hw; go_simp
  change wpAnyH _ _ _ _ _ _ _ (Act.put _ (some 7) _) _
  simp only [Act.put, List.setIfInBounds_toArray]
  refine wpAnyH_done (by kernel_rfl) ?_ _
  go_wp2_with fail
  have t8 : Tag w7 (w.heap.size + 2) 32 := R7.out.tag
  have x8 := X7.out.put hg8 HB2.out
  have m8 := M7.out.put hg8 (by omega)
  refine bodyPost_ret (results32 Tryd.results10 _ _ (w.heap.size + 2) rfl _ _ _ _ 32 (0, 0) hz8 (.bool true) rfl) rfl ⟨_, rfl, x8, U7.out.other hg8 t8 (by decide) (by decide), m8⟩

set_option maxHeartbeats 4000000 in
theorem do_none {w : World} {B0 B g K n0 : Nat} {v : Value} {s : Lst} {M : Nat} (x : Lx w B0 B g K n0 s M) (r : RV w B v s) (hB : B ≤ w.heap.size) (kd a : Int) (k0 : kd ≠ 0) (k1 : kd ≠ 1) (k2 : kd ≠ 2) :
    Calls Tryd.prog 10 #[.pointer (some ⟨g, 0, none⟩), v, .agg #[.int .i64 kd, .int .i64 a]] w fun e w' => ∃ u, e = .returned (.tuple #[u, .bool true]) ∧ Lx w' B0 B g K n0 s (M + 1) ∧ RV w' B u s ∧ Mid B0 B w w' := by
  obtain ⟨pL, nL, cL, pF, nF, cF, pU, nU, cU, n, rfl⟩ := r.form
  obtain ⟨w1, hw1⟩ : ∃ w1, w1 = ((w.alloc (.cells #[.slice pL nL cL, .slice pF nF cF, .slice pU nU cU, .int .i64 n] 32)).alloc (.cells #[.int .i64 kd, .int .i64 a] 40)).alloc (.cells #[.slice none 0 0, .slice none 0 0, .slice none 0 0, .int .i64 0] 32) := ⟨_, rfl⟩
  have A1 : Below w.heap.size w w1 := by rw [hw1]; go_grown
  have s1 : w1.heap.size = w.heap.size + 3 := by rw [hw1]; simp
  have Z0 : Four w1 w.heap.size (.slice pL nL cL) (.slice pF nF cF) (.slice pU nU cU) n := by rw [hw1]; exact (four_new w _ _ _ _).stays (by go_grown)
  have Z1 : w1.heap[w.heap.size + 1]? = some (.cells #[.int .i64 kd, .int .i64 a] 40 (0, 0)) := by
    have := heap_alloc_new (w.alloc (.cells #[.slice pL nL cL, .slice pF nF cF, .slice pU nU cU, .int .i64 n] 32)) (.cells #[.int .i64 kd, .int .i64 a] 40)
    rw [show (w.alloc (.cells #[.slice pL nL cL, .slice pF nF cF, .slice pU nU cU, .int .i64 n] 32)).heap.size = w.heap.size + 1 by simp] at this
    rw [hw1, Below.heap_alloc _ _ _ (by simp)]
    exact this
  have Z2 : Four w1 (w.heap.size + 2) (.slice none 0 0) (.slice none 0 0) (.slice none 0 0) 0 := by
    have := four_new ((w.alloc (.cells #[.slice pL nL cL, .slice pF nF cF, .slice pU nU cU, .int .i64 n] 32)).alloc (.cells #[.int .i64 kd, .int .i64 a] 40)) (.slice none 0 0) (.slice none 0 0) (.slice none 0 0) 0
    rw [show ((w.alloc (.cells #[.slice pL nL cL, .slice pF nF cF, .slice pU nU cU, .int .i64 n] 32)).alloc (.cells #[.int .i64 kd, .int .i64 a] 40)).heap.size = w.heap.size + 2 by simp] at this
    rw [hw1]; exact this
  have HX := hid2 (x.below A1)
  have HR := hid2 (r.stays A1)
  have HA := hid2 A1
  have HW := hid2 hw1
  have H0 := hid2 Z0
  have H1 := hid2 Z1
  have H2 := hid2 Z2
  have HS := hid2 s1
  have HB := hid2 hB
  obtain ⟨q0, c0, c1, c2, c3, c4⟩ := Z0.cells
  obtain ⟨y0, y1, y2⟩ := act_cells Z1
  have e0 : (kd == 0) = false := by simpa using k0
  have e1 : (kd == 1) = false := by simpa using k1
  have e2 : (kd == 2) = false := by simpa using k2
  clear x r A1 hw1 s1 Z0 Z1 Z2 hB k0 k1 k2
  go_enter Tryd.func10, Tryd.ntmps10
  go_upto_region 1 with fail
  rw [← HW.out]
  clear HW
  go_wp2_with (refine st32 rfl (.tmp 6) (.tmp 80) rfl (w.heap.size + 2) rfl _ _ _ _ _ H2.out rfl rfl ⟨rfl, rfl, rfl, rfl⟩ ?_; intro w5 hz5 hg5)
  exact bodyPost_ret (results32 Tryd.results10 _ _ (w.heap.size + 2) rfl _ _ _ _ 32 (0, 0) hz5 (.bool true) rfl) rfl ⟨_, rfl, (HX.out.put hg5 (by have := HB.out; omega)).more, HR.out.other hg5 H2.out.tag (by decide) (by decide), (Mid.of HA.out).put hg5 (by omega)⟩

theorem do_any {w : World} {B0 B g K n0 : Nat} {v : Value} {s : Lst} {M : Nat} (x : Lx w B0 B g K n0 s M) (hM : M ≤ 900) (r : RV w B v s) (hE : ErrT w) (h0 : 0 < B0) (hB : B ≤ w.heap.size) (kd a : Int) :
    Calls Tryd.prog 10 #[.pointer (some ⟨g, 0, none⟩), v, .agg #[.int .i64 kd, .int .i64 a]] w fun e w' => ∃ u, e = .returned (.tuple #[u, .bool true]) ∧ Lx w' B0 B g K n0 (doP s kd a) (M + 1) ∧ RV w' B u (doP s kd a) ∧ Mid B0 B w w' := by
  unfold doP
  by_cases k0 : kd = 0
  · subst k0; rw [if_pos rfl]; exact do_add x hM r hE h0 hB a
  · by_cases k1 : kd = 1
    · subst k1; rw [if_neg k0, if_pos rfl]; exact do_drop x hM r hE h0 hB a
    · by_cases k2 : kd = 2
      · subst k2; rw [if_neg k0, if_neg k1, if_pos rfl]; exact do_touch x hM r hE h0 hB a
      · rw [if_neg k0, if_neg k1, if_neg k2]; exact do_none x r hB kd a k0 k1 k2
end Go.Proofs.YtibplphpbbajhaaDoor
