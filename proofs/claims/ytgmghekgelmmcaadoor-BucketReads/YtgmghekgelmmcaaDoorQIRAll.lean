/-
  All of the document; whether rows of entries are the same.
-/
import Derived.Test.YtgmghekgelmmcaaDoorQIAllE
namespace Go.Proofs.YtgmghekgelmmcaaDoor.Ite
open Go.RowKit

set_option maxHeartbeats 2000000 in
set_option maxRecDepth 10000 in
theorem rall_any {w : World} {v : Value} {xs : List Ent} (h : EsAt w v xs) (hf : ∀ x ∈ xs, Fine x) (hl : (allB xs).length ≤ 18000) :
    Calls Tryd.prog 22 #[v] w fun en w' => ∃ sv, en = .returned sv ∧ Bs w' sv (allB xs) ∧ Below w.heap.size w w' := by
  obtain ⟨p, cap, rfl, h2, h3, h5⟩ := h
  unfold maxLen at h3
  have HE := hid2 h5
  have HF := hid2 hf
  have HT := hid2 (allB_take_le xs)
  clear h5 hf
  go_enter Tryd.func22, Tryd.ntmps22
  go_wp2_with fail
  go_loopg [3, 4] xs.length (fun g out i wr => ∃ k, k ≤ xs.length ∧ g = xs.length - k ∧ i = .int .i64 k ∧ Bs wr out (allB (xs.take k)) ∧ Below w.heap.size w wr)
  case atStart => exact ⟨0, Nat.zero_le _, rfl, rfl, Bs.nil _, Below.refl _ _⟩
  case round =>
    obtain ⟨k, hk, hg, rfl, ho, hbr⟩ := hrel
    have HG := hid2 hg
    clear hg
    have ht := HT.out k
    by_cases hlt : k < xs.length
    · obtain ⟨x, hx⟩ : ∃ x, xs[k]? = some x := ⟨_, List.getElem?_eq_getElem hlt⟩
      obtain ⟨bb, off, q, c, rfl, hbb, a0, a1, a2, a3, a4, hbs⟩ := HE.out k _ hx
      have hki : (k : Int) < (xs.length : Int) := by omega
      have HX := hid2 hx
      have hfx := HF.out x (List.mem_of_getElem? hx)
      obtain ⟨f1, f2, f3, f4, f5⟩ := hfx
      clear hx
      have cc : ∀ o, wr.cell? ⟨bb, o, none⟩ = w.cell? ⟨bb, o, none⟩ := fun o => hbr.cell (p := ⟨bb, o, none⟩) hbb
      have a0 := (cc _).trans a0
      have a1 := (cc _).trans a1
      have a2 := (cc _).trans a2
      have a3 := (cc _).trans a3
      have a4 := (cc _).trans a4
      have hbb2 := Nat.lt_of_lt_of_le hbb hbr.size
      clear cc
      obtain ⟨bo, hso⟩ := ho
      obtain ⟨po, no, co, hfo⟩ := hso.some3
      subst hfo
      have HSO := hid2 hso
      clear hso
      go_wp2_with fail
      refine (rputE_any x.key x.ver x.asof x.ends f1 f2 f3 f4 f5 (by omega) HSO.out (hbs.stays hbr)).mono ?_
      rintro en w2 ⟨sv2, rfl, hown2, B2⟩
      clear a0 a1 a2 a3 a4
      go_wp2_with fail
      go_roundg (xs.length - (k + 1))
      case measure => rw [HG.out]; omega
      case rel =>
        refine ⟨k + 1, by omega, rfl, by go_num, ?_, hbr.trans (B2.mono hbr.size)⟩
        rw [allB_take HX.out, rowB_rowP]
        exact Bs.own hown2
    · have hkk : xs.length ≤ k := by omega
      have hki : ¬ ((k : Int) < (xs.length : Int)) := by omega
      go_wp2
      go_ret
      rw [List.take_of_length_le hkk] at ho
      exact ⟨_, rfl, ho, hbr⟩

/-- The five cells of an entry behind an address. -/
def At5 (w : World) (b o : Nat) (k : ByteArray) (v a e : Int) (sv : Value) : Prop :=
  w.cell? ⟨b, o, none⟩ = some (.string k) ∧ w.cell? ⟨b, o + 1, none⟩ = some (.int .i64 v) ∧ w.cell? ⟨b, o + 2, none⟩ = some (.int .i64 a) ∧ w.cell? ⟨b, o + 3, none⟩ = some (.int .i64 e) ∧ w.cell? ⟨b, o + 4, none⟩ = some sv
theorem At5.stays {w w' : World} {b o : Nat} {k : ByteArray} {v a e : Int} {sv : Value} (h : At5 w b o k v a e sv) (hb : Below w.heap.size w w') : At5 w' b o k v a e sv := by
  obtain ⟨h0, h1, h2, h3, h4⟩ := h
  have hlt : b < w.heap.size := World.block_lt_of_cell? w _ h0
  have cc : ∀ o, w'.cell? ⟨b, o, none⟩ = w.cell? ⟨b, o, none⟩ := fun o => hb.cell (p := ⟨b, o, none⟩) hlt
  exact ⟨(cc _).trans h0, (cc _).trans h1, (cc _).trans h2, (cc _).trans h3, (cc _).trans h4⟩

set_option maxHeartbeats 2000000 in
set_option maxRecDepth 10000 in
theorem sameall_eq {w : World} {v u : Value} {xs : List Ent} (h : EsAt w v xs) (g : EsAt w u xs) :
    Calls Tryd.prog 10 #[v, u] w fun en w' => en = .returned (.bool true) ∧ Below w.heap.size w w' := by
  obtain ⟨p, cap, rfl, h2, h3, h5⟩ := h
  obtain ⟨p', cap', rfl, g2, g3, g5⟩ := g
  unfold maxLen at h3 g3
  have HE := hid2 h5
  have GE := hid2 g5
  clear h5 g5
  go_enter Tryd.func10, Tryd.ntmps10
  go_wp2_with fail
  go_loopw [5] (fun i wr => ∃ k : Nat, k ≤ xs.length ∧ i = .int .i64 (k : Int) ∧ Below w.heap.size w wr) (fun i _ => xs.length - (intOf i).toNat)
  case atStart => exact ⟨0, Nat.zero_le _, rfl, Below.refl _ _⟩
  case round =>
    obtain ⟨k, hk, rfl, hbr⟩ := hrel
    by_cases hlt : k < xs.length
    · obtain ⟨x, hx⟩ : ∃ x, xs[k]? = some x := ⟨_, List.getElem?_eq_getElem hlt⟩
      obtain ⟨bb, off, q, c, rfl, hbb, a0, a1, a2, a3, a4, hbs⟩ := HE.out k _ hx
      obtain ⟨bb', off', q', c', rfl, hbb', b0, b1, b2, b3, b4, hbs'⟩ := GE.out k _ hx
      have hki : (k : Int) < (xs.length : Int) := by omega
      have hA : At5 wr bb (off + k * 5) x.key x.ver x.asof x.ends (.slice q x.val.length c) := by
        have cc : ∀ o, wr.cell? ⟨bb, o, none⟩ = w.cell? ⟨bb, o, none⟩ := fun o => hbr.cell (p := ⟨bb, o, none⟩) hbb
        exact ⟨(cc _).trans a0, (cc _).trans a1, (cc _).trans a2, (cc _).trans a3, (cc _).trans a4⟩
      have hB : At5 wr bb' (off' + k * 5) x.key x.ver x.asof x.ends (.slice q' x.val.length c') := by
        have cc : ∀ o, wr.cell? ⟨bb', o, none⟩ = w.cell? ⟨bb', o, none⟩ := fun o => hbr.cell (p := ⟨bb', o, none⟩) hbb'
        exact ⟨(cc _).trans b0, (cc _).trans b1, (cc _).trans b2, (cc _).trans b3, (cc _).trans b4⟩
      have hbb2 := Nat.lt_of_lt_of_le hbb hbr.size
      have hbb3 := Nat.lt_of_lt_of_le hbb' hbr.size
      have HA := hid2 hA
      have HB := hid2 hB
      have HV := hid2 (hbs.stays hbr)
      have HW := hid2 (hbs'.stays hbr)
      clear hx a0 a1 a2 a3 a4 b0 b1 b2 b3 b4 hA hB hbs hbs'
      go_wp2_with fail
      refine wp_region_held_drew (S := fun W => At5 W bb (off + k * 5) x.key x.ver x.asof x.ends (.slice q x.val.length c) ∧ At5 W bb' (off' + k * 5) x.key x.ver x.asof x.ends (.slice q' x.val.length c')) (by kernel_rfl) (⟨HA.out, HB.out⟩) (fun hS => ?_)
      change wpAnyH _ _ _ _ _ _ _ _ (World.drew _)
      have B1 : Below wr.heap.size wr (World.drew wr) := (Below.refl _ _).drew
      have hv1 := HV.out.stays B1
      have hw1 := HW.out.stays B1
      generalize World.drew wr = w1 at *
      refine wpAnyH_take (i := 0) (v := .slice (some ⟨bb, off, none⟩) xs.length cap) rfl (by kernel_rfl) (by kernel_rfl) (by kernel_rfl) (fun _ _ _ h => h) (Or.inl ⟨by kernel_rfl, ?_⟩) hS ?_
      · intro W hw; clear hw; go_simp
      change wpAnyH _ _ _ _ _ _ _ (Act.put _ (some 17) _) _
      simp only [Act.put, List.setIfInBounds_toArray, List.set_cons_succ, List.set_cons_zero]
      refine wpAnyH_take (i := 1) (v := .int .i64 (k : Int)) rfl (by kernel_rfl) (by kernel_rfl) (by kernel_rfl) (fun _ _ _ h => h) (Or.inl ⟨by kernel_rfl, ?_⟩) hS ?_
      · intro W hw; clear hw; go_simp
      change wpAnyH _ _ _ _ _ _ _ (Act.put _ (some 18) _) _
      simp only [Act.put, List.setIfInBounds_toArray, List.set_cons_succ, List.set_cons_zero]
      refine wpAnyH_take (i := 2) (v := .pointer (some ⟨bb, off + k * 5, none⟩)) rfl (by kernel_rfl) (by kernel_rfl) (by kernel_rfl) (fun _ _ _ h => h) (Or.inl ⟨by kernel_rfl, ?_⟩) hS ?_
      · intro W hw; clear hw; go_simp
      change wpAnyH _ _ _ _ _ _ _ (Act.put _ (some 19) _) _
      simp only [Act.put, List.setIfInBounds_toArray, List.set_cons_succ, List.set_cons_zero]
      refine wpAnyH_take (i := 3) (v := .agg #[.string x.key, .int .i64 x.ver, .int .i64 x.asof, .int .i64 x.ends, .slice q x.val.length c]) rfl (by kernel_rfl) (by kernel_rfl) (by kernel_rfl) (fun _ _ _ h => h) (Or.inl ⟨by kernel_rfl, ?_⟩) hS ?_
      · intro W hw; obtain ⟨⟨e0, e1, e2, e3, e4⟩, ⟨d0, d1, d2, d3, d4⟩⟩ := hw; go_simp
      change wpAnyH _ _ _ _ _ _ _ (Act.put _ (some 20) _) _
      simp only [Act.put, List.setIfInBounds_toArray, List.set_cons_succ, List.set_cons_zero]
      refine wpAnyH_take (i := 4) (v := .slice (some ⟨bb', off', none⟩) xs.length cap') rfl (by kernel_rfl) (by kernel_rfl) (by kernel_rfl) (fun _ _ _ h => h) (Or.inl ⟨by kernel_rfl, ?_⟩) hS ?_
      · intro W hw; clear hw; go_simp
      change wpAnyH _ _ _ _ _ _ _ (Act.put _ (some 21) _) _
      simp only [Act.put, List.setIfInBounds_toArray, List.set_cons_succ, List.set_cons_zero]
      refine wpAnyH_take (i := 5) (v := .int .i64 (k : Int)) rfl (by kernel_rfl) (by kernel_rfl) (by kernel_rfl) (fun _ _ _ h => h) (Or.inl ⟨by kernel_rfl, ?_⟩) hS ?_
      · intro W hw; clear hw; go_simp
      change wpAnyH _ _ _ _ _ _ _ (Act.put _ (some 22) _) _
      simp only [Act.put, List.setIfInBounds_toArray, List.set_cons_succ, List.set_cons_zero]
      refine wpAnyH_take (i := 6) (v := .pointer (some ⟨bb', off' + k * 5, none⟩)) rfl (by kernel_rfl) (by kernel_rfl) (by kernel_rfl) (fun _ _ _ h => h) (Or.inl ⟨by kernel_rfl, ?_⟩) hS ?_
      · intro W hw; clear hw; go_simp
      change wpAnyH _ _ _ _ _ _ _ (Act.put _ (some 23) _) _
      simp only [Act.put, List.setIfInBounds_toArray, List.set_cons_succ, List.set_cons_zero]
      refine wpAnyH_take (i := 7) (v := .agg #[.string x.key, .int .i64 x.ver, .int .i64 x.asof, .int .i64 x.ends, .slice q' x.val.length c']) rfl (by kernel_rfl) (by kernel_rfl) (by kernel_rfl) (fun _ _ _ h => h) (Or.inl ⟨by kernel_rfl, ?_⟩) hS ?_
      · intro W hw; obtain ⟨⟨e0, e1, e2, e3, e4⟩, ⟨d0, d1, d2, d3, d4⟩⟩ := hw; go_simp
      change wpAnyH _ _ _ _ _ _ _ (Act.put _ (some 24) _) _
      simp only [Act.put, List.setIfInBounds_toArray, List.set_cons_succ, List.set_cons_zero]
      refine wpAnyH_ready (rs := [8]) (by kernel_rfl) (by simp) ?_
      refine AllReadyH.cons rfl (fun K hK => ?_) AllReadyH.nil
      go_simp
      go_wp2_with (go_at_call 28; refine (rsame6_any x.key x.key x.ver x.asof x.ends x.ver x.asof x.ends hv1 hw1).mono ?_; rintro en w2 ⟨rfl, B2⟩)
      rw [sameB_self]
      refine hK.out _ _ (⟨hS.1.stays B2, hS.2.stays B2⟩) (fun hS => ?_)
      clear hK K
      skip
      refine wpAnyH_take (i := 9) (v := .bool false) rfl (by kernel_rfl) (by kernel_rfl) (by kernel_rfl) (fun _ _ _ h => h) (Or.inl ⟨by kernel_rfl, ?_⟩) hS ?_
      · intro W hw; clear hw; go_simp
      change wpAnyH _ _ _ _ _ _ _ (Act.put _ (some 26) _) _
      simp only [Act.put, List.setIfInBounds_toArray, List.set_cons_succ, List.set_cons_zero]
      refine wpAnyH_done (by kernel_rfl) ?_ _
      go_wp2_with fail
      go_roundw
      case rel => exact ⟨k + 1, by omega, by go_num, hbr.trans ((B1.trans (B2.mono B1.size)).mono hbr.size)⟩
      case measure => simp [intOf]; omega
    · have hki : ¬ ((k : Int) < (xs.length : Int)) := by omega
      go_wp2
      go_ret
      exact ⟨rfl, hbr⟩
end Go.Proofs.YtgmghekgelmmcaaDoor.Ite
