/-
  Never given before: the walk of that law.
-/
import Derived.Test.YtkbfihnoohhojaaDoorQWorks
import Derived.Test.YtkbfihnoohhojaaDoorQLow
import Derived.Test.YtkbfihnoohhojaaDoorQFSame
import Derived.Test.YtkbfihnoohhojaaDoorQFFirm
namespace Go.Proofs.YtkbfihnoohhojaaDoor.Fla
open Go.RowKit

theorem sim_new (p : Int) : Sim (newP p) ⟨p, [], [], -1, false, 0⟩ :=
  ⟨rfl, ⟨List.Pairwise.nil, by simp, fun k => rfl⟩, rfl, by simp, rfl, rfl, fun _ => .inl rfl⟩
theorem CellsAt.nil' (w : World) : CellsAt w (.slice none 0 0) [] := ⟨⟨none, 0, rfl, Nat.le_refl _, by unfold maxLen; omega, rfl, .inl rfl⟩, by simp⟩
theorem LooseAt.nil' (w : World) : LooseAt w (.slice none 0 0) [] := ⟨⟨none, 0, rfl, Nat.le_refl _, by unfold maxLen; omega, rfl, .inl rfl⟩, by simp⟩
theorem rf_new (w : World) (p : Int) : RfAt w (.agg #[.int .i64 p, .slice none 0 0, .slice none 0 0, .int .i64 (-1), .bool false, .int .i64 0]) ⟨p, [], [], -1, false, 0⟩ 0 := by
  refine ⟨none, 0, none, 0, [], [], rfl, ?_, fun _ => rfl, rfl, ?_, fun _ => rfl, rfl, by simp, by simp, by simp, by simp, by simp⟩
  · exact CellsAt.nil' w
  · exact LooseAt.nil' w
theorem parts6 {w : World} {x0 x1 x2 x3 x4 x5 : Value} {r : Rf} {N : Nat} (h : RfAt w (.agg #[x0, x1, x2, x3, x4, x5]) r N) : x0.oneCell' = true ∧ x1.oneCell' = true ∧ x2.oneCell' = true ∧ x3.oneCell' = true ∧ x4.oneCell' = true ∧ x5.oneCell' = true := by
  obtain ⟨y0, y1, y2, y3, y4, y5, h1, h2⟩ := h.parts
  cases h1
  exact h2
theorem kat_nil (w : World) : KAt w (.slice none 0 0) [] := ⟨none, 0, rfl, Nat.le_refl _, by unfold maxLen; omega, fun k z h => by simp at h⟩
theorem write_pages9 (d : Dev) (k : Int) (b : List Nat) : (writeP d k b).1.pages = d.pages := write_pages d k b

set_option maxHeartbeats 4000000 in
set_option maxRecDepth 10000 in
theorem new_out {w : World} {v0 kv : Value} {os : List Act4} {keep : List Int} {s k : Int} {lp : Option Addr} {ln lc at_ : Nat} (hA : ActsAt w w.heap.size v0 os) (hK : KLow w w.heap.size kv keep) (hE : ErrT w) (_h0 : 0 < w.heap.size) (hout : 40 < os.length ∨ (os.length ≤ 40 ∧ 60 < keep.length) ∨ (os.length ≤ 40 ∧ keep.length ≤ 60 ∧ Lea.checkC s k ln ≠ 0)) :
    Calls Tryd.prog 3 #[v0, .agg #[.int .i64 s, .int .i64 k, .slice lp ln lc], .int .u8 (at_ : Int), kv] w fun e w' => e = .returned (.bool true) ∧ Below w.heap.size w w' := by
  obtain ⟨p, cap, rfl, hcap, hmax, _⟩ := hA
  unfold maxLen at hmax
  obtain ⟨kp, kc, rfl, hkc, hkm, _⟩ := hK
  unfold maxLen at hkm
  have hBA : Below w.heap.size w (w.alloc (.cells #[.int .i64 s, .int .i64 k, .slice lp ln lc] 25)) := by go_grown
  have HE := hid2 (hE.below hBA)
  have HBA := hid2 hBA
  have h0A : 0 < (w.alloc (.cells #[.int .i64 s, .int .i64 k, .slice lp ln lc] 25)).heap.size := by simp
  have HCK := hid2 (Lea.rcheck_any s k lp ln lc (w.alloc (.cells #[.int .i64 s, .int .i64 k, .slice lp ln lc] 25)))
  clear hE hBA
  generalize Lea.checkC s k ln = cc at *
  rcases hout with h1 | ⟨h1, h2⟩ | ⟨h1, h2, h3⟩
  · have h1' : (40 : Int) < (os.length : Int) := by omega
    clear h1 HCK
    go_enter Tryd.func3, Tryd.ntmps3
    go_wp2_with fail
    refine (works_any _ HE.out h0A).mono ?_
    rintro e w1 ⟨rfl, hb1⟩
    go_wp2
    go_ret
    exact ⟨rfl, HBA.out.trans (hb1.mono HBA.out.size)⟩
  · have h1' : ¬ (40 : Int) < (os.length : Int) := by omega
    have h2' : (60 : Int) < (keep.length : Int) := by omega
    clear h1 h2 HCK
    go_enter Tryd.func3, Tryd.ntmps3
    go_wp2_with fail
    refine (works_any _ HE.out h0A).mono ?_
    rintro e w1 ⟨rfl, hb1⟩
    go_wp2
    go_ret
    exact ⟨rfl, HBA.out.trans (hb1.mono HBA.out.size)⟩
  · have h1' : ¬ (40 : Int) < (os.length : Int) := by omega
    have h2' : ¬ (60 : Int) < (keep.length : Int) := by omega
    have h3' : (cc != 0) = true := by simpa using h3
    clear h1 h2 h3
    go_enter Tryd.func3, Tryd.ntmps3
    go_wp2_with fail
    refine (show Calls _ _ _ _ _ from HCK).mono ?_
    rintro e w1 ⟨rfl, hb1⟩
    have HB1 := hid2 (HBA.out.trans (hb1.mono HBA.out.size))
    have HE1 := hid2 (HE.out.below hb1)
    have h01 : 0 < w1.heap.size := Nat.lt_of_lt_of_le h0A hb1.size
    clear hb1 HCK
    go_wp2_with fail
    refine (works_any _ HE1.out h01).mono ?_
    rintro e w2 ⟨rfl, hb2⟩
    go_wp2
    go_ret
    exact ⟨rfl, HB1.out.trans (hb2.mono HB1.out.size)⟩

set_option maxHeartbeats 8000000 in
set_option maxRecDepth 10000 in
theorem new_go {w : World} {v0 kv : Value} {os : List Act4} {keep : List Int} {lp : Option Addr} {lc at_ sb : Nat} {s k : Int} {lb : List Nat} (hA : ActsAt w w.heap.size v0 os) (hK : KLow w w.heap.size kv keep) (hE : ErrT w) (h0 : 0 < w.heap.size) (hs : Lea.SlAt w sb (.slice lp lb.length lc) (Lea.U lb)) (hyb : Lea.Byt lb) (hat : at_ < 256)
    (h40 : os.length ≤ 40) (h60 : keep.length ≤ 60) (hc : Lea.checkC s k lb.length = 0) :
    Calls Tryd.prog 3 #[v0, .agg #[.int .i64 s, .int .i64 k, .slice lp lb.length lc], .int .u8 (at_ : Int), kv] w fun e w' => e = .returned (.bool true) ∧ Below w.heap.size w w' := by
  have HA := hid2 hA
  obtain ⟨p, cap, rfl, hcap, hmax, _⟩ := hA
  unfold maxLen at hmax
  have HKL := hid2 hK
  obtain ⟨kp0, kc0, rfl, hkc, hkm, _⟩ := hK
  unfold maxLen at hkm
  have hz := Lea.check_zero hc
  obtain ⟨sn, rfl⟩ : ∃ sn : Nat, s = (sn : Int) := ⟨s.toNat, by omega⟩
  obtain ⟨kn, rfl⟩ : ∃ kn : Nat, k = (kn : Int) := ⟨k.toNat, by omega⟩
  obtain ⟨sb, hsb, hs⟩ := sl_low hs h0
  have HPGL := hid2 (Lea.page_length (s := sn) (k := kn) hz.2.2.2.2)
  have HPGB := hid2 (Lea.page_byt (s := sn) (k := kn) (by omega) hz.2.2.2.2 hyb)
  have HPUT : Hid (∀ w', Fr w.heap.size w w' → Calls Tryd.prog 11 #[.agg #[.int .i64 (sn : Int), .int .i64 (kn : Int), .slice lp lb.length lc]] w' fun e w'' => ∃ b' off cap', e = .returned (.tuple #[.slice (some ⟨b', off, none⟩) 256 cap', .nilIface]) ∧ Lea.PgAt w'' b' off cap' (Lea.page sn kn lb) ∧ w''.ownsRow w'.heap.size 5 1 (.slice (some ⟨b', off, none⟩) 256 cap') 256 (Lea.U (Lea.page sn kn lb)) ∧ Below w'.heap.size w' w'') :=
    fun w' hf => Lea.put_good (hs.keeps hf.size (fun hl => hf.low sb hl hsb)) hyb (by omega) (by omega) (by omega) (by omega) hz.2.2.2.2
  have hBA : Below w.heap.size w (w.alloc (.cells #[.int .i64 (sn : Int), .int .i64 (kn : Int), .slice lp lb.length lc] 25)) := by go_grown
  have HE := hid2 hE
  have HBA := hid2 hBA
  have HXB := hid2 (heap_alloc_new w (.cells #[.int .i64 (sn : Int), .int .i64 (kn : Int), .slice lp lb.length lc] 25))
  have HCK := Lea.rcheck_any (sn : Int) (kn : Int) lp lb.length lc (w.alloc (.cells #[.int .i64 (sn : Int), .int .i64 (kn : Int), .slice lp lb.length lc] 25))
  rw [hc] at HCK
  have HCK := hid2 HCK
  have h1' : ¬ (40 : Int) < (os.length : Int) := by omega
  have h2' : ¬ (60 : Int) < (keep.length : Int) := by omega
  clear hE hBA hs hyb hz hc h60
  generalize Lea.page sn kn lb = pgx at *
  generalize lb.length = ln at *
  go_enter Tryd.func3, Tryd.ntmps3
  go_wp2_with fail
  refine (show Calls _ _ _ _ _ from HCK).mono ?_
  rintro e wc ⟨rfl, hbc⟩
  have HBC := hid2 (HBA.out.trans (hbc.mono HBA.out.size))
  have HXC := hid2 (heap_stays HXB.out hbc)
  clear hbc HCK HXB h1' h2'
  go_wp2_with fail
  refine (new_good 9 _ (B := w.heap.size) (HBC.out.size) (by omega) (by omega)).mono ?_
  rintro e w1 ⟨g, rfl, hF1, hb1⟩
  have HB1 := hid2 (HBC.out.trans (hb1.mono HBC.out.size))
  have HX1 := hid2 (heap_stays HXC.out hb1)
  have HF1 := hid2 hF1
  clear hb1 hF1 HXC
  go_wp2_with fail
  refine (rnew_good 9 _ (by omega) (by omega)).mono ?_
  rintro e w2 ⟨rfl, hb2⟩
  have HF2 := hid2 (HF1.out.below hb2)
  have HB2 := hid2 (HB1.out.trans (hb2.mono HB1.out.size))
  have HX2 := hid2 (heap_stays HX1.out hb2)
  clear hb2 HX1 HF1
  go_wp2_with fail
  have hbN : Below w2.heap.size w2 (w2.alloc (.cells #[.int .i64 9, .slice none 0 0, .slice none 0 0, .int .i64 (-1), .bool false, .int .i64 0] 38)) := by go_grown
  have HF3 : Hid (Fl (w2.alloc (.cells #[.int .i64 9, .slice none 0 0, .slice none 0 0, .int .i64 (-1), .bool false, .int .i64 0] 38)) w.heap.size g 0 (newP 9)) := HF2.out.below hbN
  have HB3 : Hid (Below w.heap.size w (w2.alloc (.cells #[.int .i64 9, .slice none 0 0, .slice none 0 0, .int .i64 (-1), .bool false, .int .i64 0] 38))) := HB2.out.trans (hbN.mono HB2.out.size)
  have HX3 := hid2 (heap_stays HX2.out hbN)
  have H73 : Hid ((w2.alloc (.cells #[.int .i64 9, .slice none 0 0, .slice none 0 0, .int .i64 (-1), .bool false, .int .i64 0] 38)).heap[w2.heap.size]? = some (.cells #[.int .i64 9, .slice none 0 0, .slice none 0 0, .int .i64 (-1), .bool false, .int .i64 0] 38 (0, 0))) := heap_alloc_last _ _
  have hs2 := HB2.out.size
  have hs2' : w.heap.size < w2.heap.size := (Array.getElem?_eq_some_iff.1 HX2.out).1
  clear hbN
  generalize hb7 : w2.heap.size = b7 at *
  generalize hw3 : w2.alloc (.cells #[.int .i64 9, .slice none 0 0, .slice none 0 0, .int .i64 (-1), .bool false, .int .i64 0] 38) = w3 at *
  clear hb7 hw3
  go_loopw [13] (fun i wr => ∃ (k : Nat) (d : Dev) (r : Rf) (x0 x1 x2 x3 x4 x5 : Value), i = .int .i64 (k : Int) ∧ k ≤ os.length ∧ wr.heap[b7]? = some (.cells #[x0, x1, x2, x3, x4, x5] 38 (0, 0)) ∧ Fl wr w.heap.size g k d ∧ RfAt wr (.agg #[x0, x1, x2, x3, x4, x5]) r k ∧ Sim d r ∧ d.pages = 9 ∧ Fr w.heap.size w wr ∧ wr.heap[w.heap.size]? = some (.cells #[.int .i64 (sn : Int), .int .i64 (kn : Int), .slice lp ln lc] 25 (0, 0))) (fun i _ => os.length - (intOf i).toNat)
  case atStart => exact ⟨0, _, _, _, _, _, _, _, _, rfl, Nat.zero_le _, H73.out, HF3.out, rf_new _ _, sim_new _, rfl, Below.fr HB3.out, HX3.out⟩
  case round =>
    obtain ⟨k, d, r, x0, x1, x2, x3, x4, x5, rfl, hk, h7, hF, hR, hS, hpg, hfr, hxb⟩ := hrel
    by_cases hlt : k < os.length
    · have hki : (k : Int) < (os.length : Int) := by omega
      have HXR := hid2 hxb
      obtain ⟨o, ho⟩ : ∃ o, os[k]? = some o := ⟨_, List.getElem?_eq_getElem hlt⟩
      obtain ⟨p9, c9, e9, _, _, hel⟩ := HA.out
      cases e9
      obtain ⟨hok, bb, off, rfl, hbB, hbs, c0, c1, c2, c3, c4, c5⟩ := hel k o ho
      clear hel ho hxb
      obtain ⟨kind, at_, a, b, n, keep, kv⟩ := o
      have hok' := hok
      obtain ⟨⟨kp, kc, hkv, _⟩, _⟩ := hok
      dsimp only at hkv c0 c1 c2 c3 c4 c5
      subst hkv
      have m5 : wr.cell? ⟨bb, off + k * 6 + 5, none⟩ = some (.slice kp keep.length kc) := (hfr.cell hbB hbs _).trans c5
      have hbw : bb < wr.heap.size := Nat.lt_of_lt_of_le hbs hfr.size
      by_cases hk60 : 60 < keep.length
      · have hk' : (60 : Int) < (keep.length : Int) := by omega
        have HEW := hid2 (HE.out.fr hfr h0)
        have HFRW := hid2 hfr
        clear c0 c1 c2 c3 c4 c5 h7 hF hR hS hfr hpg hok' hk60
        go_wp2_with fail
        refine (works_any _ HEW.out (by have := HFRW.out.size; omega)).mono ?_
        rintro e wz ⟨rfl, hbz⟩
        go_wp2
        go_ret
        exact ⟨rfl, (HFRW.out.trans (Below.fr hbz)).below (Nat.le_refl _)⟩
      · have hk' : ¬ (60 : Int) < (keep.length : Int) := by omega
        clear hk60
        have HDO : Hid (∀ w', Below wr.heap.size wr w' → Calls Tryd.prog 9 #[.pointer (some ⟨g, 0, none⟩), .agg #[x0, x1, x2, x3, x4, x5], .agg #[.int .i64 kind, .int .i64 at_, .int .u8 (a : Int), .int .u8 (b : Int), .int .i64 n, .slice kp keep.length kc]] w' fun e w'' => ∃ y0 y1 y2 y3 y4 y5, e = .returned (.tuple #[.agg #[y0, y1, y2, y3, y4, y5], .bool true]) ∧ DoneAt w' w'' w.heap.size g (k + 1) (doP d ⟨kind, at_, a, b, n, keep, .slice kp keep.length kc⟩) (.agg #[y0, y1, y2, y3, y4, y5])) := fun w' hf' => by
          exact do_any (hF.below hf') (hR.below hf') hS (HE.out.fr (hfr.trans (Below.fr hf')) h0) h0 (by omega) _ (hok'.fr (hfr.trans (Below.fr hf')))
        have HS7 : Hid (wr.heap[b7]? = some (.cells #[x0, x1, x2, x3, x4, x5] 38 (0, 0))) := h7
        have HSXF : Hid (∀ w', Fr w.heap.size w w' → w'.cell? ⟨bb, off + k * 6, none⟩ = some (.int .i64 kind) ∧ w'.cell? ⟨bb, off + k * 6 + 1, none⟩ = some (.int .i64 at_) ∧ w'.cell? ⟨bb, off + k * 6 + 2, none⟩ = some (.int .u8 (a : Int)) ∧ w'.cell? ⟨bb, off + k * 6 + 3, none⟩ = some (.int .u8 (b : Int)) ∧ w'.cell? ⟨bb, off + k * 6 + 4, none⟩ = some (.int .i64 n) ∧ w'.cell? ⟨bb, off + k * 6 + 5, none⟩ = some (.slice kp keep.length kc)) := fun w' hf' => ⟨(hf'.cell hbB hbs _).trans c0, (hf'.cell hbB hbs _).trans c1, (hf'.cell hbB hbs _).trans c2, (hf'.cell hbB hbs _).trans c3, (hf'.cell hbB hbs _).trans c4, (hf'.cell hbB hbs _).trans c5⟩
        have hfrd : Fr w.heap.size wr wr.drew := Below.fr (Below.refl _ _).drew
        have HFRW := hid2 hfr
        have HPG : Hid (∀ o, (doP d o).pages = 9) := fun o => (do_pages d o).trans hpg
        obtain ⟨⟨g0, g1, g2, g3, g4, g5⟩, _⟩ := six' h7
        clear c0 c1 c2 c3 c4 c5 h7 hF hR hS hfr hpg
        go_wp2_with fail
        clear m5
        refine wp_region_held_drew (S := fun w' => w'.cell? ⟨bb, off + k * 6, none⟩ = some (.int .i64 kind) ∧ w'.cell? ⟨bb, off + k * 6 + 1, none⟩ = some (.int .i64 at_) ∧ w'.cell? ⟨bb, off + k * 6 + 2, none⟩ = some (.int .u8 (a : Int)) ∧ w'.cell? ⟨bb, off + k * 6 + 3, none⟩ = some (.int .u8 (b : Int)) ∧ w'.cell? ⟨bb, off + k * 6 + 4, none⟩ = some (.int .i64 n) ∧ w'.cell? ⟨bb, off + k * 6 + 5, none⟩ = some (.slice kp keep.length kc)) (by kernel_rfl) (HSXF.out _ (HFRW.out.trans hfrd)) (fun hS => ?_)
        change wpAnyH _ _ _ _ _ _ _ _ (World.drew _)
        refine wpAnyH_take (i := 0) (v := .pointer (some ⟨g, 0, none⟩)) rfl (by kernel_rfl) (by kernel_rfl) (by kernel_rfl) (fun _ _ _ h => h) (Or.inl ⟨by kernel_rfl, ?_⟩) hS ?_
        · intro w hw; clear hw; go_simp
        change wpAnyH _ _ _ _ _ _ _ (Act.put _ (some 65) _) _
        simp only [Act.put, List.setIfInBounds_toArray, List.set_cons_succ, List.set_cons_zero]
        refine wpAnyH_take (i := 2) (v := .slice (some ⟨bb, off, none⟩) os.length cap) rfl (by kernel_rfl) (by kernel_rfl) (by kernel_rfl) (fun _ _ _ h => h) (Or.inl ⟨by kernel_rfl, ?_⟩) hS ?_
        · intro w hw; clear hw; go_simp
        change wpAnyH _ _ _ _ _ _ _ (Act.put _ (some 67) _) _
        simp only [Act.put, List.setIfInBounds_toArray, List.set_cons_succ, List.set_cons_zero]
        refine wpAnyH_take (i := 3) (v := .int .i64 (k : Int)) rfl (by kernel_rfl) (by kernel_rfl) (by kernel_rfl) (fun _ _ _ h => h) (Or.inl ⟨by kernel_rfl, ?_⟩) hS ?_
        · intro w hw; clear hw; go_simp
        change wpAnyH _ _ _ _ _ _ _ (Act.put _ (some 68) _) _
        simp only [Act.put, List.setIfInBounds_toArray, List.set_cons_succ, List.set_cons_zero]
        refine wpAnyH_take (i := 4) (v := .pointer (some ⟨bb, off + k * 6, none⟩)) rfl (by kernel_rfl) (by kernel_rfl) (by kernel_rfl) (fun _ _ _ h => h) (Or.inl ⟨by kernel_rfl, ?_⟩) hS ?_
        · intro w hw; clear hw; go_simp
        change wpAnyH _ _ _ _ _ _ _ (Act.put _ (some 69) _) _
        simp only [Act.put, List.setIfInBounds_toArray, List.set_cons_succ, List.set_cons_zero]
        refine wpAnyH_take (i := 5) (v := .agg #[.int .i64 kind, .int .i64 at_, .int .u8 (a : Int), .int .u8 (b : Int), .int .i64 n, .slice kp keep.length kc]) rfl (by kernel_rfl) (by kernel_rfl) (by kernel_rfl) (fun _ _ _ h => h) (Or.inl ⟨by kernel_rfl, ?_⟩) hS ?_
        · intro W hw
          obtain ⟨q0, q1, q2, q3, q4, q5⟩ := hw
          go_simp
        change wpAnyH _ _ _ _ _ _ _ (Act.put _ (some 70) _) _
        simp only [Act.put, List.setIfInBounds_toArray, List.set_cons_succ, List.set_cons_zero]
        refine wpAnyH_ready (rs := [1]) (by kernel_rfl) (by simp) ?_
        refine AllReadyH.cons rfl (fun K hK => ?_) AllReadyH.nil
        go_simp
        go_wp2_with fail
        refine hK.out _ _ (HSXF.out _ (HFRW.out.trans hfrd)) (fun hS => ?_)
        clear hK K
        skip
        refine wpAnyH_ready (rs := [6]) (by kernel_rfl) (by simp) ?_
        refine AllReadyH.cons rfl (fun K hK => ?_) AllReadyH.nil
        go_simp
        go_wp2_with (go_at_call 9; refine (HDO.out _ (by go_grown)).mono ?_; rintro e w4 ⟨z0, z1, z2, z3, z4, z5, rfl, r', hF4, hR4, hS4, hfr4⟩)
        have hfrA : Fr w.heap.size w w4 := (HFRW.out.trans hfrd).trans hfr4
        have hz7 : w4.heap[b7]? = some (.cells #[x0, x1, x2, x3, x4, x5] 38 (0, 0)) := heap_fr (hfrd.trans hfr4) HS7.out
        refine hK.out _ _ (HSXF.out _ hfrA) (fun hS => ?_)
        clear hK K
        skip
        refine wpAnyH_take (i := 7) (v := .tuple #[.agg #[z0, z1, z2, z3, z4, z5], .bool true]) rfl (by kernel_rfl) (by kernel_rfl) (by kernel_rfl) (fun _ _ _ h => h) (Or.inl ⟨by kernel_rfl, ?_⟩) hS ?_
        · intro w hw; clear hw; go_simp
        change wpAnyH _ _ _ _ _ _ _ (Act.put _ (some 64) _) _
        simp only [Act.put, List.setIfInBounds_toArray, List.set_cons_succ, List.set_cons_zero]
        refine wpAnyH_take (i := 8) (v := .agg #[z0, z1, z2, z3, z4, z5]) rfl (by kernel_rfl) (by kernel_rfl) (by kernel_rfl) (fun _ _ _ h => h) (Or.inl ⟨by kernel_rfl, ?_⟩) hS ?_
        · intro w hw; clear hw; go_simp
        change wpAnyH _ _ _ _ _ _ _ (Act.put _ (some 72) _) _
        simp only [Act.put, List.setIfInBounds_toArray, List.set_cons_succ, List.set_cons_zero]
        refine wpAnyH_take (i := 9) (v := .bool true) rfl (by kernel_rfl) (by kernel_rfl) (by kernel_rfl) (fun _ _ _ h => h) (Or.inl ⟨by kernel_rfl, ?_⟩) hS ?_
        · intro w hw; clear hw; go_simp
        change wpAnyH _ _ _ _ _ _ _ (Act.put _ (some 73) _) _
        simp only [Act.put, List.setIfInBounds_toArray, List.set_cons_succ, List.set_cons_zero]
        refine wpAnyH_ready (rs := [10]) (by kernel_rfl) (by simp) ?_
        refine AllReadyH.cons rfl (fun K hK => ?_) AllReadyH.nil
        refine step_st33 rfl (.tmp 11) (.tmp 72) rfl b7 rfl _ _ _ _ _ _ _ hz7 rfl rfl (parts6 hR4) ?_
        intro w5 hw5 hg5
        have hfr5 : Fr w.heap.size w w5 := hfrA.local hg5 hs2
        refine hK.out _ _ (HSXF.out _ hfr5) (fun hS => ?_)
        clear hK K
        change wpAnyH _ _ _ _ _ _ _ (Act.put _ (none) _) _
        simp only [Act.put]
        refine wpAnyH_done (by kernel_rfl) ?_ _
        have HF5 := hid2 (hF4.box hz7 hg5)
        have HR5 := hid2 (hR4.box hz7 hg5)
        have HSM := hid2 hS4
        have HW5 := hid2 hw5
        have HFR5 := hid2 hfr5
        have HX5 := hid2 (heap_grown (heap_fr (hfrd.trans hfr4) HXR.out) hg5 (by intro e; have := Option.some.inj e; omega))
        clear hF4 hR4 hS4 hfr4 hfrA hz7 hw5 hg5 hfr5
        go_wp2_with fail
        go_round
        case rel => exact ⟨k + 1, _, _, z0, z1, z2, z3, z4, z5, by go_num, by omega, HW5.out, HF5.out, HR5.out, HSM.out, HPG.out _, HFR5.out, HX5.out⟩
        case measure => simp [intOf]; omega
    · have hki : ¬ ((k : Int) < (os.length : Int)) := by omega
      have HFR := hid2 hfr
      have hsz := hfr.size
      have HF := hid2 (hF.more (N' := 40) (by omega))
      have HP := hid2 hpg
      have HX := hid2 hxb
      clear h7 hF hR hS hfr hpg hxb
      go_wp2_with fail
      refine (crash_any HF.out (by omega) (kat_nil _)).mono ?_
      rintro e w5 ⟨rfl, hF5, hfr5⟩
      have HF5 := hid2 hF5
      have HP5 : Hid ((crashP d []).pages = 9) := HP.out
      have HCM5 := hid2 (Go.Proofs.YtkbfihnoohhojaaDoor.calm_crash d [])
      have HFR5 := hid2 (HFR.out.trans hfr5)
      have HX5 := hid2 (heap_fr hfr5 HX.out)
      clear hF5 hfr5 HF HP HX HFR
      generalize crashP d [] = d5 at *
      obtain ⟨⟨y0, y1, y2⟩, _⟩ := Lea.three24 HX5.out
      have hwl : w.heap.size < w5.heap.size := (Array.getElem?_eq_some_iff.1 HX5.out).1
      go_wp2_with fail
      refine (HPUT.out _ HFR5.out).mono ?_
      rintro e w6 ⟨b6, o6, c6, rfl, _, hown6, hb6⟩
      have HBA6 : Hid (BAt w6 (.slice (some ⟨b6, o6, none⟩) 256 c6) pgx) := own_bat (by rw [HPGL.out]; exact hown6)
      have HF6 := hid2 (HF5.out.below hb6)
      have HFR6 := hid2 (HFR5.out.trans (Below.fr hb6))
      clear hown6 hb6 y0 y1 y2
      have hm : (at_ : Int).tmod 9 = ((at_ % 9 : Nat) : Int) := by rw [Int.tmod_eq_emod_of_nonneg (by omega)]; omega
      have hat9 : at_ % 9 < 9 := Nat.mod_lt _ (by omega)
      have hwf := write_fine HCM5.out.down HCM5.out.fuse (k := ((at_ % 9 : Nat) : Int)) (by omega) (by rw [HP5.out]; omega) HPGL.out
      have KW := write_any HF6.out (by omega) ((at_ % 9 : Nat) : Int) HBA6.out HPGB.out
      rw [hwf] at KW
      have KW := hid2 KW
      clear hwf
      go_wp2_with fail
      refine (show Calls _ _ _ _ _ from KW).mono ?_
      rintro e w7 ⟨u7, rfl, hu7, hF7, hfr7⟩
      obtain rfl := (FltN.of_fla hu7).none
      have HF7 := hid2 hF7
      have HFR7 := hid2 (HFR6.out.trans hfr7)
      clear hu7 hF7 hfr7 KW
      generalize ({ d5 with waits := d5.waits ++ [⟨((at_ % 9 : Nat) : Int), false, pgx⟩], done := d5.done + 1 } : Dev) = d7 at *
      go_wp2_with fail
      refine (crash_any HF7.out (by omega) (HKL.out.fr HFR7.out).kat).mono ?_
      rintro e w8 ⟨rfl, hF8, hfr8⟩
      have HF8 := hid2 hF8
      have HD8 : Hid ((crashP d7 keep).down = false) := rfl
      have HFR8 := hid2 (HFR7.out.trans hfr8)
      clear hF8 hfr8
      generalize crashP d7 keep = d8 at *
      go_wp2_with fail
      refine (open_good HF8.out (by omega) HD8.out).mono ?_
      rintro e w9 ⟨t, rfl, _, hT9, hb9⟩
      have HT9 := hid2 hT9
      have HF9 := hid2 (HF8.out.below hb9)
      have HFR9 := hid2 (HFR8.out.trans (Below.fr hb9))
      clear hT9 hb9
      go_wp2_with fail
      refine (cells_any HF9.out (by omega)).mono ?_
      rintro e w10 ⟨v10, l, rfl, hC, hl, hb10⟩
      have HL := hid2 hl
      have HT10 := hid2 (HT9.out.below hb10)
      have HFR10 := hid2 (HFR9.out.trans (Below.fr hb10))
      have HOK := hid2 HF9.out.1
      obtain ⟨lp1, lcap, rfl, hlc, hlm, hel⟩ := hC.each
      unfold maxLen at hlm
      have HEL := show Hid (∀ i x, l[i]? = some x → ∃ b off, lp1 = some ⟨b, off, none⟩ ∧ b < w10.heap.size ∧ w10.cell? ⟨b, off + i * 2, none⟩ = some (.int .i64 x.1) ∧ w10.cell? ⟨b, off + i * 2 + 1, none⟩ = some x.2.1 ∧ BAt w10 x.2.1 x.2.2) from hel
      clear hC hel hl hb10
      go_wp2_with fail
      go_loopw [19] (fun i wr => ∃ j : Nat, i = .int .i64 (j : Int) ∧ j ≤ l.length ∧ Below w10.heap.size w10 wr) (fun i _ => l.length - (intOf i).toNat)
      case atStart => exact ⟨0, rfl, Nat.zero_le _, Below.refl _ _⟩
      case round =>
        obtain ⟨j, rfl, hj, hbr⟩ := hrel
        have HBR := hid2 hbr
        by_cases hjl : j < l.length
        · obtain ⟨x, hx⟩ : ∃ x, l[j]? = some x := ⟨_, List.getElem?_eq_getElem hjl⟩
          obtain ⟨bb, off, rfl, hbb, hc0, hc1, hba⟩ := HEL.out j _ hx
          have hji : (j : Int) < (l.length : Int) := by omega
          have hx1 := HL.out ▸ plain_at hx
          have hpg := all_page HOK.out _ (List.mem_of_getElem? hx1)
          have hab := nextL_above (List.mem_of_getElem? hx1)
          have h1 := nextL_le (allP d8)
          obtain ⟨bs, hbs⟩ := bat_sl (hba.below hbr) (by rw [hpg.1]; omega)
          have f1 : wr.cell? ⟨bb, off + j * 2 + 1, none⟩ = some x.2.1 := (hbr.cell (p := ⟨bb, off + j * 2 + 1, none⟩) hbb).trans hc1
          have hbw : bb < wr.heap.size := by have := hbr.size; omega
          have HBY := hid2 hpg.2
          have HT11 := hid2 (HT10.out.below hbr)
          clear hx hx1 hpg hba hc0 hc1 hbr
          obtain ⟨xa, xv, xb⟩ := x
          dsimp only at hab hbs HBY f1
          obtain ⟨sp, scap, rfl, _⟩ := hbs.form
          have HBS := hid2 hbs
          clear hbs
          generalize nextL (allP d8) = nx at *
          go_wp2_with fail
          refine (Lea.stamps_any (b := bs) HBS.out HBY.out).mono ?_
          rintro e w11 ⟨rfl, hb11⟩
          have HT12 := hid2 (HT11.out.below hb11)
          have HB11 := hid2 (HBR.out.trans (hb11.mono HBR.out.size))
          generalize hsa : (Lea.stampsP xb).1 = sa at *
          generalize hsb' : (Lea.stampsP xb).2 = sb' at *
          obtain ⟨ha1, ha2⟩ := hab
          have g1 : ¬ nx ≤ (sa : Int) := by omega
          have g2 : ¬ nx ≤ (sb' : Int) := by omega
          clear hb11
          go_wp2_with fail
          refine (next_any HT12.out).mono ?_
          rintro e w12 ⟨rfl, hww⟩
          cases hww
          go_wp2_with fail
          refine (next_any HT12.out).mono ?_
          rintro e w12 ⟨rfl, hww⟩
          cases hww
          go_wp2_with fail
          go_roundw
          case rel => exact ⟨j + 1, by go_num, by omega, HB11.out⟩
          case measure => simp [intOf]; omega
        · have hji : ¬ ((j : Int) < (l.length : Int)) := by omega
          have HT11 := hid2 (HT10.out.below hbr)
          have h1 := nextL_one (allP d8)
          have HEW := hid2 (HE.out.fr (HFR10.out.trans (Below.fr hbr)) h0)
          have hw0 : 0 < wr.heap.size := by have := HFR10.out.size; have := hbr.size; omega
          clear hbr
          generalize nextL (allP d8) = nx at *
          go_wp2_with fail
          refine (next_any HT11.out).mono ?_
          rintro e w12 ⟨rfl, hww⟩
          cases hww
          go_wp2_with fail
          refine (works_any _ HEW.out hw0).mono ?_
          rintro e w13 ⟨rfl, hb13⟩
          go_wp2
          go_ret
          exact ⟨rfl, ((HFR10.out.trans (Below.fr HBR.out)).trans (Below.fr hb13)).below (Nat.le_refl _)⟩

theorem new_any {w : World} {v0 kv : Value} {os : List Act4} {keep : List Int} {lp : Option Addr} {lc at_ sb : Nat} {s k : Int} {lb : List Nat} (hA : ActsAt w w.heap.size v0 os) (hK : KLow w w.heap.size kv keep) (hE : ErrT w) (h0 : 0 < w.heap.size) (hs : Lea.SlAt w sb (.slice lp lb.length lc) (Lea.U lb)) (hyb : Lea.Byt lb) (hat : at_ < 256) :
    Calls Tryd.prog 3 #[v0, .agg #[.int .i64 s, .int .i64 k, .slice lp lb.length lc], .int .u8 (at_ : Int), kv] w fun e w' => e = .returned (.bool true) ∧ Below w.heap.size w w' := by
  by_cases h1 : os.length ≤ 40
  · by_cases h2 : keep.length ≤ 60
    · by_cases h3 : Lea.checkC s k lb.length = 0
      · exact new_go hA hK hE h0 hs hyb hat h1 h2 h3
      · exact new_out hA hK hE h0 (.inr (.inr ⟨h1, h2, h3⟩))
    · exact new_out hA hK hE h0 (.inr (.inl ⟨h1, by omega⟩))
  · exact new_out hA hK hE h0 (.inl (by omega))
end Go.Proofs.YtkbfihnoohhojaaDoor.Fla
