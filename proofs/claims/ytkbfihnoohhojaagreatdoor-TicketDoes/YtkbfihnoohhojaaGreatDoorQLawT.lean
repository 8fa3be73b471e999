/-
  What a ticket does, act by act: the walk of that law.
-/
import Derived.Test.YtkbfihnoohhojaaGreatDoorQOpenT
import Derived.Test.YtkbfihnoohhojaaGreatDoorQWorks
import Derived.Test.YtkbfihnoohhojaaGreatDoorQFDoC
import Derived.Deep.DeepCutAuto
import Derived.Deep.CutBlock
namespace Go.Proofs.YtkbfihnoohhojaaGreatDoor
open Go.RowKit
open Fla (RfAt)

theorem Fs.local {B b : Nat} {w w1 w2 : World} (h : Fs B w w1) (hg : w1.grownBy w2 (some b)) (hb : w.heap.size ≤ b) : Fs B w w2 :=
  ⟨hg.os.trans h.os, hg.tape.trans h.tape, hg.output.trans h.output, Nat.le_trans h.size hg.size,
    fun k hk hB => (hg.block k (Nat.lt_of_lt_of_le hk h.size) (by intro e; cases e; omega)).trans (h.low k hk hB),
    fun k cs e fr h1 h2 h3 h4 => (hg.block k (Nat.lt_of_lt_of_le (Array.getElem?_eq_some_iff.1 h1).1 h.size) (by intro e'; cases e'; have := (Array.getElem?_eq_some_iff.1 h1).1; omega)).trans (h.stat k cs e fr h1 h2 h3 h4)⟩
theorem five {w : World} {g : Nat} {t : TypeId} {x0 x1 x2 x3 x4 : Value} (h : w.heap[g]? = some (.cells #[x0, x1, x2, x3, x4] t (0, 0))) :
    (w.cell? ⟨g, 0, none⟩ = some x0 ∧ w.cell? ⟨g, 1, none⟩ = some x1 ∧ w.cell? ⟨g, 2, none⟩ = some x2 ∧ w.cell? ⟨g, 3, none⟩ = some x3 ∧ w.cell? ⟨g, 4, none⟩ = some x4) ∧ ∀ o, w.frozen? ⟨g, o, none⟩ = false := by
  refine ⟨⟨?_, ?_, ?_, ?_, ?_⟩, ?_⟩ <;> simp [World.cell?, World.frozen?, h]
theorem simT_new (p : Int) : Fla.Sim (Fla.newP p) ⟨p, [], [], -1, false, 0⟩ :=
  ⟨rfl, ⟨List.Pairwise.nil, by simp, fun k => rfl⟩, rfl, by simp, rfl, rfl, fun _ => .inl rfl⟩
theorem rfT_new (w : World) (p : Int) : RfAt w (.agg #[.int .i64 p, .slice none 0 0, .slice none 0 0, .int .i64 (-1), .bool false, .int .i64 0]) ⟨p, [], [], -1, false, 0⟩ 0 := by
  refine ⟨none, 0, none, 0, [], [], rfl, ?_, fun _ => rfl, rfl, ?_, fun _ => rfl, rfl, by simp, by simp, by simp, by simp, by simp⟩
  · exact ⟨⟨none, 0, rfl, Nat.le_refl _, by unfold maxLen; omega, rfl, .inl rfl⟩, by simp⟩
  · exact ⟨⟨none, 0, rfl, Nat.le_refl _, by unfold maxLen; omega, rfl, .inl rfl⟩, by simp⟩
/-- The state between two acts. -/
def StT (w wr : World) (g b6 N : Nat) (tv : Value) : Prop := ∃ (d : Fla.Dev) (r : Fla.Rf) (n : Int) (t : Nat) (x0 x1 x2 x3 x4 x5 : Value), tv = .pointer (some ⟨t, 0, none⟩) ∧ wr.heap[b6]? = some (.cells #[x0, x1, x2, x3, x4, x5, .int .i64 n] 38 (0, 0)) ∧ Fla.Fl wr w.heap.size g N d ∧
  RfAt wr (.agg #[x0, x1, x2, x3, x4, x5]) r N ∧ Fla.Sim d r ∧ Tk wr t g n ∧ w.heap.size ≤ t ∧ 1 ≤ n ∧ n ≤ 1099511627777 ∧ Fs w.heap.size w wr ∧ b6 < wr.heap.size ∧ (x0.oneCell' = true ∧ x1.oneCell' = true ∧ x2.oneCell' = true ∧ x3.oneCell' = true ∧ x4.oneCell' = true ∧ x5.oneCell' = true)

set_option maxHeartbeats 16000000 in
set_option maxRecDepth 10000 in
theorem doesT_go {w : World} {v : Value} {os : List ActT} (hA : ActsT w w.heap.size v os) (hE : ErrT w) (h0 : 0 < w.heap.size) (hl : lightT os = true) :
    Calls Tryz.prog 3 #[v] w fun e w' => e = .returned (.bool true) ∧ Below w.heap.size w w' := by
  have h40 := lightT_len hl
  have HK := lightT_any hA
  rw [hl] at HK
  have HK := hid2 HK
  obtain ⟨p, cap, rfl, hcap, hmax, hel⟩ := hA
  unfold maxLen at hmax
  have HEL := hid2 hel
  have HE := hid2 hE
  clear hel hE hl
  have hN7 : nextL (Fla.rall ⟨7, [], [], -1, false, 0⟩) = 1 := by rw [Sim.next (simT_new 7) (Fla.newP_ok (by omega) (by omega)), next_new]
  have hP7 : ∀ x ∈ Fla.rall ⟨7, [], [], -1, false, 0⟩, x.2.length = 256 ∧ Lea.Byt x.2 := by rw [(simT_new 7).all (Fla.newP_ok (by omega) (by omega)), all_new]; intro x hx; cases hx
  have KO := fun (W : World) => ropen_any (rfT_new W 7) (by decide) (by decide) rfl hP7 ⟨rfl, rfl, rfl, rfl, rfl, rfl⟩
  rw [hN7] at KO
  have KO := hid2 KO
  have HN1 := hid2 (next_new 7)
  clear hN7 hP7
  go_enter Tryz.func3, Tryz.ntmps3
  go_wp2_with fail
  refine (show Calls _ _ _ _ _ from HK).mono ?_
  rintro e wa ⟨rfl, hww⟩
  cases hww
  go_wp2_with fail
  refine (Fla.new_good 7 _ (B := w.heap.size) (Nat.le_refl _) (by omega) (by omega)).mono ?_
  rintro e w1 ⟨g, rfl, hF1, hb1⟩
  have HB1 := hid2 hb1
  have HF1 := hid2 hF1
  clear hb1 hF1
  go_wp2_with fail
  refine (open_good HF1.out (by omega) rfl).mono ?_
  rintro e w2 ⟨t, rfl, ht, hT2, hb2⟩
  rw [HN1.out] at hT2
  have HT2 := hid2 hT2
  have HF2 := hid2 (HF1.out.below hb2)
  have HB2 := hid2 (HB1.out.trans (hb2.mono HB1.out.size))
  have hBt : w.heap.size ≤ t := by have := HB1.out.size; omega
  clear hT2 hb2 HF1
  go_wp2_with fail
  refine (KO.out _).mono ?_
  rintro e w3 ⟨rfl, hb3⟩
  have HT3 := hid2 (HT2.out.below hb3)
  have HF3 := hid2 (HF2.out.below hb3)
  have HB3 := hid2 (HB2.out.trans (hb3.mono HB2.out.size))
  clear hb3 HT2 HF2 KO
  go_wp2_with fail
  have hbN : Below w3.heap.size w3 (w3.alloc (.cells #[.int .i64 7, .slice none 0 0, .slice none 0 0, .int .i64 (-1), .bool false, .int .i64 0, .int .i64 1] 38)) := by go_grown
  have HF4 := hid2 (HF3.out.below hbN)
  have HT4 := hid2 (HT3.out.below hbN)
  have HB4 := hid2 (HB3.out.trans (hbN.mono HB3.out.size))
  have H64 : Hid ((w3.alloc (.cells #[.int .i64 7, .slice none 0 0, .slice none 0 0, .int .i64 (-1), .bool false, .int .i64 0, .int .i64 1] 38)).heap[w3.heap.size]? = some (.cells #[.int .i64 7, .slice none 0 0, .slice none 0 0, .int .i64 (-1), .bool false, .int .i64 0, .int .i64 1] 38 (0, 0))) := heap_alloc_last _ _
  have hb6 := HB3.out.size
  clear hbN
  generalize hb6e : w3.heap.size = b6 at *
  generalize hw4 : w3.alloc (.cells #[.int .i64 7, .slice none 0 0, .slice none 0 0, .int .i64 (-1), .bool false, .int .i64 0, .int .i64 1] 38) = w4 at *
  clear hb6e hw4
  go_loopw [5, 8] (fun tv i wr => ∃ k : Nat, i = .int .i64 (k : Int) ∧ k ≤ os.length ∧ StT w wr g b6 (2 * k) tv) (fun _ i _ => os.length - (intOf i).toNat)
  case atStart => exact ⟨0, rfl, Nat.zero_le _, _, _, _, t, _, _, _, _, _, _, rfl, H64.out, HF4.out, rfT_new _ _, simT_new _, HT4.out, hBt, by omega, by omega, Fs.below HB4.out, (Array.getElem?_eq_some_iff.1 H64.out).1, ⟨rfl, rfl, rfl, rfl, rfl, rfl⟩⟩
  case round =>
    clear HT3 HF3 HB1 HB2 HB3 HB4 H64 HF4 HT4 hBt ht HN1
    obtain ⟨k, rfl, hk, d, r, n, t, x0, x1, x2, x3, x4, x5, rfl, h6, hF, hR, hS, hT, hBt, hn1, hn2, hfs, hb6l, hone⟩ := hrel
    by_cases hlt : k < os.length
    · have hki : (k : Int) < (os.length : Int) := by omega
      obtain ⟨o, ho⟩ : ∃ o, os[k]? = some o := ⟨_, List.getElem?_eq_getElem hlt⟩
      obtain ⟨hok, ob, off, rfl, hbB, hbs, c0, c1, c2, c3, c4⟩ := HEL.out k o ho
      clear ho
      obtain ⟨kind, at_, page, b, keep, bv, kv⟩ := o
      obtain ⟨hkl, ⟨bb, hbb, hbsl⟩, hyb, hat⟩ := hok
      dsimp only at hkl hbb hbsl hyb hat c0 c1 c2 c3 c4
      obtain ⟨bp, bc, hbv, _⟩ := hbsl.form
      rw [Lea.U_length] at hbv
      subst hbv
      have hkl' := hkl
      obtain ⟨kp, kc, hkv, _⟩ := hkl'
      subst hkv
      have HBS := hid2 hbsl
      have HKL := hid2 hkl
      have HYB := hid2 hyb
      have HAT := hid2 hat
      have hbl := hfs.toBelow (Nat.le_refl _)
      have m0 := (hbl.cell (p := ⟨ob, off + k * 5, none⟩) hbB).trans c0
      have m1 := (hbl.cell (p := ⟨ob, off + k * 5 + 1, none⟩) hbB).trans c1
      have m2 := (hbl.cell (p := ⟨ob, off + k * 5 + 2, none⟩) hbB).trans c2
      have m3 := (hbl.cell (p := ⟨ob, off + k * 5 + 3, none⟩) hbB).trans c3
      have m4 := (hbl.cell (p := ⟨ob, off + k * 5 + 4, none⟩) hbB).trans c4
      have hobw : ob < wr.heap.size := Nat.lt_of_lt_of_le hbs hfs.size
      have hte : t ≠ b6 := by rintro rfl; unfold Tk at hT; rw [hT] at h6; cases h6
      have hA1 : Below wr.heap.size wr (wr.alloc (.cells #[.int .i64 kind, .int .i64 at_, .int .i64 page, .slice bp b.length bc, .slice kp keep.length kc] 45)) := by go_grown
      have H61 := hid2 (heap_stays h6 hA1)
      have HF1 := hid2 (hF.below hA1)
      have HR1 := hid2 (hR.below hA1)
      have HT1 := hid2 (hT.below hA1)
      have HSM := hid2 hS
      have HFS1 := hid2 (hfs.trans (Fs.below hA1))
      have HO1 : Hid ((wr.alloc (.cells #[.int .i64 kind, .int .i64 at_, .int .i64 page, .slice bp b.length bc, .slice kp keep.length kc] 45)).heap[wr.heap.size]? = some (.cells #[.int .i64 kind, .int .i64 at_, .int .i64 page, .slice bp b.length bc, .slice kp keep.length kc] 45 (0, 0))) := heap_alloc_last _ _
      have HONE := hid2 hone
      clear c0 c1 c2 c3 c4 h6 hF hR hS hT hfs hkl hbsl hyb hat hbl hA1 hone
      go_upto_block 2 with fail
      generalize hbo : wr.heap.size = bo at *
      generalize hw1 : wr.alloc (.cells #[.int .i64 kind, .int .i64 at_, .int .i64 page, .slice bp b.length bc, .slice kp keep.length kc] 45) = w1 at *
      clear hw1 m0 m1 m2 m3 m4
      go_cut [5, 11] (fun tv ok wx => ok = .bool true ∧ StT w wx g b6 (2 * k + 2) tv)
      case first =>
        by_cases hk0 : kind = 0
        · subst hk0
          as_aux_lemma =>
            have KR := hid2 (rtput_any (n := n) (kind := page) HR1.out (by omega) HONE.out at_ (sl_fs HBS.out HFS1.out hbb) HYB.out)
            have KP : Hid (∀ w', Fla.Fl w' w.heap.size g (2 * k) d → Tk w' t g n → Fs w.heap.size w w' → Calls Tryz.prog 11 #[.pointer (some ⟨t, 0, none⟩), .int .i64 at_, .int .i64 page, .slice bp b.length bc] w' fun e w'' => ∃ u, e = .returned u ∧ FltN 12 w'' u (tputP d n at_ page b).2.2 ∧ Fla.Fl w'' w.heap.size g (2 * k + 1) (tputP d n at_ page b).1 ∧ Tk w'' t g (tputP d n at_ page b).2.1 ∧ Fs w.heap.size w' w'') := fun w' a1 a2 a3 => tput_any (n := n) (kind := page) a1 (by omega) a2 hBt (sl_fs HBS.out a3 hbb) HYB.out at_
            have hst := Sim.tput HSM.out n at_ page b
            have hnx := tput_next d n at_ page b hn1 hn2
            generalize tputP d n at_ page b = td at *
            generalize rputP r n at_ page b = tr at *
            obtain ⟨d', n', c'⟩ := td
            obtain ⟨r', n2, c2⟩ := tr
            obtain ⟨hsm, hq⟩ := hst
            simp only [Prod.mk.injEq] at hq
            obtain ⟨rfl, rfl⟩ := hq
            dsimp only at KR KP hnx hsm
            obtain ⟨⟨o0, o1, o2, o3, o4⟩, of⟩ := five HO1.out
            obtain ⟨⟨p0, p1, p2, p3, p4, p5, p6⟩, pf⟩ := seven H61.out
            go_wp2_with fail
            refine (show Calls _ _ _ _ _ from KR.out).mono ?_
            rintro e w2 ⟨z0, z1, z2, z3, z4, z5, rfl, hone, hr2, hb2⟩
            have HZ := hid2 hone
            have HR2 := hid2 hr2
            have H62 := hid2 (heap_stays H61.out hb2)
            have HO2 := hid2 (heap_stays HO1.out hb2)
            have HFS2 := hid2 (HFS1.out.trans (Fs.below hb2))
            have HF2 := hid2 (HF1.out.below hb2)
            have HT2 := hid2 (HT1.out.below hb2)
            clear hone hr2 hb2 o0 o1 o2 o3 o4 of p0 p1 p2 p3 p4 p5 p6 pf
            go_wp2_with (refine st38 rfl (.tmp 6) (.tmp 88) rfl b6 rfl _ _ _ _ _ _ _ _ H62.out rfl rfl HZ.out rfl ?_; intro w3 hz3 hg3; have H63 := hid2 hz3; have HO3 := hid2 (Fla.heap_grown HO2.out hg3 (by intro e; have := Option.some.inj e; omega)); have HFS3 := hid2 (HFS2.out.local hg3 hb6); have HR3 := hid2 (rf_boxT HR2.out H62.out hg3); have HF3 := hid2 (Fl_boxT HF2.out H62.out hg3); have HT3 : Hid (Tk _ t g n) := Fla.heap_grown HT2.out hg3 (by intro e; exact hte (Option.some.inj e)); clear hz3 hg3; obtain ⟨⟨o0, o1, o2, o3, o4⟩, of⟩ := five HO3.out)
            refine (show Calls _ _ _ _ _ from KP.out _ HF3.out HT3.out HFS3.out).mono ?_
            rintro e w4 ⟨u, rfl, hu, hf4, ht4, hfs4⟩
            have H64 := hid2 ((hfs4.stat _ _ _ _ H63.out (by decide) (by decide) (by decide)).trans H63.out)
            have HO4 := hid2 ((hfs4.stat _ _ _ _ HO3.out (by decide) (by decide) (by decide)).trans HO3.out)
            have HR4 := hid2 (rf_fs HR3.out hfs4)
            have HFS4 := hid2 (HFS3.out.trans hfs4)
            have HF4 := hid2 hf4
            have HT4 := hid2 ht4
            have HE4 := hid2 (HE.out.fs HFS4.out h0)
            have HU := hid2 hu
            clear hu hf4 ht4 hfs4 o0 o1 o2 o3 o4 of
            go_wp2_with fail
            refine (of_n (by omega) HE4.out HU.out).mono ?_
            rintro e w5 ⟨rfl, hb5⟩
            have H65 := hid2 (heap_stays H64.out hb5)
            have HO5 := hid2 (heap_stays HO4.out hb5)
            have HFS5 := hid2 (HFS4.out.trans (Fs.below hb5))
            have HF5 := hid2 (HF4.out.below hb5)
            have HT5 := hid2 (HT4.out.below hb5)
            have HR5 := hid2 (HR4.out.below hb5)
            clear hb5
            go_wp2_with fail
            go_meet
            exact ⟨rfl, d', r', n', t, z0, z1, z2, z3, z4, z5, rfl, H65.out, HF5.out.more (by omega), HR5.out.more (by omega), hsm, HT5.out, hBt, hnx.1, hnx.2, HFS5.out, (Array.getElem?_eq_some_iff.1 H65.out).1, HZ.out⟩
        by_cases hk1 : kind = 1
        · subst hk1
          as_aux_lemma =>
            have hput := Sim.tput HSM.out n at_ page b
            have hok' := tput_ok (n := n) (at_ := at_) (kind := page) HF1.out.1 HYB.out
            have KR := hid2 (rtfirm_any (n := n) (kind := page) HR1.out (by omega) HONE.out at_ (sl_fs HBS.out HFS1.out hbb) HYB.out (Fla.sim_ll hput.1) (Fla.sim_ss hput.1 hok'))
            have KP : Hid (∀ w', Fla.Fl w' w.heap.size g (2 * k) d → Tk w' t g n → Fs w.heap.size w w' → Calls Tryz.prog 13 #[.pointer (some ⟨t, 0, none⟩), .int .i64 at_, .int .i64 page, .slice bp b.length bc] w' fun e w'' => ∃ u, e = .returned u ∧ FltN 13 w'' u (tfirmP d n at_ page b).2.2 ∧ Fla.Fl w'' w.heap.size g (2 * k + 2) (tfirmP d n at_ page b).1 ∧ Tk w'' t g (tfirmP d n at_ page b).2.1 ∧ Fs w.heap.size w' w'') := fun w' a1 a2 a3 => tfirm_any (n := n) (kind := page) a1 (by omega) a2 hBt (sl_fs HBS.out a3 hbb) HYB.out at_
            have hst := Sim.tfirm HSM.out HF1.out.1 n at_ page HYB.out
            have hnx := tfirm_next d n at_ page b hn1 hn2
            clear hput hok'
            generalize tfirmP d n at_ page b = td at *
            generalize rfirmP r n at_ page b = tr at *
            obtain ⟨d', n', c'⟩ := td
            obtain ⟨r', n2, c2⟩ := tr
            obtain ⟨hsm, hq⟩ := hst
            simp only [Prod.mk.injEq] at hq
            obtain ⟨rfl, rfl⟩ := hq
            dsimp only at KR KP hnx hsm
            obtain ⟨⟨o0, o1, o2, o3, o4⟩, of⟩ := five HO1.out
            obtain ⟨⟨p0, p1, p2, p3, p4, p5, p6⟩, pf⟩ := seven H61.out
            go_wp2_with fail
            refine (show Calls _ _ _ _ _ from KR.out).mono ?_
            rintro e w2 ⟨z0, z1, z2, z3, z4, z5, rfl, hone, hr2, hb2⟩
            have HZ := hid2 hone
            have HR2 := hid2 hr2
            have H62 := hid2 (heap_stays H61.out hb2)
            have HO2 := hid2 (heap_stays HO1.out hb2)
            have HFS2 := hid2 (HFS1.out.trans (Fs.below hb2))
            have HF2 := hid2 (HF1.out.below hb2)
            have HT2 := hid2 (HT1.out.below hb2)
            clear hone hr2 hb2 o0 o1 o2 o3 o4 of p0 p1 p2 p3 p4 p5 p6 pf
            go_wp2_with (refine st38 rfl (.tmp 6) (.tmp 112) rfl b6 rfl _ _ _ _ _ _ _ _ H62.out rfl rfl HZ.out rfl ?_; intro w3 hz3 hg3; have H63 := hid2 hz3; have HO3 := hid2 (Fla.heap_grown HO2.out hg3 (by intro e; have := Option.some.inj e; omega)); have HFS3 := hid2 (HFS2.out.local hg3 hb6); have HR3 := hid2 (rf_boxT HR2.out H62.out hg3); have HF3 := hid2 (Fl_boxT HF2.out H62.out hg3); have HT3 : Hid (Tk _ t g n) := Fla.heap_grown HT2.out hg3 (by intro e; exact hte (Option.some.inj e)); clear hz3 hg3; obtain ⟨⟨o0, o1, o2, o3, o4⟩, of⟩ := five HO3.out)
            refine (show Calls _ _ _ _ _ from KP.out _ HF3.out HT3.out HFS3.out).mono ?_
            rintro e w4 ⟨u, rfl, hu, hf4, ht4, hfs4⟩
            have H64 := hid2 ((hfs4.stat _ _ _ _ H63.out (by decide) (by decide) (by decide)).trans H63.out)
            have HO4 := hid2 ((hfs4.stat _ _ _ _ HO3.out (by decide) (by decide) (by decide)).trans HO3.out)
            have HR4 := hid2 (rf_fs HR3.out hfs4)
            have HFS4 := hid2 (HFS3.out.trans hfs4)
            have HF4 := hid2 hf4
            have HT4 := hid2 ht4
            have HE4 := hid2 (HE.out.fs HFS4.out h0)
            have HU := hid2 hu
            clear hu hf4 ht4 hfs4 o0 o1 o2 o3 o4 of
            go_wp2_with fail
            refine (of_n (by omega) HE4.out HU.out).mono ?_
            rintro e w5 ⟨rfl, hb5⟩
            have H65 := hid2 (heap_stays H64.out hb5)
            have HO5 := hid2 (heap_stays HO4.out hb5)
            have HFS5 := hid2 (HFS4.out.trans (Fs.below hb5))
            have HF5 := hid2 (HF4.out.below hb5)
            have HT5 := hid2 (HT4.out.below hb5)
            have HR5 := hid2 (HR4.out.below hb5)
            clear hb5
            go_wp2_with fail
            go_meet
            exact ⟨rfl, d', r', n', t, z0, z1, z2, z3, z4, z5, rfl, H65.out, HF5.out.more (by omega), HR5.out.more (by omega), hsm, HT5.out, hBt, hnx.1, hnx.2, HFS5.out, (Array.getElem?_eq_some_iff.1 H65.out).1, HZ.out⟩
        by_cases hk2 : kind = 2
        · subst hk2
          as_aux_lemma =>
            have hrd : Fla.rreadP r at_ = Fla.readP d at_ := by unfold Fla.rreadP Fla.readP; rw [HSM.out.refuses, HSM.out.look]
            have hrp := read_page HF1.out.1 (at_ := at_)
            have KR := rtget_any (n := n) HR1.out at_ page (by rw [hrd]; exact hrp)
            rw [hrd] at KR
            have KR := hid2 KR
            have KP : Hid (∀ w', Fla.Fl w' w.heap.size g (2 * k) d → Tk w' t g n → Calls Tryz.prog 15 #[.pointer (some ⟨t, 0, none⟩), .int .i64 at_, .int .i64 page] w' fun e w'' => ∃ rv, e = .returned rv ∧ TGet w' w'' rv (tgetP (Fla.readP d at_) page)) := fun w' a1 a2 => tget_any a1 (by omega) a2 at_ page
            clear hrd hrp
            generalize tgetP (Fla.readP d at_) page = rr at *
            obtain ⟨c', s', k', b'⟩ := rr
            obtain ⟨⟨o0, o1, o2, o3, o4⟩, of⟩ := five HO1.out
            obtain ⟨⟨p0, p1, p2, p3, p4, p5, p6⟩, pf⟩ := seven H61.out
            go_wp2_with fail
            refine (show Calls _ _ _ _ _ from KR.out).mono ?_
            rintro e w2 ⟨rv2, rfl, bx, px, cx, hrv, hsl2, hb2⟩
            dsimp only at hrv hsl2
            subst hrv
            have H62 := hid2 (heap_stays H61.out hb2)
            have HO2 := hid2 (heap_stays HO1.out hb2)
            have HFS2 := hid2 (HFS1.out.trans (Fs.below hb2))
            have HF2 := hid2 (HF1.out.below hb2)
            have HT2 := hid2 (HT1.out.below hb2)
            have HR2 := hid2 (HR1.out.below hb2)
            have HA2 := hid2 (heap_alloc_new w2 (.cells #[.int .i64 0, .int .i64 0, .slice none 0 0] 50))
            have HSL2 := hid2 hsl2
            clear hb2 hsl2 o0 o1 o2 o3 o4 of p0 p1 p2 p3 p4 p5 p6 pf
            go_wp2_with (refine Lea.st24 rfl (.tmp 12) (.tmp 134) rfl w2.heap.size rfl _ _ _ _ HA2.out rfl rfl ⟨rfl, rfl, rfl⟩ ?_; intro w3 hz3 hg3; have hb3 := box_below hg3; have H63 := hid2 (heap_stays H62.out hb3); have HO3 := hid2 (heap_stays HO2.out hb3); have HFS3 := hid2 (HFS2.out.trans (Fs.below hb3)); have HF3 := hid2 (HF2.out.below hb3); have HT3 := hid2 (HT2.out.below hb3); have HR3 := hid2 (HR2.out.below hb3); have HSL3 := hid2 (HSL2.out.stays hb3); have HX3 := hid2 hz3; obtain ⟨⟨o0, o1, o2, o3, o4⟩, of⟩ := five HO3.out; clear hb3 hz3 hg3)
            refine (show Calls _ _ _ _ _ from KP.out _ HF3.out HT3.out).mono ?_
            rintro e w4 ⟨rv4, rfl, by4, py, cy, u, hby4, hrv, hsl4, hu, hb4⟩
            dsimp only at hrv hsl4 hu
            subst hrv
            have H64 := hid2 (heap_stays H63.out hb4)
            have HO4 := hid2 (heap_stays HO3.out hb4)
            have HFS4 := hid2 (HFS3.out.trans (Fs.below hb4))
            have HF4 := hid2 (HF3.out.below hb4)
            have HT4 := hid2 (HT3.out.below hb4)
            have HR4 := hid2 (HR3.out.below hb4)
            have HX4 := hid2 (heap_stays HX3.out hb4)
            have HSL4 := hid2 (HSL3.out.stays hb4)
            have HSP4 := hid2 hsl4
            have HU4 := hid2 hu
            have HA4 := hid2 (heap_alloc_new w4 (.cells #[.int .i64 0, .int .i64 0, .slice none 0 0] 50))
            clear hb4 hsl4 hu hby4 o0 o1 o2 o3 o4 of
            go_wp2_with (refine Lea.st24 rfl (.tmp 14) (.tmp 143) rfl w4.heap.size rfl _ _ _ _ HA4.out rfl rfl ⟨rfl, rfl, rfl⟩ ?_; intro w5 hz5 hg5; have hb5 := box_below hg5; have H65 := hid2 (heap_stays H64.out hb5); have HO5 := hid2 (heap_stays HO4.out hb5); have HFS5 := hid2 (HFS4.out.trans (Fs.below hb5)); have HF5 := hid2 (HF4.out.below hb5); have HT5 := hid2 (HT4.out.below hb5); have HR5 := hid2 (HR4.out.below hb5); have HSL5 := hid2 (HSL4.out.stays hb5); have HSP5 := hid2 (HSP4.out.stays hb5); have HU5 := hid2 (HU4.out.below hb5); obtain ⟨⟨q0, q1, q2⟩, qf⟩ := Lea.three24 (heap_stays HX4.out hb5); obtain ⟨⟨s0, s1, s2⟩, sf⟩ := Lea.three24 hz5; clear hb5 hz5 hg5)
            have KS := Lea.rsame_any (s' : Int) (k' : Int) (s' : Int) (k' : Int) HSL5.out HSP5.out
            simp only [beq_self_eq_true, Bool.and_self, decide_true] at KS
            refine KS.mono ?_
            rintro e w6 ⟨rfl, hb6'⟩
            have H66 := hid2 (heap_stays H65.out hb6')
            have HO6 := hid2 (heap_stays HO5.out hb6')
            have HFS6 := hid2 (HFS5.out.trans (Fs.below hb6'))
            have HF6 := hid2 (HF5.out.below hb6')
            have HT6 := hid2 (HT5.out.below hb6')
            have HR6 := hid2 (HR5.out.below hb6')
            have HU6 := hid2 (HU5.out.below hb6')
            have HE6 := hid2 (HE.out.fs HFS6.out h0)
            clear hb6' q0 q1 q2 qf s0 s1 s2 sf KS
            go_wp2_with fail
            refine (of_n (by omega) HE6.out HU6.out).mono ?_
            rintro e w7 ⟨rfl, hb7⟩
            have H67 := hid2 (heap_stays H66.out hb7)
            have HO7 := hid2 (heap_stays HO6.out hb7)
            have HFS7 := hid2 (HFS6.out.trans (Fs.below hb7))
            have HF7 := hid2 (HF6.out.below hb7)
            have HT7 := hid2 (HT6.out.below hb7)
            have HR7 := hid2 (HR6.out.below hb7)
            clear hb7
            go_wp2_with fail
            go_meet
            exact ⟨rfl, d, r, n, t, x0, x1, x2, x3, x4, x5, rfl, H67.out, HF7.out.more (by omega), HR7.out.more (by omega), HSM.out, HT7.out, hBt, hn1, hn2, HFS7.out, (Array.getElem?_eq_some_iff.1 H67.out).1, HONE.out⟩
        by_cases hk3 : kind = 3
        · subst hk3
          as_aux_lemma =>
            have KR := hid2 (rtflush_any (n := n) HR1.out (by omega) HONE.out (Fla.sim_ll HSM.out) (Fla.sim_ss HSM.out HF1.out.1))
            have KP : Hid (∀ w', Fla.Fl w' w.heap.size g (2 * k) d → Calls Tryz.prog 18 #[.pointer (some ⟨g, 0, none⟩)] w' fun e w'' => ∃ v, e = .returned v ∧ Fla.Fault w'' v (Fla.flushP d).2 ∧ Fla.Fl w'' w.heap.size g (2 * k + 1) (Fla.flushP d).1 ∧ Fla.Fr w.heap.size w' w'') := fun w' a1 => Fla.flush_any a1 (by omega)
            have hst := HSM.out.flush HF1.out.1
            generalize Fla.flushP d = td at *
            generalize Fla.rflush r = tr at *
            obtain ⟨d', c'⟩ := td
            obtain ⟨r', c2⟩ := tr
            obtain ⟨hsm, hq⟩ := hst
            dsimp only at hq
            subst hq
            dsimp only at KR KP hsm
            obtain ⟨⟨p0, p1, p2, p3, p4, p5, p6⟩, pf⟩ := seven H61.out
            go_wp2_with fail
            refine (show Calls _ _ _ _ _ from KR.out).mono ?_
            rintro e w2 ⟨z0, z1, z2, z3, z4, z5, rfl, hone, hr2, hb2⟩
            have HZ := hid2 hone
            have HR2 := hid2 hr2
            have H62 := hid2 (heap_stays H61.out hb2)
            have HO2 := hid2 (heap_stays HO1.out hb2)
            have HFS2 := hid2 (HFS1.out.trans (Fs.below hb2))
            have HF2 := hid2 (HF1.out.below hb2)
            have HT2 := hid2 (HT1.out.below hb2)
            clear hone hr2 hb2 p0 p1 p2 p3 p4 p5 p6 pf
            go_wp2_with (refine st38 rfl (.tmp 6) (.tmp 159) rfl b6 rfl _ _ _ _ _ _ _ _ H62.out rfl rfl HZ.out rfl ?_; intro w3 hz3 hg3; have H63 := hid2 hz3; have HO3 := hid2 (Fla.heap_grown HO2.out hg3 (by intro e; have := Option.some.inj e; omega)); have HFS3 := hid2 (HFS2.out.local hg3 hb6); have HR3 := hid2 (rf_boxT HR2.out H62.out hg3); have HF3 := hid2 (Fl_boxT HF2.out H62.out hg3); have HT3 : Hid (Tk _ t g n) := Fla.heap_grown HT2.out hg3 (by intro e; exact hte (Option.some.inj e)); clear hz3 hg3; obtain ⟨⟨k0, k1⟩, kf⟩ := HT3.out.cells)
            refine (show Calls _ _ _ _ _ from KP.out _ HF3.out).mono ?_
            rintro e w4 ⟨u, rfl, hu, hf4, hfr4⟩
            have hfs4 := Fs.of hfr4
            have H64 := hid2 ((hfs4.stat _ _ _ _ H63.out (by decide) (by decide) (by decide)).trans H63.out)
            have HO4 := hid2 ((hfs4.stat _ _ _ _ HO3.out (by decide) (by decide) (by decide)).trans HO3.out)
            have HR4 := hid2 (rf_fs HR3.out hfs4)
            have HFS4 := hid2 (HFS3.out.trans hfs4)
            have HF4 := hid2 hf4
            have HT4 := hid2 (HT3.out.fr hfr4)
            have HE4 := hid2 (HE.out.fs HFS4.out h0)
            have HU := hid2 (FltN.of_fla hu)
            clear hu hf4 hfr4 hfs4 k0 k1 kf
            go_wp2_with fail
            refine (of_n (by omega) HE4.out HU.out).mono ?_
            rintro e w5 ⟨rfl, hb5⟩
            have H65 := hid2 (heap_stays H64.out hb5)
            have HO5 := hid2 (heap_stays HO4.out hb5)
            have HFS5 := hid2 (HFS4.out.trans (Fs.below hb5))
            have HF5 := hid2 (HF4.out.below hb5)
            have HT5 := hid2 (HT4.out.below hb5)
            have HR5 := hid2 (HR4.out.below hb5)
            clear hb5
            go_wp2_with fail
            go_meet
            exact ⟨rfl, d', r', n, t, z0, z1, z2, z3, z4, z5, rfl, H65.out, HF5.out.more (by omega), HR5.out.more (by omega), hsm, HT5.out, hBt, hn1, hn2, HFS5.out, (Array.getElem?_eq_some_iff.1 H65.out).1, HZ.out⟩
        by_cases hk4 : kind = 4
        · subst hk4
          as_aux_lemma =>
            obtain ⟨⟨o0, o1, o2, o3, o4⟩, of⟩ := five HO1.out
            go_wp2_with fail
            refine (Fla.crash_any HF1.out (by omega) (klow_kat HKL.out (HFS1.out.toBelow (Nat.le_refl _)))).mono ?_
            rintro e w2 ⟨rfl, hf2, hfr2⟩
            have hfs2 := Fs.of hfr2
            have H62 := hid2 ((hfs2.stat _ _ _ _ H61.out (by decide) (by decide) (by decide)).trans H61.out)
            have HO2 := hid2 ((hfs2.stat _ _ _ _ HO1.out (by decide) (by decide) (by decide)).trans HO1.out)
            have HR2 := hid2 (rf_fs HR1.out hfs2)
            have HFS2 := hid2 (HFS1.out.trans hfs2)
            have HF2 := hid2 hf2
            have HT2 := hid2 (HT1.out.fr hfr2)
            have hsm := HSM.out.crash HF1.out.1 keep
            have hll := Fla.sim_ll HSM.out
            have hss := Fla.sim_ss HSM.out HF1.out.1
            clear hf2 hfr2 hfs2 o0 o1 o2 o3 o4 of
            obtain ⟨⟨o0, o1, o2, o3, o4⟩, of⟩ := five HO2.out
            obtain ⟨⟨p0, p1, p2, p3, p4, p5, p6⟩, pf⟩ := seven H62.out
            go_wp2_with fail
            refine (Fla.rcrash_any HR2.out (by omega) (klow_kat HKL.out (HFS2.out.toBelow (Nat.le_refl _))) hll hss).mono ?_
            rintro e w3 ⟨z0, z1, z2, z3, z4, z5, rfl, hone, hr3, hb3⟩
            have HZ := hid2 hone
            have H63 := hid2 (heap_stays H62.out hb3)
            have HO3 := hid2 (heap_stays HO2.out hb3)
            have HFS3 := hid2 (HFS2.out.trans (Fs.below hb3))
            have HF3 := hid2 (HF2.out.below hb3)
            have HT3 := hid2 (HT2.out.below hb3)
            have hdok := HF3.out.1
            have hall : Fla.rall (Fla.rcrash r keep) = Fla.allP (Fla.crashP d keep) := hsm.all hdok
            clear hone hb3 hll hss o0 o1 o2 o3 o4 of p0 p1 p2 p3 p4 p5 p6 pf
            have KO := ropen_any hr3 (by rw [hsm.pages]; exact hdok.pages1) (by rw [hsm.pages]; exact hdok.pages0) rfl (by rw [hall]; exact all_page hdok) HZ.out
            rw [hall] at KO
            have KO := hid2 KO
            have HR3 := hid2 hr3
            have hnx1 := nextL_one (Fla.allP (Fla.crashP d keep))
            have hnx2 := nextL_le (Fla.allP (Fla.crashP d keep))
            have HDN : Hid ((Fla.crashP d keep).down = false) := rfl
            clear hr3 hall hdok
            generalize Fla.crashP d keep = d' at *
            generalize Fla.rcrash r keep = r' at *
            generalize hnn : nextL (Fla.allP d') = n' at *
            go_wp2_with fail
            refine (show Calls _ _ _ _ _ from KO.out).mono ?_
            rintro e w4 ⟨rfl, hb4⟩
            have H64 := hid2 (heap_stays H63.out hb4)
            have HO4 := hid2 (heap_stays HO3.out hb4)
            have HFS4 := hid2 (HFS3.out.trans (Fs.below hb4))
            have HF4 := hid2 (HF3.out.below hb4)
            have HT4 := hid2 (HT3.out.below hb4)
            have HR4 := hid2 (HR3.out.below hb4)
            clear hb4
            go_wp2_with (refine st38 rfl (.tmp 6) (.tmp 182) rfl b6 rfl _ _ _ _ _ _ _ _ H64.out rfl rfl HZ.out rfl ?_; intro w5 hz5 hg5; have H65 := hid2 hz5; have HO5 := hid2 (Fla.heap_grown HO4.out hg5 (by intro e; have := Option.some.inj e; omega)); have HFS5 := hid2 (HFS4.out.local hg5 hb6); have HR5 := hid2 (rf_boxT HR4.out H64.out hg5); have HF5 := hid2 (Fl_boxT HF4.out H64.out hg5); have HT5 : Hid (Tk _ t g n) := Fla.heap_grown HT4.out hg5 (by intro e; exact hte (Option.some.inj e)); clear hz5 hg5)
            refine (open_good HF5.out (by omega) HDN.out).mono ?_
            rintro e w6 ⟨t', rfl, ht', hT6, hb6'⟩
            rw [hnn] at hT6
            have H66 := hid2 (heap_stays H65.out hb6')
            have HO6 := hid2 (heap_stays HO5.out hb6')
            have HFS6 := hid2 (HFS5.out.trans (Fs.below hb6'))
            have HR6 := hid2 (HR5.out.below hb6')
            have HF6 := hid2 (HF5.out.below hb6')
            have HT6 := hid2 hT6
            have HE6 := hid2 (HE.out.fs HFS6.out h0)
            have hBt' : w.heap.size ≤ t' := Nat.le_trans (Nat.le_trans HFS5.out.size (Nat.le_refl _)) ht'
            clear hb6' hT6
            go_wp2_with fail
            refine (of_n (k := 12) (by omega) HE6.out (FltN.nil _ _)).mono ?_
            rintro e w7 ⟨rfl, hb7⟩
            have H67 := hid2 (heap_stays H66.out hb7)
            have HO7 := hid2 (heap_stays HO6.out hb7)
            have HFS7 := hid2 (HFS6.out.trans (Fs.below hb7))
            have HF7 := hid2 (HF6.out.below hb7)
            have HT7 := hid2 (HT6.out.below hb7)
            have HR7 := hid2 (HR6.out.below hb7)
            clear hb7
            go_wp2_with fail
            go_meet
            exact ⟨rfl, d', r', n', t', z0, z1, z2, z3, z4, z5, rfl, H67.out, HF7.out.more (by omega), HR7.out.more (by omega), hsm, HT7.out, hBt', hnx1, hnx2, HFS7.out, (Array.getElem?_eq_some_iff.1 H67.out).1, HZ.out⟩
        by_cases hk5 : kind = 5
        · subst hk5
          as_aux_lemma =>
            go_wp2_with fail
            have hdr : Below w1.heap.size w1 (World.drew w1) := (Below.refl _ _).drew
            have H62 := hid2 (heap_stays H61.out hdr)
            have HO2 := hid2 (heap_stays HO1.out hdr)
            have HFS2 := hid2 (HFS1.out.trans (Fs.below hdr))
            have HF2 := hid2 (HF1.out.below hdr)
            have HT2 := hid2 (HT1.out.below hdr)
            have HR2 := hid2 (HR1.out.below hdr)
            have k0' := HT2.out.cells.1.1
            have o1' := (five HO2.out).1.2.1
            refine wp_region_held_drew (S := fun W => W.cell? ⟨t, 0, none⟩ = some (.pointer (some ⟨g, 0, none⟩)) ∧ W.cell? ⟨bo, 1, none⟩ = some (.int .i64 at_)) (by kernel_rfl) (⟨k0', o1'⟩) (fun hS => ?_)
            change wpAnyH _ _ _ _ _ _ _ _ (World.drew _)
            refine wpAnyH_take (i := 0) (v := .pointer (some ⟨t, 0, none⟩)) rfl (by kernel_rfl) (by kernel_rfl) (by kernel_rfl) (fun _ _ _ h => h) (Or.inl ⟨by kernel_rfl, ?_⟩) hS ?_
            · intro w hw; clear hw; go_simp
            change wpAnyH _ _ _ _ _ _ _ (Act.put _ (some 200) _) _
            simp only [Act.put, List.setIfInBounds_toArray, List.set_cons_succ, List.set_cons_zero]
            refine wpAnyH_take (i := 1) (v := .pointer (some ⟨t, 0, none⟩)) rfl (by kernel_rfl) (by kernel_rfl) (by kernel_rfl) (fun _ _ _ h => h) (Or.inl ⟨by kernel_rfl, ?_⟩) hS ?_
            · intro w hw; clear hw; go_simp
            change wpAnyH _ _ _ _ _ _ _ (Act.put _ (some 201) _) _
            simp only [Act.put, List.setIfInBounds_toArray, List.set_cons_succ, List.set_cons_zero]
            refine wpAnyH_take (i := 2) (v := .pointer (some ⟨t, 0, none⟩)) rfl (by kernel_rfl) (by kernel_rfl) (by kernel_rfl) (fun _ _ _ h => h) (Or.inl ⟨by kernel_rfl, ?_⟩) hS ?_
            · intro w hw; clear hw; go_simp
            change wpAnyH _ _ _ _ _ _ _ (Act.put _ (some 202) _) _
            simp only [Act.put, List.setIfInBounds_toArray, List.set_cons_succ, List.set_cons_zero]
            refine wpAnyH_take (i := 3) (v := .pointer (some ⟨g, 0, none⟩)) rfl (by kernel_rfl) (by kernel_rfl) (by kernel_rfl) (fun _ _ _ h => h) (Or.inl ⟨by kernel_rfl, ?_⟩) hS ?_
            · intro w hw
              obtain ⟨q1, q2⟩ := hw
              go_simp
            change wpAnyH _ _ _ _ _ _ _ (Act.put _ (some 203) _) _
            simp only [Act.put, List.setIfInBounds_toArray, List.set_cons_succ, List.set_cons_zero]
            refine wpAnyH_take (i := 4) (v := .pointer (some ⟨bo, 1, none⟩)) rfl (by kernel_rfl) (by kernel_rfl) (by kernel_rfl) (fun _ _ _ h => h) (Or.inl ⟨by kernel_rfl, ?_⟩) hS ?_
            · intro w hw; clear hw; go_simp
            change wpAnyH _ _ _ _ _ _ _ (Act.put _ (some 204) _) _
            simp only [Act.put, List.setIfInBounds_toArray, List.set_cons_succ, List.set_cons_zero]
            refine wpAnyH_take (i := 5) (v := .int .i64 at_) rfl (by kernel_rfl) (by kernel_rfl) (by kernel_rfl) (fun _ _ _ h => h) (Or.inl ⟨by kernel_rfl, ?_⟩) hS ?_
            · intro w hw
              obtain ⟨q1, q2⟩ := hw
              go_simp
            change wpAnyH _ _ _ _ _ _ _ (Act.put _ (some 205) _) _
            simp only [Act.put, List.setIfInBounds_toArray, List.set_cons_succ, List.set_cons_zero]
            refine wpAnyH_ready (rs := [6]) (by kernel_rfl) (by simp) ?_
            refine AllReadyH.cons rfl (fun K hK => ?_) AllReadyH.nil
            go_simp
            go_wp2_with fail
            refine (Fla.fuse_fl HF2.out at_ HAT.out.1 HAT.out.2).mono ?_
            rintro e w3 ⟨rfl, hf3, hfr3⟩
            have hfs3 := Fs.of hfr3
            have H63 := hid2 ((hfs3.stat _ _ _ _ H62.out (by decide) (by decide) (by decide)).trans H62.out)
            have HO3 := hid2 ((hfs3.stat _ _ _ _ HO2.out (by decide) (by decide) (by decide)).trans HO2.out)
            have HR3 := hid2 (rf_fs HR2.out hfs3)
            have HFS3 := hid2 (HFS2.out.trans hfs3)
            have HF3 := hid2 hf3
            have HT3 := hid2 (HT2.out.fr hfr3)
            clear hf3 hfr3 hfs3
            refine hK.out _ _ (⟨HT3.out.cells.1.1, (five HO3.out).1.2.1⟩) (fun hS => ?_)
            clear hK K
            skip
            refine wpAnyH_done (by kernel_rfl) ?_ _
            have hsm := HSM.out.setFuse at_
            obtain ⟨⟨o0, o1, o2, o3, o4⟩, of⟩ := five HO3.out
            obtain ⟨⟨p0, p1, p2, p3, p4, p5, p6⟩, pf⟩ := seven H63.out
            go_wp2_with fail
            refine (Fla.rfuse_rf HR3.out at_ HAT.out.1 HAT.out.2).mono ?_
            rintro e w4 ⟨z0, z1, z2, z3, z4, z5, rfl, hone, hr4, hb4⟩
            have HZ := hid2 hone
            have H64 := hid2 (heap_stays H63.out hb4)
            have HO4 := hid2 (heap_stays HO3.out hb4)
            have HFS4 := hid2 (HFS3.out.trans (Fs.below hb4))
            have HF4 := hid2 (HF3.out.below hb4)
            have HT4 := hid2 (HT3.out.below hb4)
            clear hone hb4 o0 o1 o2 o3 o4 of p0 p1 p2 p3 p4 p5 p6 pf
            go_wp2_with (refine st36in rfl (.tmp 212) (.tmp 211) rfl b6 rfl _ _ _ _ _ _ _ _ _ _ _ _ _ H64.out rfl HZ.out ?_; intro w5 hz5 hg5; have H65 := hid2 hz5; have HO5 := hid2 (Fla.heap_grown HO4.out hg5 (by intro e; have := Option.some.inj e; omega)); have HFS5 := hid2 (HFS4.out.local hg5 hb6); have HR5 := hid2 (rf_boxT hr4 H64.out hg5); have HF5 := hid2 (Fl_boxT HF4.out H64.out hg5); have HT5 : Hid (Tk _ t g n) := Fla.heap_grown HT4.out hg5 (by intro e; exact hte (Option.some.inj e)); clear hz5 hg5)
            go_meet
            exact ⟨rfl, (Fla.fuseP d at_), (Fla.rfuse r at_), n, t, z0, z1, z2, z3, z4, z5, rfl, H65.out, HF5.out.more (by omega), HR5.out.more (by omega), hsm, HT5.out, hBt, hn1, hn2, HFS5.out, (Array.getElem?_eq_some_iff.1 H65.out).1, HZ.out⟩
        have e0 : (kind == 0) = false := by simpa using hk0
        have e1 : (kind == 1) = false := by simpa using hk1
        have e2 : (kind == 2) = false := by simpa using hk2
        have e3 : (kind == 3) = false := by simpa using hk3
        have e4 : (kind == 4) = false := by simpa using hk4
        have e5 : (kind == 5) = false := by simpa using hk5
        clear hk0 hk1 hk2 hk3 hk4 hk5
        as_aux_lemma =>
          have KR := hid2 (rttrim_any (n := n) HR1.out (by omega) HONE.out at_)
          have KP : Hid (∀ w', Fla.Fl w' w.heap.size g (2 * k) d → Calls Tryz.prog 24 #[.pointer (some ⟨g, 0, none⟩), .int .i64 at_] w' fun e w'' => ∃ v, e = .returned v ∧ Fla.Fault w'' v (Fla.trimP d at_).2 ∧ Fla.Fl w'' w.heap.size g (2 * k + 1) (Fla.trimP d at_).1 ∧ Fla.Fr w.heap.size w' w'') := fun w' a1 => Fla.trim_any a1 (by omega) at_
          have hst := HSM.out.trim at_
          generalize Fla.trimP d at_ = td at *
          generalize Fla.rtrim r at_ = tr at *
          obtain ⟨d', c'⟩ := td
          obtain ⟨r', c2⟩ := tr
          obtain ⟨hsm, hq⟩ := hst
          dsimp only at hq
          subst hq
          dsimp only at KR KP hsm
          obtain ⟨⟨o0, o1, o2, o3, o4⟩, of⟩ := five HO1.out
          obtain ⟨⟨p0, p1, p2, p3, p4, p5, p6⟩, pf⟩ := seven H61.out
          go_wp2_with fail
          refine (show Calls _ _ _ _ _ from KR.out).mono ?_
          rintro e w2 ⟨z0, z1, z2, z3, z4, z5, rfl, hone, hr2, hb2⟩
          have HZ := hid2 hone
          have HR2 := hid2 hr2
          have H62 := hid2 (heap_stays H61.out hb2)
          have HO2 := hid2 (heap_stays HO1.out hb2)
          have HFS2 := hid2 (HFS1.out.trans (Fs.below hb2))
          have HF2 := hid2 (HF1.out.below hb2)
          have HT2 := hid2 (HT1.out.below hb2)
          clear hone hr2 hb2 p0 p1 p2 p3 p4 p5 p6 pf o0 o1 o2 o3 o4 of
          go_wp2_with (refine st38 rfl (.tmp 6) (.tmp 65) rfl b6 rfl _ _ _ _ _ _ _ _ H62.out rfl rfl HZ.out rfl ?_; intro w3 hz3 hg3; have H63 := hid2 hz3; have HO3 := hid2 (Fla.heap_grown HO2.out hg3 (by intro e; have := Option.some.inj e; omega)); have HFS3 := hid2 (HFS2.out.local hg3 hb6); have HR3 := hid2 (rf_boxT HR2.out H62.out hg3); have HF3 := hid2 (Fl_boxT HF2.out H62.out hg3); have HT3 : Hid (Tk _ t g n) := Fla.heap_grown HT2.out hg3 (by intro e; exact hte (Option.some.inj e)); clear hz3 hg3)
          have hdr : Below w3.heap.size w3 (World.drew w3) := (Below.refl _ _).drew
          have H64 := hid2 (heap_stays H63.out hdr)
          have HO4 := hid2 (heap_stays HO3.out hdr)
          have HFS4 := hid2 (HFS3.out.trans (Fs.below hdr))
          have HF4 := hid2 (HF3.out.below hdr)
          have HT4 := hid2 (HT3.out.below hdr)
          have HR4 := hid2 (HR3.out.below hdr)
          have k0' := HT4.out.cells.1.1
          have o1' := (five HO4.out).1.2.1
          refine wp_region_held_drew (S := fun W => W.cell? ⟨t, 0, none⟩ = some (.pointer (some ⟨g, 0, none⟩)) ∧ W.cell? ⟨bo, 1, none⟩ = some (.int .i64 at_)) (by kernel_rfl) (⟨k0', o1'⟩) (fun hS => ?_)
          change wpAnyH _ _ _ _ _ _ _ _ (World.drew _)
          refine wpAnyH_take (i := 0) (v := .pointer (some ⟨t, 0, none⟩)) rfl (by kernel_rfl) (by kernel_rfl) (by kernel_rfl) (fun _ _ _ h => h) (Or.inl ⟨by kernel_rfl, ?_⟩) hS ?_
          · intro w hw; clear hw; go_simp
          change wpAnyH _ _ _ _ _ _ _ (Act.put _ (some 67) _) _
          simp only [Act.put, List.setIfInBounds_toArray, List.set_cons_succ, List.set_cons_zero]
          refine wpAnyH_take (i := 1) (v := .pointer (some ⟨t, 0, none⟩)) rfl (by kernel_rfl) (by kernel_rfl) (by kernel_rfl) (fun _ _ _ h => h) (Or.inl ⟨by kernel_rfl, ?_⟩) hS ?_
          · intro w hw; clear hw; go_simp
          change wpAnyH _ _ _ _ _ _ _ (Act.put _ (some 68) _) _
          simp only [Act.put, List.setIfInBounds_toArray, List.set_cons_succ, List.set_cons_zero]
          refine wpAnyH_take (i := 2) (v := .pointer (some ⟨t, 0, none⟩)) rfl (by kernel_rfl) (by kernel_rfl) (by kernel_rfl) (fun _ _ _ h => h) (Or.inl ⟨by kernel_rfl, ?_⟩) hS ?_
          · intro w hw; clear hw; go_simp
          change wpAnyH _ _ _ _ _ _ _ (Act.put _ (some 69) _) _
          simp only [Act.put, List.setIfInBounds_toArray, List.set_cons_succ, List.set_cons_zero]
          refine wpAnyH_take (i := 3) (v := .pointer (some ⟨g, 0, none⟩)) rfl (by kernel_rfl) (by kernel_rfl) (by kernel_rfl) (fun _ _ _ h => h) (Or.inl ⟨by kernel_rfl, ?_⟩) hS ?_
          · intro w hw
            obtain ⟨q1, q2⟩ := hw
            go_simp
          change wpAnyH _ _ _ _ _ _ _ (Act.put _ (some 70) _) _
          simp only [Act.put, List.setIfInBounds_toArray, List.set_cons_succ, List.set_cons_zero]
          refine wpAnyH_take (i := 4) (v := .pointer (some ⟨bo, 1, none⟩)) rfl (by kernel_rfl) (by kernel_rfl) (by kernel_rfl) (fun _ _ _ h => h) (Or.inl ⟨by kernel_rfl, ?_⟩) hS ?_
          · intro w hw; clear hw; go_simp
          change wpAnyH _ _ _ _ _ _ _ (Act.put _ (some 71) _) _
          simp only [Act.put, List.setIfInBounds_toArray, List.set_cons_succ, List.set_cons_zero]
          refine wpAnyH_take (i := 5) (v := .int .i64 at_) rfl (by kernel_rfl) (by kernel_rfl) (by kernel_rfl) (fun _ _ _ h => h) (Or.inl ⟨by kernel_rfl, ?_⟩) hS ?_
          · intro w hw
            obtain ⟨q1, q2⟩ := hw
            go_simp
          change wpAnyH _ _ _ _ _ _ _ (Act.put _ (some 72) _) _
          simp only [Act.put, List.setIfInBounds_toArray, List.set_cons_succ, List.set_cons_zero]
          refine wpAnyH_take (i := 8) (v := .int .i64 c') rfl (by kernel_rfl) (by kernel_rfl) (by kernel_rfl) (fun _ _ _ h => h) (Or.inl ⟨by kernel_rfl, ?_⟩) hS ?_
          · intro w hw; clear hw; go_simp
          change wpAnyH _ _ _ _ _ _ _ (Act.put _ (some 75) _) _
          simp only [Act.put, List.setIfInBounds_toArray, List.set_cons_succ, List.set_cons_zero]
          refine wpAnyH_ready (rs := [6]) (by kernel_rfl) (by simp) ?_
          refine AllReadyH.cons rfl (fun K hK => ?_) AllReadyH.nil
          go_simp
          go_wp2_with fail
          refine (show Calls _ _ _ _ _ from KP.out _ HF4.out).mono ?_
          rintro e w5 ⟨u, rfl, hu, hf5, hfr5⟩
          have hfs5 := Fs.of hfr5
          have H65 := hid2 ((hfs5.stat _ _ _ _ H64.out (by decide) (by decide) (by decide)).trans H64.out)
          have HO5 := hid2 ((hfs5.stat _ _ _ _ HO4.out (by decide) (by decide) (by decide)).trans HO4.out)
          have HR5 := hid2 (rf_fs HR4.out hfs5)
          have HFS5 := hid2 (HFS4.out.trans hfs5)
          have HF5 := hid2 hf5
          have HT5 := hid2 (HT4.out.fr hfr5)
          have HE5 := hid2 (HE.out.fs HFS5.out h0)
          have HU := hid2 (FltN.of_fla hu)
          clear hu hf5 hfr5 hfs5
          refine hK.out _ _ (⟨HT5.out.cells.1.1, (five HO5.out).1.2.1⟩) (fun hS => ?_)
          clear hK K
          skip
          refine wpAnyH_ready (rs := [7]) (by kernel_rfl) (by simp) ?_
          refine AllReadyH.cons rfl (fun K hK => ?_) AllReadyH.nil
          go_simp
          go_wp2_with fail
          refine (of_n (by omega) HE5.out HU.out).mono ?_
          rintro e w6 ⟨rfl, hb6'⟩
          have H66 := hid2 (heap_stays H65.out hb6')
          have HO6 := hid2 (heap_stays HO5.out hb6')
          have HFS6 := hid2 (HFS5.out.trans (Fs.below hb6'))
          have HF6 := hid2 (HF5.out.below hb6')
          have HT6 := hid2 (HT5.out.below hb6')
          have HR6 := hid2 (HR5.out.below hb6')
          clear hb6'
          refine hK.out _ _ (⟨HT6.out.cells.1.1, (five HO6.out).1.2.1⟩) (fun hS => ?_)
          clear hK K
          skip
          refine wpAnyH_take (i := 9) (v := .bool true) rfl (by kernel_rfl) (by kernel_rfl) (by kernel_rfl) (fun _ _ _ h => h) (Or.inl ⟨by kernel_rfl, ?_⟩) hS ?_
          · intro w hw; clear hw; go_simp
          change wpAnyH _ _ _ _ _ _ _ (Act.put _ (some 76) _) _
          simp only [Act.put, List.setIfInBounds_toArray, List.set_cons_succ, List.set_cons_zero]
          refine wpAnyH_take (i := 10) (v := .bool true) rfl (by kernel_rfl) (by kernel_rfl) (by kernel_rfl) (fun _ _ _ h => h) (Or.inl ⟨by kernel_rfl, ?_⟩) hS ?_
          · intro w hw; clear hw; go_simp
          change wpAnyH _ _ _ _ _ _ _ (Act.put _ (some 11) _) _
          simp only [Act.put, List.setIfInBounds_toArray, List.set_cons_succ, List.set_cons_zero]
          refine wpAnyH_done (by kernel_rfl) ?_ _
          go_wp2_with fail
          go_meet
          exact ⟨rfl, d', r', n, t, z0, z1, z2, z3, z4, z5, rfl, H66.out, HF6.out.more (by omega), HR6.out.more (by omega), hsm, HT6.out, hBt, hn1, hn2, HFS6.out, (Array.getElem?_eq_some_iff.1 H66.out).1, HZ.out⟩
      case rest =>
        as_aux_lemma =>
          obtain ⟨rfl, d, r, n, t, x0, x1, x2, x3, x4, x5, rfl, h6, hF, hR, hS, hT, hBt, hn1, hn2, hfs, hb6l, hone⟩ := hcut
          have H6 := hid2 h6
          have HF := hid2 (hF)
          have HR := hid2 (hR)
          have HSM := hid2 hS
          have HT := hid2 hT
          have HFS := hid2 hfs
          have HONE := hid2 hone
          clear h6 hF hR hS hT hfs hone
          go_wp2_with fail
          refine wp_region_held_drew (S := fun W => Below wc.heap.size wc W) (by kernel_rfl) ((Below.refl _ _).drew) (fun hS => ?_)
          change wpAnyH _ _ _ _ _ _ _ _ (World.drew _)
          refine wpAnyH_take (i := 0) (v := .bool true) rfl (by kernel_rfl) (by kernel_rfl) (by kernel_rfl) (fun _ _ _ h => h) (Or.inl ⟨by kernel_rfl, ?_⟩) hS ?_
          · intro w hw; clear hw; go_simp
          change wpAnyH _ _ _ _ _ _ _ (Act.put _ (some 213) _) _
          simp only [Act.put, List.setIfInBounds_toArray, List.set_cons_succ, List.set_cons_zero]
          refine wpAnyH_take (i := 1) (v := .bool false) rfl (by kernel_rfl) (by kernel_rfl) (by kernel_rfl) (fun _ _ _ h => h) (Or.inl ⟨by kernel_rfl, ?_⟩) hS ?_
          · intro w hw; clear hw; go_simp
          change wpAnyH _ _ _ _ _ _ _ (Act.put _ (some 214) _) _
          simp only [Act.put, List.setIfInBounds_toArray, List.set_cons_succ, List.set_cons_zero]
          refine wpAnyH_take (i := 2) (v := .bool false) rfl (by kernel_rfl) (by kernel_rfl) (by kernel_rfl) (fun _ _ _ h => h) (Or.inl ⟨by kernel_rfl, ?_⟩) hS ?_
          · intro w hw; clear hw; go_simp
          change wpAnyH _ _ _ _ _ _ _ (Act.put _ (some 215) _) _
          simp only [Act.put, List.setIfInBounds_toArray, List.set_cons_succ, List.set_cons_zero]
          refine wpAnyH_take (i := 3) (v := .pointer (some ⟨t, 0, none⟩)) rfl (by kernel_rfl) (by kernel_rfl) (by kernel_rfl) (fun _ _ _ h => h) (Or.inl ⟨by kernel_rfl, ?_⟩) hS ?_
          · intro w hw; clear hw; go_simp
          change wpAnyH _ _ _ _ _ _ _ (Act.put _ (some 216) _) _
          simp only [Act.put, List.setIfInBounds_toArray, List.set_cons_succ, List.set_cons_zero]
          refine wpAnyH_take (i := 5) (v := .pointer (some ⟨b6, 6, none⟩)) rfl (by kernel_rfl) (by kernel_rfl) (by kernel_rfl) (fun _ _ _ h => h) (Or.inl ⟨by kernel_rfl, ?_⟩) hS ?_
          · intro w hw; clear hw; go_simp
          change wpAnyH _ _ _ _ _ _ _ (Act.put _ (some 218) _) _
          simp only [Act.put, List.setIfInBounds_toArray, List.set_cons_succ, List.set_cons_zero]
          refine wpAnyH_take (i := 6) (v := .int .i64 n) rfl (by kernel_rfl) (by kernel_rfl) (by kernel_rfl) (fun _ _ _ h => h) (Or.inl ⟨by kernel_rfl, ?_⟩) hS ?_
          · intro w hw
            have h6 := heap_stays H6.out hw
            obtain ⟨⟨p0, p1, p2, p3, p4, p5, p6⟩, _⟩ := seven h6
            clear hw h6
            go_simp
          change wpAnyH _ _ _ _ _ _ _ (Act.put _ (some 219) _) _
          simp only [Act.put, List.setIfInBounds_toArray, List.set_cons_succ, List.set_cons_zero]
          refine wpAnyH_ready (rs := [4]) (by kernel_rfl) (by simp) ?_
          refine AllReadyH.cons rfl (fun K hK => ?_) AllReadyH.nil
          go_simp
          go_wp2_with fail
          refine (next_any (HT.out.below hS)).mono ?_
          rintro e wn ⟨rfl, hwn⟩
          subst hwn
          refine hK.out _ _ (hS) (fun hS => ?_)
          clear hK K
          skip
          refine wpAnyH_take (i := 7) (v := .bool false) rfl (by kernel_rfl) (by kernel_rfl) (by kernel_rfl) (fun _ _ _ h => h) (Or.inl ⟨by kernel_rfl, ?_⟩) hS ?_
          · intro w hw; clear hw; go_simp
          change wpAnyH _ _ _ _ _ _ _ (Act.put _ (some 220) _) _
          simp only [Act.put, List.setIfInBounds_toArray, List.set_cons_succ, List.set_cons_zero]
          refine wpAnyH_take (i := 8) (v := .bool false) rfl (by kernel_rfl) (by kernel_rfl) (by kernel_rfl) (fun _ _ _ h => h) (Or.inl ⟨by kernel_rfl, ?_⟩) hS ?_
          · intro w hw; clear hw; go_simp
          change wpAnyH _ _ _ _ _ _ _ (Act.put _ (some 221) _) _
          simp only [Act.put, List.setIfInBounds_toArray, List.set_cons_succ, List.set_cons_zero]
          refine wpAnyH_take (i := 9) (v := .bool false) rfl (by kernel_rfl) (by kernel_rfl) (by kernel_rfl) (fun _ _ _ h => h) (Or.inl ⟨by kernel_rfl, ?_⟩) hS ?_
          · intro w hw; clear hw; go_simp
          change wpAnyH _ _ _ _ _ _ _ (Act.put _ (some 222) _) _
          simp only [Act.put, List.setIfInBounds_toArray, List.set_cons_succ, List.set_cons_zero]
          refine wpAnyH_take (i := 10) (v := .pointer (some ⟨t, 0, none⟩)) rfl (by kernel_rfl) (by kernel_rfl) (by kernel_rfl) (fun _ _ _ h => h) (Or.inl ⟨by kernel_rfl, ?_⟩) hS ?_
          · intro w hw; clear hw; go_simp
          change wpAnyH _ _ _ _ _ _ _ (Act.put _ (some 223) _) _
          simp only [Act.put, List.setIfInBounds_toArray, List.set_cons_succ, List.set_cons_zero]
          refine wpAnyH_take (i := 11) (v := .pointer (some ⟨t, 0, none⟩)) rfl (by kernel_rfl) (by kernel_rfl) (by kernel_rfl) (fun _ _ _ h => h) (Or.inl ⟨by kernel_rfl, ?_⟩) hS ?_
          · intro w hw; clear hw; go_simp
          change wpAnyH _ _ _ _ _ _ _ (Act.put _ (some 224) _) _
          simp only [Act.put, List.setIfInBounds_toArray, List.set_cons_succ, List.set_cons_zero]
          refine wpAnyH_take (i := 12) (v := .pointer (some ⟨t, 0, none⟩)) rfl (by kernel_rfl) (by kernel_rfl) (by kernel_rfl) (fun _ _ _ h => h) (Or.inl ⟨by kernel_rfl, ?_⟩) hS ?_
          · intro w hw; clear hw; go_simp
          change wpAnyH _ _ _ _ _ _ _ (Act.put _ (some 225) _) _
          simp only [Act.put, List.setIfInBounds_toArray, List.set_cons_succ, List.set_cons_zero]
          refine wpAnyH_take (i := 13) (v := .pointer (some ⟨g, 0, none⟩)) rfl (by kernel_rfl) (by kernel_rfl) (by kernel_rfl) (fun _ _ _ h => h) (Or.inl ⟨by kernel_rfl, ?_⟩) hS ?_
          · intro w hw
            have h6 := (HT.out.below hw).cells.1.1
            clear hw
            go_simp
          change wpAnyH _ _ _ _ _ _ _ (Act.put _ (some 226) _) _
          simp only [Act.put, List.setIfInBounds_toArray, List.set_cons_succ, List.set_cons_zero]
          refine wpAnyH_take (i := 15) (v := .pointer (some ⟨b6, 0, none⟩)) rfl (by kernel_rfl) (by kernel_rfl) (by kernel_rfl) (fun _ _ _ h => h) (Or.inl ⟨by kernel_rfl, ?_⟩) hS ?_
          · intro w hw; clear hw; go_simp
          change wpAnyH _ _ _ _ _ _ _ (Act.put _ (some 228) _) _
          simp only [Act.put, List.setIfInBounds_toArray, List.set_cons_succ, List.set_cons_zero]
          refine wpAnyH_take (i := 16) (v := .agg #[x0, x1, x2, x3, x4, x5]) rfl (by kernel_rfl) (by kernel_rfl) (by kernel_rfl) (fun _ _ _ h => h) (Or.inl ⟨by kernel_rfl, ?_⟩) hS ?_
          · intro w hw
            have h6 := heap_stays H6.out hw
            obtain ⟨⟨p0, p1, p2, p3, p4, p5, p6⟩, _⟩ := seven h6
            clear hw h6
            go_simp
          change wpAnyH _ _ _ _ _ _ _ (Act.put _ (some 229) _) _
          simp only [Act.put, List.setIfInBounds_toArray, List.set_cons_succ, List.set_cons_zero]
          refine wpAnyH_ready (rs := [14]) (by kernel_rfl) (by simp) ?_
          refine AllReadyH.cons rfl (fun K hK => ?_) AllReadyH.nil
          go_simp
          go_wp2_with fail
          refine (Fla.cells_any (HF.out.below hS) (by omega)).mono ?_
          rintro e wa ⟨va, la, rfl, hca, hla, hba⟩
          refine hK.out _ _ (Below.trans hS (Below.mono hba (Below.size hS))) (fun hS => ?_)
          clear hK K
          skip
          refine wpAnyH_ready (rs := [17]) (by kernel_rfl) (by simp) ?_
          refine AllReadyH.cons rfl (fun K hK => ?_) AllReadyH.nil
          go_simp
          go_wp2_with fail
          refine (Fla.rall_any (HR.out.below hS) (by rw [HSM.out.pages]; exact HF.out.1.pages1) (by rw [HSM.out.pages]; exact HF.out.1.pages0)).mono ?_
          rintro e wb ⟨vb, lb, rfl, hcb, hlb, hbb2⟩
          refine hK.out _ _ (Below.trans hS (Below.mono hbb2 (Below.size hS))) (fun hS => ?_)
          clear hK K
          skip
          refine wpAnyH_ready (rs := [18]) (by kernel_rfl) (by simp) ?_
          refine AllReadyH.cons rfl (fun K hK => ?_) AllReadyH.nil
          go_simp
          go_wp2_with fail
          refine (Fla.same04_any (hca.below hbb2) hcb (by rw [hla, hlb, HSM.out.all HF.out.1]) (fun x hx => (all_page HF.out.1 (x.1, x.2.2) (by rw [← hla]; exact List.mem_map.2 ⟨x, hx, rfl⟩)).1)).mono ?_
          rintro e wc ⟨rfl, hbc⟩
          refine hK.out _ _ (Below.trans hS (Below.mono hbc (Below.size hS))) (fun hS => ?_)
          clear hK K
          skip
          refine wpAnyH_take (i := 19) (v := .bool false) rfl (by kernel_rfl) (by kernel_rfl) (by kernel_rfl) (fun _ _ _ h => h) (Or.inl ⟨by kernel_rfl, ?_⟩) hS ?_
          · intro w hw; clear hw; go_simp
          change wpAnyH _ _ _ _ _ _ _ (Act.put _ (some 232) _) _
          simp only [Act.put, List.setIfInBounds_toArray, List.set_cons_succ, List.set_cons_zero]
          refine wpAnyH_take (i := 20) (v := .bool false) rfl (by kernel_rfl) (by kernel_rfl) (by kernel_rfl) (fun _ _ _ h => h) (Or.inl ⟨by kernel_rfl, ?_⟩) hS ?_
          · intro w hw; clear hw; go_simp
          change wpAnyH _ _ _ _ _ _ _ (Act.put _ (some 233) _) _
          simp only [Act.put, List.setIfInBounds_toArray, List.set_cons_succ, List.set_cons_zero]
          refine wpAnyH_done (by kernel_rfl) ?_ _
          have H6z := hid2 (heap_stays H6.out hS)
          have HFz := hid2 (HF.out.below hS)
          have HRz := hid2 (HR.out.below hS)
          have HTz := hid2 (HT.out.below hS)
          have HFSz := hid2 (HFS.out.trans (Fs.below hS))
          clear hca hcb hba hbb2 hbc hla hlb
          go_wp2_with fail
          go_roundw
          case rel => exact ⟨k + 1, by go_num, by omega, d, r, n, t, x0, x1, x2, x3, x4, x5, rfl, H6z.out, HFz.out, HRz.out, HSM.out, HTz.out, hBt, hn1, hn2, HFSz.out, (Array.getElem?_eq_some_iff.1 H6z.out).1, HONE.out⟩
          case measure => simp [intOf]; omega
    · have hki : ¬ ((k : Int) < (os.length : Int)) := by omega
      have HEW := hid2 (HE.out.fs hfs h0)
      have HFS := hid2 hfs
      clear h6 hF hR hS hT hfs hone
      go_wp2_with fail
      refine (works_any _ HEW.out (by omega)).mono ?_
      rintro e wz ⟨rfl, hbz⟩
      go_wp2
      go_ret
      exact ⟨rfl, (HFS.out.trans (Fs.below hbz)).toBelow (Nat.le_refl _)⟩

set_option maxHeartbeats 4000000 in
set_option maxRecDepth 10000 in
theorem doesT_any {w : World} {v : Value} {os : List ActT} (hA : ActsT w w.heap.size v os) (hE : ErrT w) (h0 : 0 < w.heap.size) :
    Calls Tryz.prog 3 #[v] w fun e w' => e = .returned (.bool true) ∧ Below w.heap.size w w' := by
  by_cases hl : lightT os = true
  · exact doesT_go hA hE h0 hl
  · have HK := lightT_any hA
    rw [Bool.not_eq_true _ |>.mp hl] at HK
    have HK := hid2 HK
    have HE := hid2 hE
    clear hA hE hl
    go_enter Tryz.func3, Tryz.ntmps3
    go_wp2_with fail
    refine (show Calls _ _ _ _ _ from HK).mono ?_
    rintro e wa ⟨rfl, hww⟩
    cases hww
    go_wp2_with fail
    refine (works_any _ HE.out h0).mono ?_
    rintro e wb ⟨rfl, hb⟩
    go_wp2
    go_ret
    exact ⟨rfl, hb⟩
end Go.Proofs.YtkbfihnoohhojaaGreatDoor
