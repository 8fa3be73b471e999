/-
  The walk of the law RamDoes.
-/
import Derived.Test.YtkgecpplgjfhiaaGreatDoorQKMath
import Derived.Deep.DeepCutAuto
namespace Go.Proofs.YtkgecpplgjfhiaaGreatDoor
open Go.RowKit
open Ite (Ent zeroE checkE sizeE)
open Lis (Lst but Tag)
/-- Behind an act, the document's tier in a box of its own. -/
structure LawQ (w : World) (v : Value) (os : List ActR) (B g : Nat) (lim : Int) (bx : Nat) (L : List Ent) (p : Option Addr) (cap qb : Nat) (L' : List Ent) (p' : Option Addr) (cap' k : Nat) (W : World) : Prop where
  t : Tier W B g lim L' k
  es : Es W B (.slice p' L'.length cap') L'
  z : p' = none → cap' = 0
  bx : Two W bx (.int .i64 lim) (.slice p L.length cap)
  qb : Two W qb (.int .i64 lim) (.slice p' L'.length cap')
  er : ErrT W
  ac : ActsR W B v os
  be : Below w.heap.size w W
section
variable {w : World} {v : Value} {os : List ActR} {B g : Nat} {lim : Int} {bx : Nat} {L L' : List Ent} {p p' : Option Addr} {cap cap' qb k : Nat} {W C D : World}
theorem LawQ.make {M : Nat} {z0 z1 : Value} (s : LawS w v os B g lim bx L L p cap k W) (f : Fr B W C) (hbW : B ≤ W.heap.size) (hw : w.heap.size ≤ B) (h0 : 0 < B) (t : Tier C B g lim L' M) (es : Es C B (.slice p' L'.length cap') L') (hz : p' = none → cap' = 0) (hq : Two C qb z0 z1) (hB : B ≤ qb) (hne : bx ≠ qb) (m : C.grownBy D (some qb)) (tz : Two D qb (.int .i64 lim) (.slice p' L'.length cap')) : LawQ w v os B g lim bx L p cap qb L' p' cap' M D :=
  ⟨t.boxed m hB hq.tag good_rm, es.box2 m hB hq.tag (by decide) (by decide), hz, (s.bx.fr f).grown m (fun e => hne (Option.some.inj e)), tz, (s.er.frR f h0).boxed m (by omega), (s.ac.fr f).boxed m hB hq.tag (by decide), (s.be.trans ((f.below hbW).mono hw)).grown m (Nat.le_trans s.be.size f.size) (fun j hj => by cases hj; omega)⟩
theorem LawQ.put (s : LawQ w v os B g lim bx L p cap qb L' p' cap' k W) (m : W.grownBy D (some bx)) (tz : Two D bx (.int .i64 lim) (.slice p' L'.length cap')) (h0 : 0 < B) (hB : B ≤ bx) (hw : w.heap.size ≤ B) : LawS w v os B g lim bx L' L' p' cap' k D :=
  ⟨s.t.boxed m hB s.bx.tag good_rm, s.es.box2 m hB s.bx.tag (by decide) (by decide), s.z, tz, s.er.boxed m (by omega), s.ac.boxed m hB s.bx.tag (by decide), s.be.grown m s.be.size (fun j hj => by cases hj; omega)⟩
end
set_option maxHeartbeats 8000000 in
set_option maxRecDepth 10000 in
theorem does_any {w : World} {v : Value} {os : List ActR} (hA : ActsR w w.heap.size v os) (hks : ∀ o ∈ os, o.x.key.size ≤ maxLen) (hE : ErrT w) (limit : Int) (x : Ent) {q : Option Addr} {c : Nat} (hx : Bq w w.heap.size (.slice q x.val.length c) x.val) (hxk : x.key.size ≤ maxLen) (hxv : x.val.length ≤ maxLen) :
    Calls Tryz.prog 3 #[.int .i64 limit, v, .agg #[.string x.key, .int .i64 x.ver, .int .i64 x.asof, .int .i64 x.ends, .slice q x.val.length c]] w fun e w' => e = .returned (.bool true) ∧ Below w.heap.size w w' := by
  obtain ⟨wb, hwb⟩ : ∃ wb, wb = w.alloc (.cells #[.string x.key, .int .i64 x.ver, .int .i64 x.asof, .int .i64 x.ends, .slice q x.val.length c] 25) := ⟨_, rfl⟩
  have hab : Below w.heap.size w wb := by rw [hwb]; go_grown
  have XB : Hid (wb.heap[w.heap.size]? = some (.cells #[.string x.key, .int .i64 x.ver, .int .i64 x.asof, .int .i64 x.ends, .slice q x.val.length c] 25 (0, 0))) := by show _ = _; rw [hwb]; exact heap_alloc_new w _
  have HWB := hid2 hwb
  have HAB := hid2 hab
  have hE0 := hE
  have hA0 := hA
  have h00 : 0 < w.heap.size := lt_of_cell hE
  replace hE := hE.frR (Fr.of (B := w.heap.size) hab) h00
  replace hA := (hA.fr (Fr.of hab)).mono hab.size
  have QB := hid2 (hx.stays hab)
  have h0 : 0 < wb.heap.size := Nat.lt_of_lt_of_le h00 hab.size
  have KL := hid2 (lightR_any hA (Nat.le_refl _) hks)
  have KW := hid2 (fun W (b : Below wb.heap.size wb W) => works_any W (hE.frR (Fr.of (B := wb.heap.size) b) h0) (Nat.lt_of_lt_of_le h0 b.size))
  have HA := hid2 hA
  have HE := hid2 hE
  clear hE0 hA0 hab hwb hx
  obtain ⟨pv, cv, rfl, hc1, hc2, _⟩ := id hA
  unfold maxLen at hc2
  have KC := hid2 (fun W => Ite.rcheck_any x.key x.ver x.asof x.ends q x.val.length c W hxk hxv)
  rw [show Ite.chk x.key x.ver x.asof x.ends x.val.length = checkE x from rfl] at KC
  cases hl : lightR os with
  | false =>
    rw [hl] at KL
    clear hl
    go_enter Tryz.func3, Tryz.ntmps3
    go_upto_region 1 with fail
    rw [← HWB.out]
    go_wp2_with fail
    refine (show Calls _ _ _ _ _ from KL.out).mono ?_
    rintro e w0 ⟨rfl, hb0⟩
    have B0 := hid2 hb0
    have X0 := hid2 (heap_stays XB.out hb0)
    clear hb0
    go_wp2_with fail
    refine (KW.out _ B0.out).mono ?_
    rintro e wk ⟨rfl, bk⟩
    have BK := hid2 (HAB.out.trans ((Below.trans B0.out (bk.mono (Below.size B0.out))).mono HAB.out.size))
    clear bk
    go_wp2
    go_ret
    exact ⟨rfl, BK.out⟩

  | true =>
    rw [hl] at KL
    have h40 := lightR_ok hl
    clear hl
    by_cases hg : 20000 < limit ∧ limit ≤ 1048576
    · obtain ⟨hg1, hg2⟩ := hg
      go_enter Tryz.func3, Tryz.ntmps3
      go_upto_region 1 with fail
      rw [← HWB.out]
      go_wp2_with fail
      refine (show Calls _ _ _ _ _ from KL.out).mono ?_
      rintro e w0 ⟨rfl, hb0⟩
      have B0 := hid2 hb0
      have X0 := hid2 (heap_stays XB.out hb0)
      clear hb0
      go_wp2_with fail
      refine (KW.out _ B0.out).mono ?_
      rintro e wk ⟨rfl, bk⟩
      have BK := hid2 (HAB.out.trans ((Below.trans B0.out (bk.mono (Below.size B0.out))).mono HAB.out.size))
      clear bk
      go_wp2
      go_ret
      exact ⟨rfl, BK.out⟩

    · by_cases hck : checkE x = 0
      · rw [hck] at KC
        have HCK := hid2 hck
        clear hck
        by_cases hbad : limit < 1 ∨ 1048576 < limit
        · by_cases hb2 : 20000 < limit
          · have hb3 : ¬ limit ≤ 1048576 := by omega
            clear hg
            have KB := hid2 (fun W => new_bad W limit hbad)
            have KR := hid2 (fun W => rnew_t W limit)
            rw [if_pos hbad, if_pos hbad] at KR
            go_enter Tryz.func3, Tryz.ntmps3
            go_upto_region 1 with fail
            rw [← HWB.out]
            go_wp2_with fail
            refine (show Calls _ _ _ _ _ from KL.out).mono ?_
            rintro e w0 ⟨rfl, hb0⟩
            have B0 := hid2 hb0
            have X0 := hid2 (heap_stays XB.out hb0)
            clear hb0
            obtain ⟨⟨q0, q1, q2, q3, q4⟩, qf⟩ := Ite.five24 X0.out
            go_wp2_with fail
            refine (show Calls _ _ _ _ _ from KC.out _).mono ?_
            rintro e w1 ⟨rfl, hb1⟩
            have B1 := hid2 (B0.out.trans (hb1.mono B0.out.size))
            clear hb1 q0 q1 q2 q3 q4 qf
            go_wp2_with fail
            refine (show Calls _ _ _ _ _ from KB.out _).mono ?_
            rintro e w2 ⟨vf, rfl, hf, hb2⟩
            have F2 := hid2 hf
            have B2 := hid2 (B1.out.trans (hb2.mono B1.out.size))
            clear hf hb2
            go_wp2_with fail
            refine (show Calls _ _ _ _ _ from KR.out w2).mono ?_
            rintro e w3 ⟨rfl, hb3⟩
            have F3 := hid2 (F2.out.below hb3)
            have B3 := hid2 (B2.out.trans (hb3.mono B2.out.size))
            clear hb3 F2 B2
            go_upto_region 5 with fail
            obtain ⟨w4, hw4⟩ : ∃ w4, w4 = w3.alloc (.cells #[.int .i64 0, .slice none 0 0] 37) := ⟨_, rfl⟩
            rw [← hw4]
            have A4 : Below w3.heap.size w3 w4 := by rw [hw4]; go_grown
            have F4 := hid2 (F3.out.below A4)
            have B4 := hid2 (B3.out.trans (A4.mono B3.out.size))
            clear A4 hw4 F3 B3
            go_wp2_with fail
            refine (Ite.of_code (HE.out.frR (Fr.of (B := wb.heap.size) B4.out) h0) F4.out.fault).mono ?_
            rintro e w5 ⟨rfl, b5⟩
            have B5 := hid2 (B4.out.trans (b5.mono B4.out.size))
            clear b5 B4 F4
            go_wp2_with fail
            go_loopg [11] 1 (fun gk i wr => gk = 1 ∧ i = .int .i64 0 ∧ wr = w5)
            case atStart => exact ⟨rfl, rfl, rfl⟩
            case round =>
              obtain ⟨hgk, rfl, hwr⟩ := hrel
              subst hwr
              by_cases hos : (0 : Int) < (os.length : Int)
              · go_wp2_with fail
                refine (KW.out _ B5.out).mono ?_
                rintro e wk ⟨rfl, bk⟩
                have BK := hid2 (HAB.out.trans ((Below.trans B5.out (bk.mono (Below.size B5.out))).mono HAB.out.size))
                clear bk
                go_wp2
                go_ret
                exact ⟨rfl, BK.out⟩
              · go_wp2_with fail
                refine (KW.out _ B5.out).mono ?_
                rintro e wk ⟨rfl, bk⟩
                have BK := hid2 (HAB.out.trans ((Below.trans B5.out (bk.mono (Below.size B5.out))).mono HAB.out.size))
                clear bk
                go_wp2
                go_ret
                exact ⟨rfl, BK.out⟩

          · clear hg
            have KB := hid2 (fun W => new_bad W limit hbad)
            have KR := hid2 (fun W => rnew_t W limit)
            rw [if_pos hbad, if_pos hbad] at KR
            go_enter Tryz.func3, Tryz.ntmps3
            go_upto_region 1 with fail
            rw [← HWB.out]
            go_wp2_with fail
            refine (show Calls _ _ _ _ _ from KL.out).mono ?_
            rintro e w0 ⟨rfl, hb0⟩
            have B0 := hid2 hb0
            have X0 := hid2 (heap_stays XB.out hb0)
            clear hb0
            obtain ⟨⟨q0, q1, q2, q3, q4⟩, qf⟩ := Ite.five24 X0.out
            go_wp2_with fail
            refine (show Calls _ _ _ _ _ from KC.out _).mono ?_
            rintro e w1 ⟨rfl, hb1⟩
            have B1 := hid2 (B0.out.trans (hb1.mono B0.out.size))
            clear hb1 q0 q1 q2 q3 q4 qf
            go_wp2_with fail
            refine (show Calls _ _ _ _ _ from KB.out _).mono ?_
            rintro e w2 ⟨vf, rfl, hf, hb2⟩
            have F2 := hid2 hf
            have B2 := hid2 (B1.out.trans (hb2.mono B1.out.size))
            clear hf hb2
            go_wp2_with fail
            refine (show Calls _ _ _ _ _ from KR.out w2).mono ?_
            rintro e w3 ⟨rfl, hb3⟩
            have F3 := hid2 (F2.out.below hb3)
            have B3 := hid2 (B2.out.trans (hb3.mono B2.out.size))
            clear hb3 F2 B2
            go_upto_region 5 with fail
            obtain ⟨w4, hw4⟩ : ∃ w4, w4 = w3.alloc (.cells #[.int .i64 0, .slice none 0 0] 37) := ⟨_, rfl⟩
            rw [← hw4]
            have A4 : Below w3.heap.size w3 w4 := by rw [hw4]; go_grown
            have F4 := hid2 (F3.out.below A4)
            have B4 := hid2 (B3.out.trans (A4.mono B3.out.size))
            clear A4 hw4 F3 B3
            go_wp2_with fail
            refine (Ite.of_code (HE.out.frR (Fr.of (B := wb.heap.size) B4.out) h0) F4.out.fault).mono ?_
            rintro e w5 ⟨rfl, b5⟩
            have B5 := hid2 (B4.out.trans (b5.mono B4.out.size))
            clear b5 B4 F4
            go_wp2_with fail
            go_loopg [11] 1 (fun gk i wr => gk = 1 ∧ i = .int .i64 0 ∧ wr = w5)
            case atStart => exact ⟨rfl, rfl, rfl⟩
            case round =>
              obtain ⟨hgk, rfl, hwr⟩ := hrel
              subst hwr
              by_cases hos : (0 : Int) < (os.length : Int)
              · go_wp2_with fail
                refine (KW.out _ B5.out).mono ?_
                rintro e wk ⟨rfl, bk⟩
                have BK := hid2 (HAB.out.trans ((Below.trans B5.out (bk.mono (Below.size B5.out))).mono HAB.out.size))
                clear bk
                go_wp2
                go_ret
                exact ⟨rfl, BK.out⟩
              · go_wp2_with fail
                refine (KW.out _ B5.out).mono ?_
                rintro e wk ⟨rfl, bk⟩
                have BK := hid2 (HAB.out.trans ((Below.trans B5.out (bk.mono (Below.size B5.out))).mono HAB.out.size))
                clear bk
                go_wp2
                go_ret
                exact ⟨rfl, BK.out⟩

        · obtain ⟨l, rfl⟩ := Int.eq_ofNat_of_zero_le (show 0 ≤ limit by omega)
          have hl1 : 1 ≤ l := by omega
          have hl2 : l ≤ 20000 := by omega
          have hb2 : ¬ (20000 : Int) < (l : Int) := by omega
          clear hg hbad
          have KN := hid2 (fun W => new_t W l hl1 hl2)
          have KR := hid2 (fun W => rnew_t W (l : Int))
          rw [if_neg (by omega), if_neg (by omega)] at KR
          obtain ⟨lim, hlm⟩ : ∃ lim : Int, lim = (l : Int) := ⟨_, rfl⟩
          rw [← hlm] at KN KR
          have hlm1 : 1 ≤ lim ∧ lim ≤ 20000 := by omega
          go_enter Tryz.func3, Tryz.ntmps3
          go_upto_region 1 with fail
          rw [← HWB.out]
          go_wp2_with fail
          refine (show Calls _ _ _ _ _ from KL.out).mono ?_
          rintro e w0 ⟨rfl, hb0⟩
          have B0 := hid2 hb0
          have X0 := hid2 (heap_stays XB.out hb0)
          clear hb0
          obtain ⟨⟨q0, q1, q2, q3, q4⟩, qf⟩ := Ite.five24 X0.out
          go_wp2_with fail
          refine (show Calls _ _ _ _ _ from KC.out _).mono ?_
          rintro e w1 ⟨rfl, hb1⟩
          have B1 := hid2 (B0.out.trans (hb1.mono B0.out.size))
          clear hb1 q0 q1 q2 q3 q4 qf
          rw [← hlm]
          have HLM := hid2 hlm
          clear hlm
          go_wp2_with fail
          obtain ⟨B, hB⟩ : ∃ B, B = w1.heap.size := ⟨_, rfl⟩
          have HBW : Hid (wb.heap.size ≤ B) := by show _ ≤ _; rw [hB]; exact B1.out.size
          have h0B : 0 < B := Nat.lt_of_lt_of_le h0 HBW.out
          refine (show Calls _ _ _ _ _ from KN.out _).mono ?_
          rintro e w2 ⟨g, rfl, ht, hb⟩
          rw [← hB] at ht
          have T2 := hid2 ht
          have B2 := hid2 (B1.out.trans (hb.mono B1.out.size))
          have HB2 : Hid (B ≤ w2.heap.size) := by show B ≤ _; rw [hB]; exact hb.size
          clear ht hb hB
          go_wp2_with fail
          refine (show Calls _ _ _ _ _ from KR.out _).mono ?_
          rintro e w3 ⟨rfl, hb⟩
          have T3 := hid2 (T2.out.below hb)
          have B3 := hid2 (B2.out.trans (hb.mono B2.out.size))
          have HB3 : Hid (B ≤ w3.heap.size) := Nat.le_trans HB2.out hb.size
          clear hb T2 HB2
          go_upto_region 5 with fail
          obtain ⟨w4, hw4⟩ : ∃ w4, w4 = w3.alloc (.cells #[.int .i64 lim, .slice none 0 0] 37) := ⟨_, rfl⟩
          rw [← hw4]
          obtain ⟨bx, hbx⟩ : ∃ bx, bx = w3.heap.size := ⟨_, rfl⟩
          rw [← hbx]
          have A4 : Below w3.heap.size w3 w4 := by rw [hw4]; go_grown
          have X4 : Two w4 bx (.int .i64 lim) (.slice none 0 0) := by rw [hw4, hbx]; exact heap_alloc_new w3 _
          have HBX : Hid (B ≤ bx) := by show B ≤ bx; rw [hbx]; exact HB3.out
          have B4 := B3.out.trans (A4.mono B3.out.size)
          have S4 : Hid (LawS wb (.slice pv os.length cv) os B g lim bx [] [] none 0 0 w4) := ⟨T3.out.below A4, Es.nil _ _, fun _ => rfl, X4, HE.out.frR (Fr.of (B := B) B4) h0B, (HA.out.mono HBW.out).fr (.of B4), B4⟩
          clear hw4 hbx A4 X4 B4 T3 HB3 B3
          go_wp2_with fail
          refine (Ite.of_code S4.out.er (Ite.Fault1.fault (.inl ⟨rfl, rfl⟩))).mono ?_
          rintro e w5 ⟨rfl, b5⟩
          have S5 := hid2 (S4.out.below b5 h0B)
          clear b5 S4
          go_wp2_with fail
          go_loopg [11] os.length (fun gi i wr => ∃ (k : Nat) (L : List Ent) (p : Option Addr) (cap : Nat), k ≤ os.length ∧ gi = os.length - k ∧ i = .int .i64 (k : Int) ∧ L = actsP lim os k ∧ LawS wb (.slice pv os.length cv) os B g lim bx L L p cap k wr)
          case atStart => exact ⟨0, [], none, 0, Nat.zero_le _, rfl, rfl, rfl, S5.out⟩
          case round =>
            clear S5
            obtain ⟨k, L, p, cap, hk, hgi, rfl, hL, hs⟩ := hrel
            have HG := hid2 hgi
            have HLK := hid2 hL
            have SR := hid2 hs
            clear hgi hL hs
            by_cases hlt : k < os.length
            · have hki : (k : Int) < (os.length : Int) := by omega
              have hI : (0 : Int) ≤ (k : Int) ∧ (k : Int) < (os.length : Int) := by omega
              have htn : ((k : Int)).toNat = k := by omega
              obtain ⟨o, ho⟩ : ∃ o, os[k]? = some o := ⟨_, List.getElem?_eq_getElem hlt⟩
              have hok := h40.2 o (List.mem_of_getElem? ho)
              obtain ⟨ob, oo, q', c', pv', cv', e1, rfl, hobB, hro, hbq⟩ := SR.out.act ho
              cases e1
              have HO := hid2 ho
              go_upto_region 10 with fail
              go_cut [12, 13] (fun pp ok wx => ok = .bool true ∧ ∃ qb p' cap', pp = .pointer (some ⟨qb, 0, none⟩) ∧ LawQ wb (.slice (some ⟨ob, oo, none⟩) os.length cv) os B g lim bx L p cap qb (actP lim L o) p' cap' (k + 1) wx)
              case first =>
                obtain ⟨wd, hwd⟩ : ∃ wd, wd = World.drew wr := ⟨_, rfl⟩
                have hdr : Below wr.heap.size wr wd := by rw [hwd]; exact drew_below_m wr 1 _
                have SD := hid2 (SR.out.below hdr h0B)
                have HBD : Hid (B ≤ wd.heap.size) := Nat.le_trans HBX.out (Nat.le_of_lt SD.out.bx.tag.lt)
                have hbq2 := hbq.stays hdr
                have KD := hid2 (fun W (b : Below wd.heap.size wd W) => do_same (SD.out.t.below b) (Nat.le_trans hk (Nat.le_trans h40.1 (by omega))) (SD.out.es.stays b) SD.out.z o (hbq2.stays b) (SD.out.er.frR (Fr.of (B := B) b) h0B) h0B (Nat.le_trans hok.1 (by omega)) hok.2)
                have hS0 := hid2 (show _ ∧ _ from ⟨rng_old hdr hro, SD.out.bx⟩)
                clear ho hro hbq hbq2 hdr SR
                refine wp_region_held_drew (S := fun W => W.rangeAt ob (oo + k * 7) [.int .i64 o.kind, .string o.x.key, .int .i64 o.x.ver, .int .i64 o.x.asof, .int .i64 o.x.ends, .slice q' o.x.val.length c', .int .i64 o.now] ∧ Two W bx (.int .i64 lim) (.slice p L.length cap)) (by kernel_rfl) (by rw [← hwd]; exact hS0.out) (fun hS => ?_)
                rw [← hwd] at hS ⊢
                clear hwd hS0
                refine wpAnyH_take (i := 0) (v := .pointer (some ⟨g, 0, none⟩)) rfl (by kernel_rfl) (by kernel_rfl) (by kernel_rfl) (fun _ _ _ h => h) (Or.inl ⟨by kernel_rfl, ?_⟩) hS ?_
                · intro w hw; clear hw; go_simp
                change wpAnyH _ _ _ _ _ _ _ (Act.put _ (some 63) _) _
                simp only [Act.put, List.setIfInBounds_toArray, List.set_cons_succ, List.set_cons_zero]
                refine wpAnyH_take (i := 1) (v := (.agg #[.int .i64 lim, .slice p L.length cap])) rfl (by kernel_rfl) (by kernel_rfl) (by kernel_rfl) (fun _ _ _ h => h) (yieldsIf_load_mid (by kernel_rfl) 37 (.tmp 9) rfl bx 0 rfl ([.int .i64 lim, .slice p L.length cap]) _ (fun W hw => two_range hw.2) und_rm.choose_spec rfl (size_rm)) hS ?_
                change wpAnyH _ _ _ _ _ _ _ (Act.put _ (some 64) _) _
                simp only [Act.put, List.setIfInBounds_toArray, List.set_cons_succ, List.set_cons_zero]
                refine wpAnyH_take (i := 2) (v := .slice (some ⟨ob, oo, none⟩) os.length cv) rfl (by kernel_rfl) (by kernel_rfl) (by kernel_rfl) (fun _ _ _ h => h) (Or.inl ⟨by kernel_rfl, ?_⟩) hS ?_
                · intro w hw; clear hw; go_simp
                change wpAnyH _ _ _ _ _ _ _ (Act.put _ (some 65) _) _
                simp only [Act.put, List.setIfInBounds_toArray, List.set_cons_succ, List.set_cons_zero]
                refine wpAnyH_take (i := 3) (v := .int .i64 (k : Int)) rfl (by kernel_rfl) (by kernel_rfl) (by kernel_rfl) (fun _ _ _ h => h) (Or.inl ⟨by kernel_rfl, ?_⟩) hS ?_
                · intro w hw; clear hw; go_simp
                change wpAnyH _ _ _ _ _ _ _ (Act.put _ (some 66) _) _
                simp only [Act.put, List.setIfInBounds_toArray, List.set_cons_succ, List.set_cons_zero]
                refine wpAnyH_take (i := 4) (v := .pointer (some ⟨ob, oo + k * 7, none⟩)) rfl (by kernel_rfl) (by kernel_rfl) (by kernel_rfl) (fun _ _ _ h => h) (Or.inl ⟨by kernel_rfl, ?_⟩) hS ?_
                · intro w hw; clear hw; go_simp
                change wpAnyH _ _ _ _ _ _ _ (Act.put _ (some 67) _) _
                simp only [Act.put, List.setIfInBounds_toArray, List.set_cons_succ, List.set_cons_zero]
                refine wpAnyH_take (i := 5) (v := (.agg #[.int .i64 o.kind, .string o.x.key, .int .i64 o.x.ver, .int .i64 o.x.asof, .int .i64 o.x.ends, .slice q' o.x.val.length c', .int .i64 o.now])) rfl (by kernel_rfl) (by kernel_rfl) (by kernel_rfl) (fun _ _ _ h => h) (yieldsIf_load_mid (by kernel_rfl) 44 (.tmp 67) rfl ob (oo + k * 7) rfl ([.int .i64 o.kind, .string o.x.key, .int .i64 o.x.ver, .int .i64 o.x.asof, .int .i64 o.x.ends, .slice q' o.x.val.length c', .int .i64 o.now]) _ (fun W hw => hw.1) und44.choose_spec rfl (size44)) hS ?_
                change wpAnyH _ _ _ _ _ _ _ (Act.put _ (some 68) _) _
                simp only [Act.put, List.setIfInBounds_toArray, List.set_cons_succ, List.set_cons_zero]
                refine wpAnyH_ready (rs := [6, 10]) (by kernel_rfl) (by simp) ?_
                refine AllReadyH.cons rfl (fun K hK => ?_) (AllReadyH.cons rfl (fun K hK => ?_) AllReadyH.nil)
                · go_simp
                  go_wp2_with fail
                  refine (show Calls _ _ _ _ _ from KD.out _ (Below.refl _ _)).mono ?_
                  rintro e w6 ⟨p', cap', rfl, hes, hz', ht, hf⟩
                  refine hK.out _ _ (⟨rng_fr hf hobB hS.1, Two.fr hS.2 hf⟩) (fun hS => ?_)
                  clear hK K
                  skip
                  refine wpAnyH_take (i := 7) (v := .tuple #[.agg #[.int .i64 lim, .slice p' (actP lim L o).length cap'], .bool true]) rfl (by kernel_rfl) (by kernel_rfl) (by kernel_rfl) (fun _ _ _ h => h) (Or.inl ⟨by kernel_rfl, ?_⟩) hS ?_
                  · intro w hw; clear hw; go_simp
                  change wpAnyH _ _ _ _ _ _ _ (Act.put _ (some 62) _) _
                  simp only [Act.put, List.setIfInBounds_toArray, List.set_cons_succ, List.set_cons_zero]
                  refine wpAnyH_take (i := 8) (v := .agg #[.int .i64 lim, .slice p' (actP lim L o).length cap']) rfl (by kernel_rfl) (by kernel_rfl) (by kernel_rfl) (fun _ _ _ h => h) (Or.inl ⟨by kernel_rfl, ?_⟩) hS ?_
                  · intro w hw; clear hw; go_simp
                  change wpAnyH _ _ _ _ _ _ _ (Act.put _ (some 70) _) _
                  simp only [Act.put, List.setIfInBounds_toArray, List.set_cons_succ, List.set_cons_zero]
                  refine wpAnyH_take (i := 9) (v := .bool true) rfl (by kernel_rfl) (by kernel_rfl) (by kernel_rfl) (fun _ _ _ h => h) (Or.inl ⟨by kernel_rfl, ?_⟩) hS ?_
                  · intro w hw; clear hw; go_simp
                  change wpAnyH _ _ _ _ _ _ _ (Act.put _ (some 71) _) _
                  simp only [Act.put, List.setIfInBounds_toArray, List.set_cons_succ, List.set_cons_zero]
                  refine wpAnyH_ready (rs := [10]) (by kernel_rfl) (by simp) ?_
                  refine AllReadyH.cons rfl (fun K hK => ?_) AllReadyH.nil
                  go_simp
                  go_wp2_with fail
                  obtain ⟨w7, hwn⟩ : ∃ wn, wn = w6.alloc (.cells #[.int .i64 0, .slice none 0 0] 37) := ⟨_, rfl⟩
                  rw [← hwn]
                  have ya : Below w6.heap.size w6 w7 := by rw [hwn]; go_grown
                  have za : Two w7 w6.heap.size (.int .i64 0) (.slice none 0 0) := by rw [hwn]; exact heap_alloc_new w6 _
                  obtain ⟨qb, hqb⟩ : ∃ qb, qb = w6.heap.size := ⟨_, rfl⟩
                  rw [← hqb] at za ⊢
                  have hBq : B ≤ qb := by rw [hqb]; exact Nat.le_trans HBD.out hf.size
                  have hne : bx ≠ qb := by have := (SD.out.bx.fr hf).tag.lt; omega
                  clear hqb hwn
                  refine hK.out _ _ (⟨rng_old ya hS.1, Two.stays hS.2 ya⟩) (fun hS => ?_)
                  clear hK K
                  skip
                  refine wpAnyH_ready (rs := [11]) (by kernel_rfl) (by simp) ?_
                  refine AllReadyH.cons rfl (fun K hK => ?_) AllReadyH.nil
                  refine step_st37 rfl (.tmp 12) (.tmp 70) rfl qb rfl _ _ _ za rfl rfl ⟨rfl, rfl⟩ ?_
                  intro wz TZ gz
                  refine hK.out _ _ (⟨rng_grown hS.1 gz (by omega), Two.grown hS.2 gz (fun e => hne (Option.some.inj e))⟩) (fun hS => ?_)
                  clear hK K
                  change wpAnyH _ _ _ _ _ _ _ (Act.put _ (none) _) _
                  simp only [Act.put]
                  refine wpAnyH_take (i := 12) (v := .bool true) rfl (by kernel_rfl) (by kernel_rfl) (by kernel_rfl) (fun _ _ _ h => h) (Or.inl ⟨by kernel_rfl, ?_⟩) hS ?_
                  · intro w hw; clear hw; go_simp
                  change wpAnyH _ _ _ _ _ _ _ (Act.put _ (some 13) _) _
                  simp only [Act.put, List.setIfInBounds_toArray, List.set_cons_succ, List.set_cons_zero]
                  refine wpAnyH_done (by kernel_rfl) ?_ _
                  go_wp2_with fail
                  go_meet
                  first
                    | exact ⟨rfl, qb, p', cap', rfl, LawQ.make SD.out (hf.trans (Fr.of ya)) HBD.out HBW.out h0B (ht.below ya) (hes.stays ya) hz' za hBq hne gz TZ⟩
                    | exact ⟨rfl, qb, p', cap', rfl, LawQ.make SD.out ((Fr.of ya).trans hf) HBD.out HBW.out h0B ht hes hz' (Two.fr za hf) hBq hne gz TZ⟩
                · go_simp
                  go_wp2_with fail
                  obtain ⟨w6, hwn⟩ : ∃ wn, wn = wd.alloc (.cells #[.int .i64 0, .slice none 0 0] 37) := ⟨_, rfl⟩
                  rw [← hwn]
                  have ya : Below wd.heap.size wd w6 := by rw [hwn]; go_grown
                  have za : Two w6 wd.heap.size (.int .i64 0) (.slice none 0 0) := by rw [hwn]; exact heap_alloc_new wd _
                  obtain ⟨qb, hqb⟩ : ∃ qb, qb = wd.heap.size := ⟨_, rfl⟩
                  rw [← hqb] at za ⊢
                  have hBq : B ≤ qb := by rw [hqb]; exact HBD.out
                  have hne : bx ≠ qb := by have := SD.out.bx.tag.lt; omega
                  clear hqb hwn
                  refine hK.out _ _ (⟨rng_old ya hS.1, Two.stays hS.2 ya⟩) (fun hS => ?_)
                  clear hK K
                  skip
                  refine wpAnyH_ready (rs := [6]) (by kernel_rfl) (by simp) ?_
                  refine AllReadyH.cons rfl (fun K hK => ?_) AllReadyH.nil
                  go_simp
                  go_wp2_with fail
                  refine (show Calls _ _ _ _ _ from KD.out _ ya).mono ?_
                  rintro e w7 ⟨p', cap', rfl, hes, hz', ht, hf⟩
                  refine hK.out _ _ (⟨rng_fr hf hobB hS.1, Two.fr hS.2 hf⟩) (fun hS => ?_)
                  clear hK K
                  skip
                  refine wpAnyH_take (i := 7) (v := .tuple #[.agg #[.int .i64 lim, .slice p' (actP lim L o).length cap'], .bool true]) rfl (by kernel_rfl) (by kernel_rfl) (by kernel_rfl) (fun _ _ _ h => h) (Or.inl ⟨by kernel_rfl, ?_⟩) hS ?_
                  · intro w hw; clear hw; go_simp
                  change wpAnyH _ _ _ _ _ _ _ (Act.put _ (some 62) _) _
                  simp only [Act.put, List.setIfInBounds_toArray, List.set_cons_succ, List.set_cons_zero]
                  refine wpAnyH_take (i := 8) (v := .agg #[.int .i64 lim, .slice p' (actP lim L o).length cap']) rfl (by kernel_rfl) (by kernel_rfl) (by kernel_rfl) (fun _ _ _ h => h) (Or.inl ⟨by kernel_rfl, ?_⟩) hS ?_
                  · intro w hw; clear hw; go_simp
                  change wpAnyH _ _ _ _ _ _ _ (Act.put _ (some 70) _) _
                  simp only [Act.put, List.setIfInBounds_toArray, List.set_cons_succ, List.set_cons_zero]
                  refine wpAnyH_take (i := 9) (v := .bool true) rfl (by kernel_rfl) (by kernel_rfl) (by kernel_rfl) (fun _ _ _ h => h) (Or.inl ⟨by kernel_rfl, ?_⟩) hS ?_
                  · intro w hw; clear hw; go_simp
                  change wpAnyH _ _ _ _ _ _ _ (Act.put _ (some 71) _) _
                  simp only [Act.put, List.setIfInBounds_toArray, List.set_cons_succ, List.set_cons_zero]
                  refine wpAnyH_ready (rs := [11]) (by kernel_rfl) (by simp) ?_
                  refine AllReadyH.cons rfl (fun K hK => ?_) AllReadyH.nil
                  refine step_st37 rfl (.tmp 12) (.tmp 70) rfl qb rfl _ _ _ (Two.fr za hf) rfl rfl ⟨rfl, rfl⟩ ?_
                  intro wz TZ gz
                  refine hK.out _ _ (⟨rng_grown hS.1 gz (by omega), Two.grown hS.2 gz (fun e => hne (Option.some.inj e))⟩) (fun hS => ?_)
                  clear hK K
                  change wpAnyH _ _ _ _ _ _ _ (Act.put _ (none) _) _
                  simp only [Act.put]
                  refine wpAnyH_take (i := 12) (v := .bool true) rfl (by kernel_rfl) (by kernel_rfl) (by kernel_rfl) (fun _ _ _ h => h) (Or.inl ⟨by kernel_rfl, ?_⟩) hS ?_
                  · intro w hw; clear hw; go_simp
                  change wpAnyH _ _ _ _ _ _ _ (Act.put _ (some 13) _) _
                  simp only [Act.put, List.setIfInBounds_toArray, List.set_cons_succ, List.set_cons_zero]
                  refine wpAnyH_done (by kernel_rfl) ?_ _
                  go_wp2_with fail
                  go_meet
                  first
                    | exact ⟨rfl, qb, p', cap', rfl, LawQ.make SD.out (hf.trans (Fr.of ya)) HBD.out HBW.out h0B (ht.below ya) (hes.stays ya) hz' za hBq hne gz TZ⟩
                    | exact ⟨rfl, qb, p', cap', rfl, LawQ.make SD.out ((Fr.of ya).trans hf) HBD.out HBW.out h0B ht hes hz' (Two.fr za hf) hBq hne gz TZ⟩
              case rest =>
                obtain ⟨rfl, qb, p', cap', rfl, hq⟩ := hcut
                have HO2 := hid2 (show actP lim L o = actsP lim os (k + 1) by rw [actsP_succ HO.out, ← HLK.out])
                generalize actP lim L o = L' at *
                have SQ := hid2 hq
                have k5 := two_range SQ.out.qb
                clear hq hro hbq SR ho HO
                go_wp2_with (first | (refine wpList_load_mid rfl 37 (.tmp 12) rfl qb 0 rfl _ _ k5 und_rm.choose_spec rfl size_rm ?_) | (refine st37 rfl (.tmp 9) (.tmp 72) rfl bx rfl _ _ _ SQ.out.bx rfl rfl ⟨rfl, rfl⟩ ?_; intro w9 tz9 gz9))
                have S9 := hid2 (SQ.out.put gz9 tz9 h0B HBX.out HBW.out)
                clear tz9 gz9 k5 SQ
                obtain ⟨wd, hwd⟩ : ∃ wd, wd = World.drew w9 := ⟨_, rfl⟩
                have hdr : Below w9.heap.size w9 wd := by rw [hwd]; exact drew_below_m w9 1 _
                have SD := hid2 (S9.out.below hdr h0B)
                have HFN := hid2 SD.out.t.fine
                have HBD : Hid (B ≤ wd.heap.size) := Nat.le_trans HBX.out (Nat.le_of_lt SD.out.bx.tag.lt)
                have XD := hid2 (heap_stays XB.out SD.out.be)
                have QD := hid2 (QB.out.stays SD.out.be)
                have hl6 := HFN.out.2.2.2.2.2.1
                clear hdr S9
                refine wp_region_held_drew (S := fun W => Below wd.heap.size wd W) (by kernel_rfl) (by rw [← hwd]; exact Below.refl _ _) (fun hS => ?_)
                rw [← hwd] at hS ⊢
                clear hwd
                refine wpAnyH_take (i := 0) (v := .bool true) rfl (by kernel_rfl) (by kernel_rfl) (by kernel_rfl) (fun _ _ _ h => h) (Or.inl ⟨by kernel_rfl, ?_⟩) hS ?_
                · intro w hw; clear hw; go_simp
                change wpAnyH _ _ _ _ _ _ _ (Act.put _ (some 73) _) _
                simp only [Act.put, List.setIfInBounds_toArray, List.set_cons_succ, List.set_cons_zero]
                refine wpAnyH_take (i := 1) (v := .bool false) rfl (by kernel_rfl) (by kernel_rfl) (by kernel_rfl) (fun _ _ _ h => h) (Or.inl ⟨by kernel_rfl, ?_⟩) hS ?_
                · intro w hw; clear hw; go_simp
                change wpAnyH _ _ _ _ _ _ _ (Act.put _ (some 74) _) _
                simp only [Act.put, List.setIfInBounds_toArray, List.set_cons_succ, List.set_cons_zero]
                refine wpAnyH_take (i := 2) (v := .bool false) rfl (by kernel_rfl) (by kernel_rfl) (by kernel_rfl) (fun _ _ _ h => h) (Or.inl ⟨by kernel_rfl, ?_⟩) hS ?_
                · intro w hw; clear hw; go_simp
                change wpAnyH _ _ _ _ _ _ _ (Act.put _ (some 75) _) _
                simp only [Act.put, List.setIfInBounds_toArray, List.set_cons_succ, List.set_cons_zero]
                refine wpAnyH_take (i := 3) (v := .pointer (some ⟨g, 0, none⟩)) rfl (by kernel_rfl) (by kernel_rfl) (by kernel_rfl) (fun _ _ _ h => h) (Or.inl ⟨by kernel_rfl, ?_⟩) hS ?_
                · intro w hw; clear hw; go_simp
                change wpAnyH _ _ _ _ _ _ _ (Act.put _ (some 76) _) _
                simp only [Act.put, List.setIfInBounds_toArray, List.set_cons_succ, List.set_cons_zero]
                refine wpAnyH_take (i := 5) (v := .pointer (some ⟨bx, 1, none⟩)) rfl (by kernel_rfl) (by kernel_rfl) (by kernel_rfl) (fun _ _ _ h => h) (Or.inl ⟨by kernel_rfl, ?_⟩) hS ?_
                · intro w hw; clear hw; go_simp
                change wpAnyH _ _ _ _ _ _ _ (Act.put _ (some 78) _) _
                simp only [Act.put, List.setIfInBounds_toArray, List.set_cons_succ, List.set_cons_zero]
                refine wpAnyH_take (i := 6) (v := .slice p' L'.length cap') rfl (by kernel_rfl) (by kernel_rfl) (by kernel_rfl) (fun _ _ _ h => h) (Or.inl ⟨by kernel_rfl, ?_⟩) hS ?_
                · intro W hw
                  have e := (Two.cells (Two.stays SD.out.bx hw)).2.2.1
                  clear hw
                  go_simp
                change wpAnyH _ _ _ _ _ _ _ (Act.put _ (some 79) _) _
                simp only [Act.put, List.setIfInBounds_toArray, List.set_cons_succ, List.set_cons_zero]
                refine wpAnyH_take (i := 7) (v := .int .i64 (L'.length : Int)) rfl (by kernel_rfl) (by kernel_rfl) (by kernel_rfl) (fun _ _ _ h => h) (Or.inl ⟨by kernel_rfl, ?_⟩) hS ?_
                · intro w hw; clear hw; go_simp
                change wpAnyH _ _ _ _ _ _ _ (Act.put _ (some 80) _) _
                simp only [Act.put, List.setIfInBounds_toArray, List.set_cons_succ, List.set_cons_zero]
                refine wpAnyH_ready (rs := [4]) (by kernel_rfl) (by simp) ?_
                refine AllReadyH.cons rfl (fun K hK => ?_) AllReadyH.nil
                go_simp
                go_wp2_with fail
                refine (show Calls _ _ _ _ _ from (len_t SD.out.t)).mono ?_
                rintro e yz ⟨rfl, hyz⟩
                rw [hyz]
                clear hyz yz
                refine hK.out _ _ (hS) (fun hS => ?_)
                clear hK K
                skip
                refine wpAnyH_take (i := 8) (v := .bool false) rfl (by kernel_rfl) (by kernel_rfl) (by kernel_rfl) (fun _ _ _ h => h) (Or.inl ⟨by kernel_rfl, ?_⟩) hS ?_
                · intro w hw; clear hw; go_simp
                change wpAnyH _ _ _ _ _ _ _ (Act.put _ (some 81) _) _
                simp only [Act.put, List.setIfInBounds_toArray, List.set_cons_succ, List.set_cons_zero]
                refine wpAnyH_take (i := 9) (v := .bool false) rfl (by kernel_rfl) (by kernel_rfl) (by kernel_rfl) (fun _ _ _ h => h) (Or.inl ⟨by kernel_rfl, ?_⟩) hS ?_
                · intro w hw; clear hw; go_simp
                change wpAnyH _ _ _ _ _ _ _ (Act.put _ (some 82) _) _
                simp only [Act.put, List.setIfInBounds_toArray, List.set_cons_succ, List.set_cons_zero]
                refine wpAnyH_take (i := 10) (v := .bool false) rfl (by kernel_rfl) (by kernel_rfl) (by kernel_rfl) (fun _ _ _ h => h) (Or.inl ⟨by kernel_rfl, ?_⟩) hS ?_
                · intro w hw; clear hw; go_simp
                change wpAnyH _ _ _ _ _ _ _ (Act.put _ (some 83) _) _
                simp only [Act.put, List.setIfInBounds_toArray, List.set_cons_succ, List.set_cons_zero]
                refine wpAnyH_take (i := 11) (v := .pointer (some ⟨g, 0, none⟩)) rfl (by kernel_rfl) (by kernel_rfl) (by kernel_rfl) (fun _ _ _ h => h) (Or.inl ⟨by kernel_rfl, ?_⟩) hS ?_
                · intro w hw; clear hw; go_simp
                change wpAnyH _ _ _ _ _ _ _ (Act.put _ (some 84) _) _
                simp only [Act.put, List.setIfInBounds_toArray, List.set_cons_succ, List.set_cons_zero]
                refine wpAnyH_take (i := 13) (v := (.agg #[.int .i64 lim, .slice p' L'.length cap'])) rfl (by kernel_rfl) (by kernel_rfl) (by kernel_rfl) (fun _ _ _ h => h) (yieldsIf_load_mid (by kernel_rfl) 37 (.tmp 9) rfl bx 0 rfl ([.int .i64 lim, .slice p' L'.length cap']) _ (fun W hw => two_range (Two.stays SD.out.bx hw)) und_rm.choose_spec rfl (size_rm)) hS ?_
                change wpAnyH _ _ _ _ _ _ _ (Act.put _ (some 86) _) _
                simp only [Act.put, List.setIfInBounds_toArray, List.set_cons_succ, List.set_cons_zero]
                refine wpAnyH_ready (rs := [12]) (by kernel_rfl) (by simp) ?_
                refine AllReadyH.cons rfl (fun K hK => ?_) AllReadyH.nil
                go_simp
                go_wp2_with fail
                refine (show Calls _ _ _ _ _ from (used_t SD.out.t)).mono ?_
                rintro e yz ⟨rfl, hyz⟩
                rw [hyz]
                clear hyz yz
                refine hK.out _ _ (hS) (fun hS => ?_)
                clear hK K
                skip
                refine wpAnyH_ready (rs := [14]) (by kernel_rfl) (by simp) ?_
                refine AllReadyH.cons rfl (fun K hK => ?_) AllReadyH.nil
                go_simp
                go_wp2_with fail
                refine (show Calls _ _ _ _ _ from (rused_t SD.out.es HFN.out.1 (Nat.le_trans hl6 (by omega)))).mono ?_
                rintro e y1 ⟨rfl, hy1⟩
                have SD1 := hid2 (SD.out.below hy1 h0B)
                have By1 := hid2 (Below.trans hS (hy1.mono (Below.size hS)))
                refine hK.out _ _ (By1.out) (fun hS => ?_)
                clear hK K
                skip
                clear hy1
                refine wpAnyH_take (i := 15) (v := .bool false) rfl (by kernel_rfl) (by kernel_rfl) (by kernel_rfl) (fun _ _ _ h => h) (Or.inl ⟨by kernel_rfl, ?_⟩) hS ?_
                · intro w hw; clear hw; go_simp
                change wpAnyH _ _ _ _ _ _ _ (Act.put _ (some 88) _) _
                simp only [Act.put, List.setIfInBounds_toArray, List.set_cons_succ, List.set_cons_zero]
                refine wpAnyH_take (i := 16) (v := .bool false) rfl (by kernel_rfl) (by kernel_rfl) (by kernel_rfl) (fun _ _ _ h => h) (Or.inl ⟨by kernel_rfl, ?_⟩) hS ?_
                · intro w hw; clear hw; go_simp
                change wpAnyH _ _ _ _ _ _ _ (Act.put _ (some 89) _) _
                simp only [Act.put, List.setIfInBounds_toArray, List.set_cons_succ, List.set_cons_zero]
                refine wpAnyH_take (i := 17) (v := .bool false) rfl (by kernel_rfl) (by kernel_rfl) (by kernel_rfl) (fun _ _ _ h => h) (Or.inl ⟨by kernel_rfl, ?_⟩) hS ?_
                · intro w hw; clear hw; go_simp
                change wpAnyH _ _ _ _ _ _ _ (Act.put _ (some 90) _) _
                simp only [Act.put, List.setIfInBounds_toArray, List.set_cons_succ, List.set_cons_zero]
                refine wpAnyH_take (i := 18) (v := .pointer (some ⟨g, 0, none⟩)) rfl (by kernel_rfl) (by kernel_rfl) (by kernel_rfl) (fun _ _ _ h => h) (Or.inl ⟨by kernel_rfl, ?_⟩) hS ?_
                · intro w hw; clear hw; go_simp
                change wpAnyH _ _ _ _ _ _ _ (Act.put _ (some 91) _) _
                simp only [Act.put, List.setIfInBounds_toArray, List.set_cons_succ, List.set_cons_zero]
                refine wpAnyH_take (i := 20) (v := .int .i64 lim) rfl (by kernel_rfl) (by kernel_rfl) (by kernel_rfl) (fun _ _ _ h => h) (Or.inl ⟨by kernel_rfl, ?_⟩) hS ?_
                · intro w hw; clear hw; go_simp
                change wpAnyH _ _ _ _ _ _ _ (Act.put _ (some 93) _) _
                simp only [Act.put, List.setIfInBounds_toArray, List.set_cons_succ, List.set_cons_zero]
                refine wpAnyH_ready (rs := [19]) (by kernel_rfl) (by simp) ?_
                refine AllReadyH.cons rfl (fun K hK => ?_) AllReadyH.nil
                go_simp
                go_wp2_with fail
                refine (show Calls _ _ _ _ _ from (limit_t SD1.out.t)).mono ?_
                rintro e yz ⟨rfl, hyz⟩
                rw [hyz]
                clear hyz yz
                refine hK.out _ _ (hS) (fun hS => ?_)
                clear hK K
                skip
                refine wpAnyH_take (i := 21) (v := .bool false) rfl (by kernel_rfl) (by kernel_rfl) (by kernel_rfl) (fun _ _ _ h => h) (Or.inl ⟨by kernel_rfl, ?_⟩) hS ?_
                · intro w hw; clear hw; go_simp
                change wpAnyH _ _ _ _ _ _ _ (Act.put _ (some 94) _) _
                simp only [Act.put, List.setIfInBounds_toArray, List.set_cons_succ, List.set_cons_zero]
                refine wpAnyH_take (i := 22) (v := .bool false) rfl (by kernel_rfl) (by kernel_rfl) (by kernel_rfl) (fun _ _ _ h => h) (Or.inl ⟨by kernel_rfl, ?_⟩) hS ?_
                · intro w hw; clear hw; go_simp
                change wpAnyH _ _ _ _ _ _ _ (Act.put _ (some 95) _) _
                simp only [Act.put, List.setIfInBounds_toArray, List.set_cons_succ, List.set_cons_zero]
                refine wpAnyH_take (i := 23) (v := .bool false) rfl (by kernel_rfl) (by kernel_rfl) (by kernel_rfl) (fun _ _ _ h => h) (Or.inl ⟨by kernel_rfl, ?_⟩) hS ?_
                · intro w hw; clear hw; go_simp
                change wpAnyH _ _ _ _ _ _ _ (Act.put _ (some 96) _) _
                simp only [Act.put, List.setIfInBounds_toArray, List.set_cons_succ, List.set_cons_zero]
                refine wpAnyH_take (i := 24) (v := .pointer (some ⟨g, 0, none⟩)) rfl (by kernel_rfl) (by kernel_rfl) (by kernel_rfl) (fun _ _ _ h => h) (Or.inl ⟨by kernel_rfl, ?_⟩) hS ?_
                · intro w hw; clear hw; go_simp
                change wpAnyH _ _ _ _ _ _ _ (Act.put _ (some 97) _) _
                simp only [Act.put, List.setIfInBounds_toArray, List.set_cons_succ, List.set_cons_zero]
                refine wpAnyH_take (i := 25) (v := (.agg #[.string x.key, .int .i64 x.ver, .int .i64 x.asof, .int .i64 x.ends, .slice q x.val.length c])) rfl (by kernel_rfl) (by kernel_rfl) (by kernel_rfl) (fun _ _ _ h => h) (yieldsIf_load_mid (by kernel_rfl) 25 (.tmp 5) rfl w.heap.size 0 rfl ([.string x.key, .int .i64 x.ver, .int .i64 x.asof, .int .i64 x.ends, .slice q x.val.length c]) _ (fun W hw => box_range (heap_stays XD.out hw)) Ite.Tryz.und24.choose_spec rfl (Ite.Tryz.size24)) hS ?_
                change wpAnyH _ _ _ _ _ _ _ (Act.put _ (some 98) _) _
                simp only [Act.put, List.setIfInBounds_toArray, List.set_cons_succ, List.set_cons_zero]
                refine wpAnyH_take (i := 27) (v := (.agg #[.int .i64 lim, .slice p' L'.length cap'])) rfl (by kernel_rfl) (by kernel_rfl) (by kernel_rfl) (fun _ _ _ h => h) (yieldsIf_load_mid (by kernel_rfl) 37 (.tmp 9) rfl bx 0 rfl ([.int .i64 lim, .slice p' L'.length cap']) _ (fun W hw => two_range (Two.stays SD.out.bx hw)) und_rm.choose_spec rfl (size_rm)) hS ?_
                change wpAnyH _ _ _ _ _ _ _ (Act.put _ (some 100) _) _
                simp only [Act.put, List.setIfInBounds_toArray, List.set_cons_succ, List.set_cons_zero]
                refine wpAnyH_take (i := 28) (v := (.agg #[.string x.key, .int .i64 x.ver, .int .i64 x.asof, .int .i64 x.ends, .slice q x.val.length c])) rfl (by kernel_rfl) (by kernel_rfl) (by kernel_rfl) (fun _ _ _ h => h) (yieldsIf_load_mid (by kernel_rfl) 25 (.tmp 5) rfl w.heap.size 0 rfl ([.string x.key, .int .i64 x.ver, .int .i64 x.asof, .int .i64 x.ends, .slice q x.val.length c]) _ (fun W hw => box_range (heap_stays XD.out hw)) Ite.Tryz.und24.choose_spec rfl (Ite.Tryz.size24)) hS ?_
                change wpAnyH _ _ _ _ _ _ _ (Act.put _ (some 101) _) _
                simp only [Act.put, List.setIfInBounds_toArray, List.set_cons_succ, List.set_cons_zero]
                refine wpAnyH_ready (rs := [26]) (by kernel_rfl) (by simp) ?_
                refine AllReadyH.cons rfl (fun K hK => ?_) AllReadyH.nil
                go_simp
                go_wp2_with fail
                refine (show Calls _ _ _ _ _ from (fits_t SD1.out.t x q c HCK.out)).mono ?_
                rintro e y2 ⟨rfl, hy2⟩
                have SD2 := hid2 (SD1.out.below hy2 h0B)
                have By2 := hid2 (Below.trans hS (hy2.mono (Below.size hS)))
                refine hK.out _ _ (By2.out) (fun hS => ?_)
                clear hK K
                skip
                clear hy2
                refine wpAnyH_ready (rs := [29]) (by kernel_rfl) (by simp) ?_
                refine AllReadyH.cons rfl (fun K hK => ?_) AllReadyH.nil
                go_simp
                go_wp2_with fail
                refine (show Calls _ _ _ _ _ from (rfits_t x HCK.out (QD.out.stays By2.out).bs)).mono ?_
                rintro e y3 ⟨rfl, hy3⟩
                have SD3 := hid2 (SD2.out.below hy3 h0B)
                have By3 := hid2 (Below.trans hS (hy3.mono (Below.size hS)))
                refine hK.out _ _ (By3.out) (fun hS => ?_)
                clear hK K
                skip
                clear hy3
                refine wpAnyH_take (i := 30) (v := .bool false) rfl (by kernel_rfl) (by kernel_rfl) (by kernel_rfl) (fun _ _ _ h => h) (Or.inl ⟨by kernel_rfl, ?_⟩) hS ?_
                · intro w hw; clear hw; go_simp
                change wpAnyH _ _ _ _ _ _ _ (Act.put _ (some 103) _) _
                simp only [Act.put, List.setIfInBounds_toArray, List.set_cons_succ, List.set_cons_zero]
                refine wpAnyH_take (i := 31) (v := .bool false) rfl (by kernel_rfl) (by kernel_rfl) (by kernel_rfl) (fun _ _ _ h => h) (Or.inl ⟨by kernel_rfl, ?_⟩) hS ?_
                · intro w hw; clear hw; go_simp
                change wpAnyH _ _ _ _ _ _ _ (Act.put _ (some 104) _) _
                simp only [Act.put, List.setIfInBounds_toArray, List.set_cons_succ, List.set_cons_zero]
                refine wpAnyH_take (i := 32) (v := .bool false) rfl (by kernel_rfl) (by kernel_rfl) (by kernel_rfl) (fun _ _ _ h => h) (Or.inl ⟨by kernel_rfl, ?_⟩) hS ?_
                · intro w hw; clear hw; go_simp
                change wpAnyH _ _ _ _ _ _ _ (Act.put _ (some 105) _) _
                simp only [Act.put, List.setIfInBounds_toArray, List.set_cons_succ, List.set_cons_zero]
                refine wpAnyH_take (i := 33) (v := .pointer (some ⟨g, 0, none⟩)) rfl (by kernel_rfl) (by kernel_rfl) (by kernel_rfl) (fun _ _ _ h => h) (Or.inl ⟨by kernel_rfl, ?_⟩) hS ?_
                · intro w hw; clear hw; go_simp
                change wpAnyH _ _ _ _ _ _ _ (Act.put _ (some 106) _) _
                simp only [Act.put, List.setIfInBounds_toArray, List.set_cons_succ, List.set_cons_zero]
                refine wpAnyH_take (i := 35) (v := (.agg #[.int .i64 lim, .slice p' L'.length cap'])) rfl (by kernel_rfl) (by kernel_rfl) (by kernel_rfl) (fun _ _ _ h => h) (yieldsIf_load_mid (by kernel_rfl) 37 (.tmp 9) rfl bx 0 rfl ([.int .i64 lim, .slice p' L'.length cap']) _ (fun W hw => two_range (Two.stays SD.out.bx hw)) und_rm.choose_spec rfl (size_rm)) hS ?_
                change wpAnyH _ _ _ _ _ _ _ (Act.put _ (some 108) _) _
                simp only [Act.put, List.setIfInBounds_toArray, List.set_cons_succ, List.set_cons_zero]
                refine wpAnyH_ready (rs := [34]) (by kernel_rfl) (by simp) ?_
                refine AllReadyH.cons rfl (fun K hK => ?_) AllReadyH.nil
                go_simp
                go_wp2_with fail
                refine (show Calls _ _ _ _ _ from all_t SD3.out.t).mono ?_
                rintro e y4 ⟨va, rfl, hva, hy4⟩
                have SD4 := hid2 (SD3.out.below hy4 h0B)
                have VA := hid2 hva
                have By4 := hid2 (Below.trans hS (hy4.mono (Below.size hS)))
                refine hK.out _ _ (By4.out) (fun hS => ?_)
                clear hK K
                skip
                clear hy4 hva
                refine wpAnyH_ready (rs := [36]) (by kernel_rfl) (by simp) ?_
                refine AllReadyH.cons rfl (fun K hK => ?_) AllReadyH.nil
                go_simp
                go_wp2_with fail
                refine (show Calls _ _ _ _ _ from rall_t SD4.out.es HFN.out.1 (Nat.le_trans hl6 (by omega)) (Nat.le_trans HBD.out By4.out.size)).mono ?_
                rintro e y5 ⟨vr, rfl, hvr, hy5⟩
                have SD5 := hid2 (SD4.out.below hy5 h0B)
                have VA5 := hid2 (VA.out.stays hy5)
                have VR5 := hid2 hvr
                have By5 := hid2 (Below.trans hS (hy5.mono (Below.size hS)))
                refine hK.out _ _ (By5.out) (fun hS => ?_)
                clear hK K
                skip
                clear hy5 hvr VA
                refine wpAnyH_ready (rs := [37]) (by kernel_rfl) (by simp) ?_
                refine AllReadyH.cons rfl (fun K hK => ?_) AllReadyH.nil
                go_simp
                go_wp2_with fail
                refine (show Calls _ _ _ _ _ from (Ite.sameall_eq VA5.out.es VR5.out.es)).mono ?_
                rintro e y6 ⟨rfl, hy6⟩
                have SD6 := hid2 (SD5.out.below hy6 h0B)
                have By6 := hid2 (Below.trans hS (hy6.mono (Below.size hS)))
                refine hK.out _ _ (By6.out) (fun hS => ?_)
                clear hK K
                skip
                clear hy6
                refine wpAnyH_take (i := 38) (v := .bool false) rfl (by kernel_rfl) (by kernel_rfl) (by kernel_rfl) (fun _ _ _ h => h) (Or.inl ⟨by kernel_rfl, ?_⟩) hS ?_
                · intro w hw; clear hw; go_simp
                change wpAnyH _ _ _ _ _ _ _ (Act.put _ (some 111) _) _
                simp only [Act.put, List.setIfInBounds_toArray, List.set_cons_succ, List.set_cons_zero]
                refine wpAnyH_take (i := 39) (v := .bool false) rfl (by kernel_rfl) (by kernel_rfl) (by kernel_rfl) (fun _ _ _ h => h) (Or.inl ⟨by kernel_rfl, ?_⟩) hS ?_
                · intro w hw; clear hw; go_simp
                change wpAnyH _ _ _ _ _ _ _ (Act.put _ (some 112) _) _
                simp only [Act.put, List.setIfInBounds_toArray, List.set_cons_succ, List.set_cons_zero]
                refine wpAnyH_done (by kernel_rfl) ?_ _
                clear hS
                go_wp2
                go_roundg (os.length - (k + 1))
                case measure => rw [HG.out]; omega
                case rel => exact ⟨k + 1, L', p', cap', by omega, rfl, by go_num, HO2.out, SD6.out⟩
            · have hki : ¬ ((k : Int) < (os.length : Int)) := by omega
              go_wp2_with fail
              refine (KW.out _ SR.out.be).mono ?_
              rintro e wk ⟨rfl, bk⟩
              have BK := hid2 (HAB.out.trans ((Below.trans SR.out.be (bk.mono (Below.size SR.out.be))).mono HAB.out.size))
              clear bk
              go_wp2
              go_ret
              exact ⟨rfl, BK.out⟩
      · generalize checkE x = ck at *
        have hckb : (ck != 0) = true := by simpa using hck
        by_cases hb2 : 20000 < limit
        · have hb3 : ¬ limit ≤ 1048576 := by omega
          clear hg
          go_enter Tryz.func3, Tryz.ntmps3
          go_upto_region 1 with fail
          rw [← HWB.out]
          go_wp2_with fail
          refine (show Calls _ _ _ _ _ from KL.out).mono ?_
          rintro e w0 ⟨rfl, hb0⟩
          have B0 := hid2 hb0
          have X0 := hid2 (heap_stays XB.out hb0)
          clear hb0
          obtain ⟨⟨q0, q1, q2, q3, q4⟩, qf⟩ := Ite.five24 X0.out
          go_wp2_with fail
          refine (show Calls _ _ _ _ _ from KC.out _).mono ?_
          rintro e w1 ⟨rfl, hb1⟩
          have B1 := hid2 (B0.out.trans (hb1.mono B0.out.size))
          clear hb1 q0 q1 q2 q3 q4 qf
          go_wp2_with fail
          refine (KW.out _ B1.out).mono ?_
          rintro e wk ⟨rfl, bk⟩
          have BK := hid2 (HAB.out.trans ((Below.trans B1.out (bk.mono (Below.size B1.out))).mono HAB.out.size))
          clear bk
          go_wp2
          go_ret
          exact ⟨rfl, BK.out⟩

        · clear hg
          go_enter Tryz.func3, Tryz.ntmps3
          go_upto_region 1 with fail
          rw [← HWB.out]
          go_wp2_with fail
          refine (show Calls _ _ _ _ _ from KL.out).mono ?_
          rintro e w0 ⟨rfl, hb0⟩
          have B0 := hid2 hb0
          have X0 := hid2 (heap_stays XB.out hb0)
          clear hb0
          obtain ⟨⟨q0, q1, q2, q3, q4⟩, qf⟩ := Ite.five24 X0.out
          go_wp2_with fail
          refine (show Calls _ _ _ _ _ from KC.out _).mono ?_
          rintro e w1 ⟨rfl, hb1⟩
          have B1 := hid2 (B0.out.trans (hb1.mono B0.out.size))
          clear hb1 q0 q1 q2 q3 q4 qf
          go_wp2_with fail
          refine (KW.out _ B1.out).mono ?_
          rintro e wk ⟨rfl, bk⟩
          have BK := hid2 (HAB.out.trans ((Below.trans B1.out (bk.mono (Below.size B1.out))).mono HAB.out.size))
          clear bk
          go_wp2
          go_ret
          exact ⟨rfl, BK.out⟩

end Go.Proofs.YtkgecpplgjfhiaaGreatDoor
