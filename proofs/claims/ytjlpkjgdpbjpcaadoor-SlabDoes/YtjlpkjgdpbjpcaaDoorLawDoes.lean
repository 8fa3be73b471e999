/-
  The walk of the law SlabDoes.
-/
import Derived.Test.YtjlpkjgdpbjpcaaDoorLawDoesA
namespace Go.Proofs.YtjlpkjgdpbjpcaaDoor
open Go.RowKit

set_option maxHeartbeats 16000000 in
set_option maxRecDepth 10000 in
theorem does_good {w : World} {v : Value} {os : List Act8} (hs : ActsAt w v os) (hE : ErrT w) (lim n : Int) (h60 : os.length ≤ 60) (hl1 : 1 ≤ lim) (hl2 : lim ≤ 1099511627776) : Calls Tryd.prog 4 #[.int .i64 lim, v, .int .i64 n] w fun e w' => e = .returned (.bool true) ∧ Below w.heap.size w w' := by
  obtain ⟨p, cap, rfl, hc1, hc2, hel⟩ := hs
  unfold maxLen at hc2
  have HEL := hid2 hel
  have HE := hid2 hE
  have hg0 : ¬ 60 < (os.length : Int) := by omega
  obtain ⟨g, hgw⟩ : ∃ g, g = w.heap.size := ⟨_, rfl⟩
  have KN := new_good w lim hl1 hl2
  rw [← hgw] at KN
  have HN := hid2 KN
  have HR := hid2 (fun W => rnew_good W lim hl1 hl2)
  have HW : Hid (g = w.heap.size) := hgw
  have hmf : ∀ (fn : Fn) (first cap : Array Value) (w : World), (Instr.makeFunc fn first cap).run Tryd.prog w = .ok (.func fn first cap) w := fun _ _ _ _ => rfl
  clear hel hE KN hgw
  go_enter Tryd.func4, Tryd.ntmps4
  go_wp2_with fail
  refine (show Calls _ _ _ _ _ from HN.out).mono ?_
  rintro e w1 ⟨rfl, g1, b1⟩
  have G1 := hid2 g1
  have B1 : Hid (Below w.heap.size w w1) := by show Below _ _ _; rw [← HW.out]; exact b1
  clear g1 b1 HN
  go_wp2_with fail
  refine (show Calls _ _ _ _ _ from HR.out _).mono ?_
  rintro e w2 ⟨rfl, b2⟩
  have G2 := hid2 (G1.out.stays b2)
  have B2 := hid2 (B1.out.trans (b2.mono B1.out.size))
  clear b2 HR
  have A3 : Below w2.heap.size w2 (w2.alloc (.cells #[.int .i64 lim, .slice none 0 0] 33)) := by go_grown
  have T3r := heap_alloc_new w2 (.cells #[.int .i64 lim, .slice none 0 0] 33)
  obtain ⟨w3, hw3⟩ : ∃ w3, w3 = w2.alloc (.cells #[.int .i64 lim, .slice none 0 0] 33) := ⟨_, rfl⟩
  obtain ⟨tb, htb⟩ : ∃ tb, tb = w2.heap.size := ⟨_, rfl⟩
  rw [← hw3] at A3 T3r
  rw [← htb] at T3r
  have G3 := hid2 (G2.out.stays A3)
  have B3 := hid2 (B2.out.trans (A3.mono B2.out.size))
  have T3 : Hid (Two w3 tb (.int .i64 lim) (.slice none 0 0)) := T3r
  have HTB : Hid (w.heap.size ≤ tb) := by show _ ≤ _; rw [htb]; exact B2.out.size
  have HW3 := hid2 hw3
  have HTB2 := hid2 htb
  clear A3 hw3 htb T3r
  go_wp2_with fail
  rw [← HW3.out, ← HTB2.out]
  refine (of_code (HE.out.below B3.out) (.inl ⟨rfl, rfl⟩)).mono ?_
  rintro e w4 ⟨rfl, b4⟩
  have B4 := hid2 (B3.out.trans (b4.mono B3.out.size))
  have G4 := hid2 (G3.out.stays b4)
  have T4 := hid2 (T3.out.stays b4)
  clear b4 G1 B1 G2 B2 G3 B3 T3 HW3 HTB2 w1 w2 w3
  go_wp2_with fail
  go_loopg [11] os.length (fun gk i wr => ∃ (k : Nat) (l : List Int) (sv : Value), k ≤ os.length ∧ gk = os.length - k ∧ i = .int .i64 (k : Int) ∧ Bg wr g lim l ∧ BudOk lim l ∧ Two wr tb (.int .i64 lim) sv ∧ Ls wr sv l ∧ l.length ≤ 50 * k ∧ Below w.heap.size w wr)
  case atStart => exact ⟨0, [], _, Nat.zero_le _, rfl, rfl, G4.out, BudOk.new hl1 hl2, T4.out, Ls.nil _, by simp, B4.out⟩
  case round =>
    clear G4 T4 B4 w4
    obtain ⟨k, l, sv, hk, hgk, rfl, h1, h2, h3, h4, h5, h6⟩ := hrel
    have HG := hid2 hgk
    have H1 := hid2 h1
    have H2 := hid2 h2
    have H3 := hid2 h3
    have H4 := hid2 h4
    have H6 := hid2 h6
    clear hgk h1 h2 h3 h6
    by_cases hlt : k < os.length
    · obtain ⟨o, ho⟩ : ∃ o, os[k]? = some o := ⟨os[k], List.getElem?_eq_getElem hlt⟩
      obtain ⟨b, off, rfl, q0, q1, q2, q3, i1, i2, i3⟩ := HEL.out k o ho
      have c1 := (H6.out.cell (p := ⟨b, off + k * 3, none⟩) q0).trans q1
      have c2 := (H6.out.cell (p := ⟨b, off + k * 3 + 1, none⟩) q0).trans q2
      have c3 := (H6.out.cell (p := ⟨b, off + k * 3 + 2, none⟩) q0).trans q3
      have c4 : b < wr.heap.size := Nat.lt_of_lt_of_le q0 H6.out.size
      obtain ⟨kd, cl, nn⟩ := o
      simp only at c1 c2 c3 i1 i2 i3
      unfold I64 at i1 i2 i3
      obtain ⟨ps, cs, rfl, z1, z2, z3⟩ := h4.each
      unfold maxLen at z2
      clear z3
      have A7 : Below wr.heap.size wr (wr.alloc (.cells #[.int .i64 kd, .int .i64 cl, .int .i64 nn] 39)) := by go_grown
      have T7r := heap_alloc_new wr (.cells #[.int .i64 kd, .int .i64 cl, .int .i64 nn] 39)
      obtain ⟨w7, hw7⟩ : ∃ w7, w7 = wr.alloc (.cells #[.int .i64 kd, .int .i64 cl, .int .i64 nn] 39) := ⟨_, rfl⟩
      obtain ⟨ob, hob⟩ : ∃ ob, ob = wr.heap.size := ⟨_, rfl⟩
      rw [← hw7] at A7 T7r
      rw [← hob] at T7r
      have G7 := hid2 (H1.out.stays A7)
      have R7 := hid2 (H3.out.stays A7)
      have L7 := hid2 (H4.out.stays A7)
      have B7 := hid2 (H6.out.trans (A7.mono H6.out.size))
      have T7 : Hid (Thr w7 ob kd cl nn) := T7r
      have HW7 := hid2 hw7
      have HOB := hid2 hob
      clear T7r q0 q1 q2 q3 ho A7 hw7 hob h4 H1 H3 H4 H6
      go_upto_block 2 with fail
      rw [← HW7.out, ← HOB.out]
      clear c1 c2 c3 c4 HW7 HOB wr
      go_cut [] (fun wx => St w wx g tb ob lim kd cl nn (50 * k + 50))
      case first =>
        by_cases k0 : kd = 0
        · subst k0
          as_aux_lemma =>
            obtain ⟨l3, x3, hP⟩ : ∃ l3 x3, takeP lim l cl = (l3, x3) := ⟨_, _, rfl⟩
            have hlen := take_len (lim := lim) (l := l) (c := cl)
            have O3 := H2.out.take cl
            have KR := rtake_any L7.out (by omega) H2.out cl
            have KP : ∀ W, Bg W g lim l → _ := fun W k => take_bg k H2.out cl
            rw [hP] at hlen O3 KR KP
            simp only at hlen O3
            have HKR := hid2 KR
            have HKP := hid2 KP
            have HO3 := hid2 O3
            obtain ⟨e0, e1, e2, e3⟩ := R7.out.cells
            obtain ⟨x0, x1, x2, x4⟩ := T7.out.cells
            clear hP O3 KR KP
            go_wp2_with fail
            refine (show Calls _ _ _ _ _ from HKR.out).mono ?_
            rintro e w8 ⟨sv8, rfl, l8, b8⟩
            obtain ⟨ps8, cs8, rfl, m1, m2, m3⟩ := l8.each
            have g8 := Bg.stays G7.out b8
            have r8 := Two.stays R7.out b8
            have t8 := Thr.stays T7.out b8
            have B8 := hid2 (Below.trans B7.out (b8.mono (Below.size B7.out)))
            obtain ⟨w9, hw9⟩ : ∃ w9, w9 = (w8.setCell ⟨tb, 0, none⟩ (.int .i64 lim)).setCell ⟨tb, 1, none⟩ (.slice ps8 l3.length cs8) := ⟨_, rfl⟩
            have Q9 : w8.grownBy w9 (some tb) := by rw [hw9]; exact grown_set (grown_set (World.grownBy.refl _ _) _ _) _ _
            have R9 : Hid (Two w9 tb (.int .i64 lim) (.slice ps8 l3.length cs8)) := by show Two _ _ _ _; rw [hw9]; exact r8.set2 _ _
            have G9 := hid2 (g8.other Q9 r8 (by decide))
            have L9 := hid2 (l8.grown Q9 r8 (by decide))
            have T9 := hid2 (t8.grown Q9 r8 (by decide))
            have B9 : Hid (Below w.heap.size w w9) := B8.out.grown Q9 B8.out.size (fun k hk => by cases hk; exact HTB.out)
            obtain ⟨d0, d1, d2, d3⟩ := r8.cells
            obtain ⟨f0, f1, f2, f3⟩ := T9.out.cells
            rw [hw9] at f0 f1 f2 f3
            have HW9 := hid2 hw9
            clear m1 m2 m3 g8 r8 t8 l8 b8 Q9 hw9
            go_wp2_with fail
            rw [← HW9.out]
            refine (show Calls _ _ _ _ _ from HKP.out _ G9.out).mono ?_
            rintro e wa ⟨va, rfl, fa, ga, ra⟩
            have GA := hid2 ga
            have RA := hid2 (R9.out.other ra G9.out (by decide))
            have LA := hid2 (L9.out.grown ra G9.out (by decide))
            have TA := hid2 (T9.out.grown ra G9.out (by decide))
            have BA : Hid (Below w.heap.size w wa) := B9.out.grown ra B9.out.size (fun k hk => by cases hk; exact Nat.le_of_eq HW.out.symm)
            have FA := hid2 fa
            clear ga fa ra HW9 d0 d1 d2 d3 f0 f1 f2 f3 e0 e1 e2 e3 x0 x1 x2 x4
            go_wp2_with fail
            refine (of_code (HE.out.below BA.out) FA.out.fault).mono ?_
            rintro e wb ⟨rfl, bb⟩
            have HBB := hid2 bb
            clear bb
            go_wp2
            go_meet
            case rel => exact ⟨l3, _, GA.out.stays HBB.out, HO3.out, RA.out.stays HBB.out, LA.out.stays HBB.out, by omega, BA.out.trans (HBB.out.mono BA.out.size), TA.out.stays HBB.out⟩
        · have kb0 : (kd == 0) = false := by simpa using k0
          by_cases k1 : kd = 1
          · subst k1
            as_aux_lemma =>
              obtain ⟨l3, x3, hP⟩ : ∃ l3 x3, giveP l cl = (l3, x3) := ⟨_, _, rfl⟩
              have hlen := give_len (l := l) (c := cl)
              have O3 := H2.out.give cl
              have KR := rgive_any (lim := lim) L7.out (by omega) cl
              have KP : ∀ W, Bg W g lim l → _ := fun W k => give_bg k H2.out cl
              rw [hP] at hlen O3 KR KP
              simp only at hlen O3
              have HKR := hid2 KR
              have HKP := hid2 KP
              have HO3 := hid2 O3
              obtain ⟨e0, e1, e2, e3⟩ := R7.out.cells
              obtain ⟨x0, x1, x2, x4⟩ := T7.out.cells
              clear hP O3 KR KP
              go_wp2_with fail
              refine (show Calls _ _ _ _ _ from HKR.out).mono ?_
              rintro e w8 ⟨sv8, rfl, l8, b8⟩
              obtain ⟨ps8, cs8, rfl, m1, m2, m3⟩ := l8.each
              have g8 := Bg.stays G7.out b8
              have r8 := Two.stays R7.out b8
              have t8 := Thr.stays T7.out b8
              have B8 := hid2 (Below.trans B7.out (b8.mono (Below.size B7.out)))
              obtain ⟨w9, hw9⟩ : ∃ w9, w9 = (w8.setCell ⟨tb, 0, none⟩ (.int .i64 lim)).setCell ⟨tb, 1, none⟩ (.slice ps8 l3.length cs8) := ⟨_, rfl⟩
              have Q9 : w8.grownBy w9 (some tb) := by rw [hw9]; exact grown_set (grown_set (World.grownBy.refl _ _) _ _) _ _
              have R9 : Hid (Two w9 tb (.int .i64 lim) (.slice ps8 l3.length cs8)) := by show Two _ _ _ _; rw [hw9]; exact r8.set2 _ _
              have G9 := hid2 (g8.other Q9 r8 (by decide))
              have L9 := hid2 (l8.grown Q9 r8 (by decide))
              have T9 := hid2 (t8.grown Q9 r8 (by decide))
              have B9 : Hid (Below w.heap.size w w9) := B8.out.grown Q9 B8.out.size (fun k hk => by cases hk; exact HTB.out)
              obtain ⟨d0, d1, d2, d3⟩ := r8.cells
              obtain ⟨f0, f1, f2, f3⟩ := T9.out.cells
              rw [hw9] at f0 f1 f2 f3
              have HW9 := hid2 hw9
              clear m1 m2 m3 g8 r8 t8 l8 b8 Q9 hw9
              go_wp2_with fail
              rw [← HW9.out]
              refine (show Calls _ _ _ _ _ from HKP.out _ G9.out).mono ?_
              rintro e wa ⟨va, rfl, fa, ga, ra⟩
              have GA := hid2 ga
              have RA := hid2 (R9.out.other ra G9.out (by decide))
              have LA := hid2 (L9.out.grown ra G9.out (by decide))
              have TA := hid2 (T9.out.grown ra G9.out (by decide))
              have BA : Hid (Below w.heap.size w wa) := B9.out.grown ra B9.out.size (fun k hk => by cases hk; exact Nat.le_of_eq HW.out.symm)
              have FA := hid2 fa
              clear ga fa ra HW9 d0 d1 d2 d3 f0 f1 f2 f3 e0 e1 e2 e3 x0 x1 x2 x4
              go_wp2_with fail
              refine (of_code (HE.out.below BA.out) FA.out.fault).mono ?_
              rintro e wb ⟨rfl, bb⟩
              have HBB := hid2 bb
              clear bb
              go_wp2
              go_meet
              case rel => exact ⟨l3, _, GA.out.stays HBB.out, HO3.out, RA.out.stays HBB.out, LA.out.stays HBB.out, by omega, BA.out.trans (HBB.out.mono BA.out.size), TA.out.stays HBB.out⟩
          · have kb1 : (kd == 1) = false := by simpa using k1
            by_cases hnn : 50 < nn
            · obtain ⟨x0, x1, x2, x4⟩ := T7.out.cells
              go_wp2_with fail
              refine (works_any (HE.out.below B7.out)).mono ?_
              rintro e w8 ⟨rfl, b8⟩
              go_wp2
              go_ret
              exact ⟨rfl, B7.out.trans (b8.mono B7.out.size)⟩
            · by_cases k2 : kd = 2
              · subst k2
                as_aux_lemma =>
                  obtain ⟨NN, hNN⟩ : ∃ NN, NN = nn.toNat := ⟨_, rfl⟩
                  have hNn : ∀ k : Nat, (k : Int) < nn ↔ k < NN := fun k => by omega
                  have hN2 : NN ≤ 50 := by omega
                  have HNN := hid2 hNn
                  have HNT := hid2 hNN
                  obtain ⟨x0, x1, x2, x4⟩ := T7.out.cells
                  clear hNN hNn
                  go_wp2_with fail
                  go_loopg [13, 14] (NN + 1) (fun gj x j wi => ∃ (jn : Nat) (xc : Int) (l' : List Int) (ps' : Option Addr) (cs' : Nat), x = .int .i64 xc ∧ j = .int .i64 (jn : Int) ∧ Bg wi g lim l ∧ Two wi tb (.int .i64 lim) (.slice ps' l'.length cs') ∧ Ls wi (.slice ps' l'.length cs') l' ∧ BudOk lim l' ∧ Thr wi ob 2 cl nn ∧ Below w.heap.size w wi ∧ jn ≤ NN ∧ l'.length ≤ 50 * k + jn ∧ ((xc = 0 ∧ gj = NN - jn + 1 ∧ manyP (fun l => takeP lim l cl) NN l = (jn + (manyP (fun l => takeP lim l cl) (NN - jn) l').1, (manyP (fun l => takeP lim l cl) (NN - jn) l').2)) ∨ (xc ≠ 0 ∧ gj = 0 ∧ manyP (fun l => takeP lim l cl) NN l = (jn, l'))))
                  case atStart => exact ⟨0, 0, l, ps, cs, rfl, rfl, G7.out, R7.out, L7.out, H2.out, T7.out, B7.out, Nat.zero_le _, by omega, .inl ⟨rfl, rfl, by simp⟩⟩
                  case round =>
                    clear x0 x1 x2 x4 G7 R7 L7 B7 T7 w7 z1 z2 ps cs
                    obtain ⟨jn, xc, l', ps', cs', rfl, rfl, p1, p2, p3, p4, p5, p6, p7, p8, p9⟩ := hrel
                    obtain ⟨_, _, e9, z1, z2, z3⟩ := p3.each
                    cases e9
                    unfold maxLen at z2
                    have P1 := hid2 p1
                    have P2 := hid2 p2
                    have P3 := hid2 p3
                    have P4 := hid2 p4
                    have P5 := hid2 p5
                    have P6 := hid2 p6
                    clear p1 p2 p3 p4 p5 p6 z3
                    have hjn : (jn : Int) ≤ 50 := by omega
                    rcases p9 with ⟨rfl, hgj, hman⟩ | ⟨hxc, hgj, hman⟩
                    · have HGJ := hid2 hgj
                      have HMAN := hid2 hman
                      clear hgj hman
                      by_cases hjl : jn < NN
                      · have hjl2 := (HNN.out jn).2 hjl
                        obtain ⟨l3, x3, hP⟩ : ∃ l3 x3, takeP lim l' cl = (l3, x3) := ⟨_, _, rfl⟩
                        have hlen := take_len (lim := lim) (l := l') (c := cl)
                        have hsame := take_same (lim := lim) (l := l') (c := cl)
                        have O3 := P4.out.take cl
                        have KR := rtake_any P3.out (by omega) P4.out cl
                        have HM := manyP_succ (fun l => takeP lim l cl) (NN - jn - 1) l'
                        rw [hP] at hlen O3 KR HM hsame
                        simp only at hlen O3 hsame
                        have HKR := hid2 KR
                        have HO3 := hid2 O3
                        have HHM := hid2 HM
                        have HSAME := hid2 hsame
                        obtain ⟨e0, e1, e2, e3⟩ := P2.out.cells
                        obtain ⟨x0, x1, x2, x4⟩ := P5.out.cells
                        clear hP O3 KR HM hsame
                        by_cases hx3 : x3 = 0
                        · subst hx3
                          go_wp2_with fail
                          refine (show Calls _ _ _ _ _ from HKR.out).mono ?_
                          rintro e w8 ⟨sv8, rfl, l8, b8⟩
                          obtain ⟨ps8, cs8, rfl, m1, m2, m3⟩ := l8.each
                          have g8 := Bg.stays P1.out b8
                          have r8 := Two.stays P2.out b8
                          have t8 := Thr.stays P5.out b8
                          have B8 := hid2 (Below.trans P6.out (b8.mono (Below.size P6.out)))
                          obtain ⟨w9, hw9⟩ : ∃ w9, w9 = (w8.setCell ⟨tb, 0, none⟩ (.int .i64 lim)).setCell ⟨tb, 1, none⟩ (.slice ps8 l3.length cs8) := ⟨_, rfl⟩
                          have Q9 : w8.grownBy w9 (some tb) := by rw [hw9]; exact grown_set (grown_set (World.grownBy.refl _ _) _ _) _ _
                          have R9 : Hid (Two w9 tb (.int .i64 lim) (.slice ps8 l3.length cs8)) := by show Two _ _ _ _; rw [hw9]; exact r8.set2 _ _
                          have G9 := hid2 (g8.other Q9 r8 (by decide))
                          have L9 := hid2 (l8.grown Q9 r8 (by decide))
                          have T9 := hid2 (t8.grown Q9 r8 (by decide))
                          have B9 : Hid (Below w.heap.size w w9) := B8.out.grown Q9 B8.out.size (fun k hk => by cases hk; exact HTB.out)
                          obtain ⟨d0, d1, d2, d3⟩ := r8.cells
                          obtain ⟨f0, f1, f2, f3⟩ := T9.out.cells
                          rw [hw9] at f0 f1 f2 f3
                          have HW9 := hid2 hw9
                          clear m1 m2 m3 g8 r8 t8 l8 b8 Q9 hw9
                          go_wp2_with fail
                          rw [← HW9.out]
                          go_roundg (NN - (jn + 1) + 1)
                          case measure => rw [HGJ.out]; omega
                          case rel =>
                            refine ⟨jn + 1, 0, l3, ps8, cs8, rfl, by go_num, G9.out, R9.out, L9.out, HO3.out, T9.out, B9.out, by omega, by omega, .inl ⟨rfl, rfl, ?_⟩⟩
                            have e := HHM.out
                            rw [if_pos trivial, show NN - jn - 1 + 1 = NN - jn by omega] at e
                            rw [HMAN.out, e, show NN - (jn + 1) = NN - jn - 1 by omega]
                            simp only [Prod.mk.injEq, and_true]
                            omega
                        · have hx3b : (x3 == 0) = false := by simpa using hx3
                          go_wp2_with fail
                          refine (show Calls _ _ _ _ _ from HKR.out).mono ?_
                          rintro e w8 ⟨sv8, rfl, l8, b8⟩
                          obtain ⟨ps8, cs8, rfl, m1, m2, m3⟩ := l8.each
                          have g8 := Bg.stays P1.out b8
                          have r8 := Two.stays P2.out b8
                          have t8 := Thr.stays P5.out b8
                          have B8 := hid2 (Below.trans P6.out (b8.mono (Below.size P6.out)))
                          obtain ⟨w9, hw9⟩ : ∃ w9, w9 = (w8.setCell ⟨tb, 0, none⟩ (.int .i64 lim)).setCell ⟨tb, 1, none⟩ (.slice ps8 l3.length cs8) := ⟨_, rfl⟩
                          have Q9 : w8.grownBy w9 (some tb) := by rw [hw9]; exact grown_set (grown_set (World.grownBy.refl _ _) _ _) _ _
                          have R9 : Hid (Two w9 tb (.int .i64 lim) (.slice ps8 l3.length cs8)) := by show Two _ _ _ _; rw [hw9]; exact r8.set2 _ _
                          have G9 := hid2 (g8.other Q9 r8 (by decide))
                          have L9 := hid2 (l8.grown Q9 r8 (by decide))
                          have T9 := hid2 (t8.grown Q9 r8 (by decide))
                          have B9 : Hid (Below w.heap.size w w9) := B8.out.grown Q9 B8.out.size (fun k hk => by cases hk; exact HTB.out)
                          obtain ⟨d0, d1, d2, d3⟩ := r8.cells
                          obtain ⟨f0, f1, f2, f3⟩ := T9.out.cells
                          rw [hw9] at f0 f1 f2 f3
                          have HW9 := hid2 hw9
                          clear m1 m2 m3 g8 r8 t8 l8 b8 Q9 hw9
                          go_wp2_with fail
                          rw [← HW9.out]
                          go_roundg 0
                          case measure => rw [HGJ.out]; omega
                          case rel =>
                            refine ⟨jn, x3, l3, ps8, cs8, rfl, rfl, G9.out, R9.out, L9.out, HO3.out, T9.out, B9.out, by omega, by have := HSAME.out hx3; rw [this]; omega, .inr ⟨hx3, rfl, ?_⟩⟩
                            have e := HHM.out
                            rw [if_neg hx3, show NN - jn - 1 + 1 = NN - jn by omega] at e
                            rw [HMAN.out, e]
                            simp
                      · have hjl2 : ¬ (jn : Int) < nn := fun h => hjl ((HNN.out jn).1 h)
                        have HZ : Hid (manyP (fun l => takeP lim l cl) nn.toNat l = (jn, l')) := by
                          show _ = _
                          rw [← HNT.out, HMAN.out, show NN - jn = 0 by omega]
                          rfl
                        have KA := fill_bg (n := nn) (by omega) P1.out H2.out cl
                        have hz := HZ.out
                        rw [hz] at KA
                        simp only at KA
                        have HKA := hid2 KA
                        obtain ⟨x0, x1, x2, x4⟩ := P5.out.cells
                        clear KA hz
                        go_wp2_with fail
                        refine (show Calls _ _ _ _ _ from HKA.out).mono ?_
                        rintro e wa ⟨rfl, ga, ra⟩
                        have GA := hid2 ga
                        have RA := hid2 (P2.out.other ra P1.out (by decide))
                        have LA := hid2 (P3.out.grown ra P1.out (by decide))
                        have TA := hid2 (P5.out.grown ra P1.out (by decide))
                        have BA : Hid (Below w.heap.size w wa) := P6.out.grown ra P6.out.size (fun k hk => by cases hk; exact Nat.le_of_eq HW.out.symm)
                        obtain ⟨y0, y1, y2, y4⟩ := TA.out.cells
                        clear ga ra x0 x1 x2 x4
                        go_wp2
                        go_meet
                        case rel => exact ⟨l', _, GA.out, P4.out, RA.out, LA.out, by omega, BA.out, TA.out⟩
                    · have HMAN := hid2 hman
                      have hxcb : (xc == 0) = false := by simpa using hxc
                      have HZ : Hid (manyP (fun l => takeP lim l cl) nn.toNat l = (jn, l')) := by
                        show _ = _
                        rw [← HNT.out]
                        exact HMAN.out
                      clear hgj hman
                      by_cases hjl2 : (jn : Int) < nn
                      · have KA := fill_bg (n := nn) (by omega) P1.out H2.out cl
                        have hz := HZ.out
                        rw [hz] at KA
                        simp only at KA
                        have HKA := hid2 KA
                        obtain ⟨x0, x1, x2, x4⟩ := P5.out.cells
                        clear KA hz
                        go_wp2_with fail
                        refine (show Calls _ _ _ _ _ from HKA.out).mono ?_
                        rintro e wa ⟨rfl, ga, ra⟩
                        have GA := hid2 ga
                        have RA := hid2 (P2.out.other ra P1.out (by decide))
                        have LA := hid2 (P3.out.grown ra P1.out (by decide))
                        have TA := hid2 (P5.out.grown ra P1.out (by decide))
                        have BA : Hid (Below w.heap.size w wa) := P6.out.grown ra P6.out.size (fun k hk => by cases hk; exact Nat.le_of_eq HW.out.symm)
                        obtain ⟨y0, y1, y2, y4⟩ := TA.out.cells
                        clear ga ra x0 x1 x2 x4
                        go_wp2
                        go_meet
                        case rel => exact ⟨l', _, GA.out, P4.out, RA.out, LA.out, by omega, BA.out, TA.out⟩
                      · have KA := fill_bg (n := nn) (by omega) P1.out H2.out cl
                        have hz := HZ.out
                        rw [hz] at KA
                        simp only at KA
                        have HKA := hid2 KA
                        obtain ⟨x0, x1, x2, x4⟩ := P5.out.cells
                        clear KA hz
                        go_wp2_with fail
                        refine (show Calls _ _ _ _ _ from HKA.out).mono ?_
                        rintro e wa ⟨rfl, ga, ra⟩
                        have GA := hid2 ga
                        have RA := hid2 (P2.out.other ra P1.out (by decide))
                        have LA := hid2 (P3.out.grown ra P1.out (by decide))
                        have TA := hid2 (P5.out.grown ra P1.out (by decide))
                        have BA : Hid (Below w.heap.size w wa) := P6.out.grown ra P6.out.size (fun k hk => by cases hk; exact Nat.le_of_eq HW.out.symm)
                        obtain ⟨y0, y1, y2, y4⟩ := TA.out.cells
                        clear ga ra x0 x1 x2 x4
                        go_wp2
                        go_meet
                        case rel => exact ⟨l', _, GA.out, P4.out, RA.out, LA.out, by omega, BA.out, TA.out⟩
              · have kb2 : (kd == 2) = false := by simpa using k2
                by_cases k3 : kd = 3
                · subst k3
                  as_aux_lemma =>
                    obtain ⟨NN, hNN⟩ : ∃ NN, NN = nn.toNat := ⟨_, rfl⟩
                    have hNn : ∀ k : Nat, (k : Int) < nn ↔ k < NN := fun k => by omega
                    have hN2 : NN ≤ 50 := by omega
                    have HNN := hid2 hNn
                    have HNT := hid2 hNN
                    obtain ⟨x0, x1, x2, x4⟩ := T7.out.cells
                    clear hNN hNn
                    go_wp2_with fail
                    go_loopg [13, 14] (NN + 1) (fun gj x j wi => ∃ (jn : Nat) (xc : Int) (l' : List Int) (ps' : Option Addr) (cs' : Nat), x = .int .i64 xc ∧ j = .int .i64 (jn : Int) ∧ Bg wi g lim l ∧ Two wi tb (.int .i64 lim) (.slice ps' l'.length cs') ∧ Ls wi (.slice ps' l'.length cs') l' ∧ BudOk lim l' ∧ Thr wi ob 3 cl nn ∧ Below w.heap.size w wi ∧ jn ≤ NN ∧ l'.length ≤ 50 * k + jn ∧ ((xc = 0 ∧ gj = NN - jn + 1 ∧ manyP (fun l => giveP l cl) NN l = (jn + (manyP (fun l => giveP l cl) (NN - jn) l').1, (manyP (fun l => giveP l cl) (NN - jn) l').2)) ∨ (xc ≠ 0 ∧ gj = 0 ∧ manyP (fun l => giveP l cl) NN l = (jn, l'))))
                    case atStart => exact ⟨0, 0, l, ps, cs, rfl, rfl, G7.out, R7.out, L7.out, H2.out, T7.out, B7.out, Nat.zero_le _, by omega, .inl ⟨rfl, rfl, by simp⟩⟩
                    case round =>
                      clear x0 x1 x2 x4 G7 R7 L7 B7 T7 w7 z1 z2 ps cs
                      obtain ⟨jn, xc, l', ps', cs', rfl, rfl, p1, p2, p3, p4, p5, p6, p7, p8, p9⟩ := hrel
                      obtain ⟨_, _, e9, z1, z2, z3⟩ := p3.each
                      cases e9
                      unfold maxLen at z2
                      have P1 := hid2 p1
                      have P2 := hid2 p2
                      have P3 := hid2 p3
                      have P4 := hid2 p4
                      have P5 := hid2 p5
                      have P6 := hid2 p6
                      clear p1 p2 p3 p4 p5 p6 z3
                      have hjn : (jn : Int) ≤ 50 := by omega
                      rcases p9 with ⟨rfl, hgj, hman⟩ | ⟨hxc, hgj, hman⟩
                      · have HGJ := hid2 hgj
                        have HMAN := hid2 hman
                        clear hgj hman
                        by_cases hjl : jn < NN
                        · have hjl2 := (HNN.out jn).2 hjl
                          obtain ⟨l3, x3, hP⟩ : ∃ l3 x3, giveP l' cl = (l3, x3) := ⟨_, _, rfl⟩
                          have hlen := give_len (l := l') (c := cl)
                          have hsame := give_same (l := l') (c := cl)
                          have O3 := P4.out.give cl
                          have KR := rgive_any (lim := lim) P3.out (by omega) cl
                          have HM := manyP_succ (fun l => giveP l cl) (NN - jn - 1) l'
                          rw [hP] at hlen O3 KR HM hsame
                          simp only at hlen O3 hsame
                          have HKR := hid2 KR
                          have HO3 := hid2 O3
                          have HHM := hid2 HM
                          have HSAME := hid2 hsame
                          obtain ⟨e0, e1, e2, e3⟩ := P2.out.cells
                          obtain ⟨x0, x1, x2, x4⟩ := P5.out.cells
                          clear hP O3 KR HM hsame
                          by_cases hx3 : x3 = 0
                          · subst hx3
                            go_wp2_with fail
                            refine (show Calls _ _ _ _ _ from HKR.out).mono ?_
                            rintro e w8 ⟨sv8, rfl, l8, b8⟩
                            obtain ⟨ps8, cs8, rfl, m1, m2, m3⟩ := l8.each
                            have g8 := Bg.stays P1.out b8
                            have r8 := Two.stays P2.out b8
                            have t8 := Thr.stays P5.out b8
                            have B8 := hid2 (Below.trans P6.out (b8.mono (Below.size P6.out)))
                            obtain ⟨w9, hw9⟩ : ∃ w9, w9 = (w8.setCell ⟨tb, 0, none⟩ (.int .i64 lim)).setCell ⟨tb, 1, none⟩ (.slice ps8 l3.length cs8) := ⟨_, rfl⟩
                            have Q9 : w8.grownBy w9 (some tb) := by rw [hw9]; exact grown_set (grown_set (World.grownBy.refl _ _) _ _) _ _
                            have R9 : Hid (Two w9 tb (.int .i64 lim) (.slice ps8 l3.length cs8)) := by show Two _ _ _ _; rw [hw9]; exact r8.set2 _ _
                            have G9 := hid2 (g8.other Q9 r8 (by decide))
                            have L9 := hid2 (l8.grown Q9 r8 (by decide))
                            have T9 := hid2 (t8.grown Q9 r8 (by decide))
                            have B9 : Hid (Below w.heap.size w w9) := B8.out.grown Q9 B8.out.size (fun k hk => by cases hk; exact HTB.out)
                            obtain ⟨d0, d1, d2, d3⟩ := r8.cells
                            obtain ⟨f0, f1, f2, f3⟩ := T9.out.cells
                            rw [hw9] at f0 f1 f2 f3
                            have HW9 := hid2 hw9
                            clear m1 m2 m3 g8 r8 t8 l8 b8 Q9 hw9
                            go_wp2_with fail
                            rw [← HW9.out]
                            go_roundg (NN - (jn + 1) + 1)
                            case measure => rw [HGJ.out]; omega
                            case rel =>
                              refine ⟨jn + 1, 0, l3, ps8, cs8, rfl, by go_num, G9.out, R9.out, L9.out, HO3.out, T9.out, B9.out, by omega, by omega, .inl ⟨rfl, rfl, ?_⟩⟩
                              have e := HHM.out
                              rw [if_pos trivial, show NN - jn - 1 + 1 = NN - jn by omega] at e
                              rw [HMAN.out, e, show NN - (jn + 1) = NN - jn - 1 by omega]
                              simp only [Prod.mk.injEq, and_true]
                              omega
                          · have hx3b : (x3 == 0) = false := by simpa using hx3
                            go_wp2_with fail
                            refine (show Calls _ _ _ _ _ from HKR.out).mono ?_
                            rintro e w8 ⟨sv8, rfl, l8, b8⟩
                            obtain ⟨ps8, cs8, rfl, m1, m2, m3⟩ := l8.each
                            have g8 := Bg.stays P1.out b8
                            have r8 := Two.stays P2.out b8
                            have t8 := Thr.stays P5.out b8
                            have B8 := hid2 (Below.trans P6.out (b8.mono (Below.size P6.out)))
                            obtain ⟨w9, hw9⟩ : ∃ w9, w9 = (w8.setCell ⟨tb, 0, none⟩ (.int .i64 lim)).setCell ⟨tb, 1, none⟩ (.slice ps8 l3.length cs8) := ⟨_, rfl⟩
                            have Q9 : w8.grownBy w9 (some tb) := by rw [hw9]; exact grown_set (grown_set (World.grownBy.refl _ _) _ _) _ _
                            have R9 : Hid (Two w9 tb (.int .i64 lim) (.slice ps8 l3.length cs8)) := by show Two _ _ _ _; rw [hw9]; exact r8.set2 _ _
                            have G9 := hid2 (g8.other Q9 r8 (by decide))
                            have L9 := hid2 (l8.grown Q9 r8 (by decide))
                            have T9 := hid2 (t8.grown Q9 r8 (by decide))
                            have B9 : Hid (Below w.heap.size w w9) := B8.out.grown Q9 B8.out.size (fun k hk => by cases hk; exact HTB.out)
                            obtain ⟨d0, d1, d2, d3⟩ := r8.cells
                            obtain ⟨f0, f1, f2, f3⟩ := T9.out.cells
                            rw [hw9] at f0 f1 f2 f3
                            have HW9 := hid2 hw9
                            clear m1 m2 m3 g8 r8 t8 l8 b8 Q9 hw9
                            go_wp2_with fail
                            rw [← HW9.out]
                            go_roundg 0
                            case measure => rw [HGJ.out]; omega
                            case rel =>
                              refine ⟨jn, x3, l3, ps8, cs8, rfl, rfl, G9.out, R9.out, L9.out, HO3.out, T9.out, B9.out, by omega, by have := HSAME.out hx3; rw [this]; omega, .inr ⟨hx3, rfl, ?_⟩⟩
                              have e := HHM.out
                              rw [if_neg hx3, show NN - jn - 1 + 1 = NN - jn by omega] at e
                              rw [HMAN.out, e]
                              simp
                        · have hjl2 : ¬ (jn : Int) < nn := fun h => hjl ((HNN.out jn).1 h)
                          have HZ : Hid (manyP (fun l => giveP l cl) nn.toNat l = (jn, l')) := by
                            show _ = _
                            rw [← HNT.out, HMAN.out, show NN - jn = 0 by omega]
                            rfl
                          have KA := drain_bg (n := nn) (by omega) P1.out H2.out cl
                          have hz := HZ.out
                          rw [hz] at KA
                          simp only at KA
                          have HKA := hid2 KA
                          obtain ⟨x0, x1, x2, x4⟩ := P5.out.cells
                          clear KA hz
                          go_wp2_with fail
                          refine (show Calls _ _ _ _ _ from HKA.out).mono ?_
                          rintro e wa ⟨rfl, ga, ra⟩
                          have GA := hid2 ga
                          have RA := hid2 (P2.out.other ra P1.out (by decide))
                          have LA := hid2 (P3.out.grown ra P1.out (by decide))
                          have TA := hid2 (P5.out.grown ra P1.out (by decide))
                          have BA : Hid (Below w.heap.size w wa) := P6.out.grown ra P6.out.size (fun k hk => by cases hk; exact Nat.le_of_eq HW.out.symm)
                          obtain ⟨y0, y1, y2, y4⟩ := TA.out.cells
                          clear ga ra x0 x1 x2 x4
                          go_wp2
                          go_meet
                          case rel => exact ⟨l', _, GA.out, P4.out, RA.out, LA.out, by omega, BA.out, TA.out⟩
                      · have HMAN := hid2 hman
                        have hxcb : (xc == 0) = false := by simpa using hxc
                        have HZ : Hid (manyP (fun l => giveP l cl) nn.toNat l = (jn, l')) := by
                          show _ = _
                          rw [← HNT.out]
                          exact HMAN.out
                        clear hgj hman
                        by_cases hjl2 : (jn : Int) < nn
                        · have KA := drain_bg (n := nn) (by omega) P1.out H2.out cl
                          have hz := HZ.out
                          rw [hz] at KA
                          simp only at KA
                          have HKA := hid2 KA
                          obtain ⟨x0, x1, x2, x4⟩ := P5.out.cells
                          clear KA hz
                          go_wp2_with fail
                          refine (show Calls _ _ _ _ _ from HKA.out).mono ?_
                          rintro e wa ⟨rfl, ga, ra⟩
                          have GA := hid2 ga
                          have RA := hid2 (P2.out.other ra P1.out (by decide))
                          have LA := hid2 (P3.out.grown ra P1.out (by decide))
                          have TA := hid2 (P5.out.grown ra P1.out (by decide))
                          have BA : Hid (Below w.heap.size w wa) := P6.out.grown ra P6.out.size (fun k hk => by cases hk; exact Nat.le_of_eq HW.out.symm)
                          obtain ⟨y0, y1, y2, y4⟩ := TA.out.cells
                          clear ga ra x0 x1 x2 x4
                          go_wp2
                          go_meet
                          case rel => exact ⟨l', _, GA.out, P4.out, RA.out, LA.out, by omega, BA.out, TA.out⟩
                        · have KA := drain_bg (n := nn) (by omega) P1.out H2.out cl
                          have hz := HZ.out
                          rw [hz] at KA
                          simp only at KA
                          have HKA := hid2 KA
                          obtain ⟨x0, x1, x2, x4⟩ := P5.out.cells
                          clear KA hz
                          go_wp2_with fail
                          refine (show Calls _ _ _ _ _ from HKA.out).mono ?_
                          rintro e wa ⟨rfl, ga, ra⟩
                          have GA := hid2 ga
                          have RA := hid2 (P2.out.other ra P1.out (by decide))
                          have LA := hid2 (P3.out.grown ra P1.out (by decide))
                          have TA := hid2 (P5.out.grown ra P1.out (by decide))
                          have BA : Hid (Below w.heap.size w wa) := P6.out.grown ra P6.out.size (fun k hk => by cases hk; exact Nat.le_of_eq HW.out.symm)
                          obtain ⟨y0, y1, y2, y4⟩ := TA.out.cells
                          clear ga ra x0 x1 x2 x4
                          go_wp2
                          go_meet
                          case rel => exact ⟨l', _, GA.out, P4.out, RA.out, LA.out, by omega, BA.out, TA.out⟩
                · have kb3 : (kd == 3) = false := by simpa using k3
                  have kn2 : (kd != 2) = true := by simpa using k2
                  have kn3 : (kd != 3) = true := by simpa using k3
                  as_aux_lemma =>
                    obtain ⟨NN, hNN⟩ : ∃ NN, NN = nn.toNat := ⟨_, rfl⟩
                    have hNn : ∀ k : Nat, (k : Int) < nn ↔ k < NN := fun k => by omega
                    have hN2 : NN ≤ 50 := by omega
                    have HNN := hid2 hNn
                    have HNT := hid2 hNN
                    obtain ⟨x0, x1, x2, x4⟩ := T7.out.cells
                    clear hNN hNn
                    go_wp2_with fail
                    go_loopg [13, 14] (NN + 1) (fun gj x j wi => ∃ (jn : Nat) (xc : Int) (l' : List Int) (ps' : Option Addr) (cs' : Nat), x = .int .i64 xc ∧ j = .int .i64 (jn : Int) ∧ Bg wi g lim l ∧ Two wi tb (.int .i64 lim) (.slice ps' l'.length cs') ∧ Ls wi (.slice ps' l'.length cs') l' ∧ BudOk lim l' ∧ Thr wi ob kd cl nn ∧ Below w.heap.size w wi ∧ jn ≤ NN ∧ l'.length ≤ 50 * k + jn ∧ ((xc = 0 ∧ gj = NN - jn + 1 ∧ manyP (fun l => giveP l cl) NN l = (jn + (manyP (fun l => giveP l cl) (NN - jn) l').1, (manyP (fun l => giveP l cl) (NN - jn) l').2)) ∨ (xc ≠ 0 ∧ gj = 0 ∧ manyP (fun l => giveP l cl) NN l = (jn, l'))))
                    case atStart => exact ⟨0, 0, l, ps, cs, rfl, rfl, G7.out, R7.out, L7.out, H2.out, T7.out, B7.out, Nat.zero_le _, by omega, .inl ⟨rfl, rfl, by simp⟩⟩
                    case round =>
                      clear x0 x1 x2 x4 G7 R7 L7 B7 T7 w7 z1 z2 ps cs
                      obtain ⟨jn, xc, l', ps', cs', rfl, rfl, p1, p2, p3, p4, p5, p6, p7, p8, p9⟩ := hrel
                      obtain ⟨_, _, e9, z1, z2, z3⟩ := p3.each
                      cases e9
                      unfold maxLen at z2
                      have P1 := hid2 p1
                      have P2 := hid2 p2
                      have P3 := hid2 p3
                      have P4 := hid2 p4
                      have P5 := hid2 p5
                      have P6 := hid2 p6
                      clear p1 p2 p3 p4 p5 p6 z3
                      have hjn : (jn : Int) ≤ 50 := by omega
                      rcases p9 with ⟨rfl, hgj, hman⟩ | ⟨hxc, hgj, hman⟩
                      · have HGJ := hid2 hgj
                        have HMAN := hid2 hman
                        clear hgj hman
                        by_cases hjl : jn < NN
                        · have hjl2 := (HNN.out jn).2 hjl
                          obtain ⟨l3, x3, hP⟩ : ∃ l3 x3, giveP l' cl = (l3, x3) := ⟨_, _, rfl⟩
                          have hlen := give_len (l := l') (c := cl)
                          have hsame := give_same (l := l') (c := cl)
                          have O3 := P4.out.give cl
                          have KR := rgive_any (lim := lim) P3.out (by omega) cl
                          have HM := manyP_succ (fun l => giveP l cl) (NN - jn - 1) l'
                          rw [hP] at hlen O3 KR HM hsame
                          simp only at hlen O3 hsame
                          have HKR := hid2 KR
                          have HO3 := hid2 O3
                          have HHM := hid2 HM
                          have HSAME := hid2 hsame
                          obtain ⟨e0, e1, e2, e3⟩ := P2.out.cells
                          obtain ⟨x0, x1, x2, x4⟩ := P5.out.cells
                          clear hP O3 KR HM hsame
                          by_cases hx3 : x3 = 0
                          · subst hx3
                            go_wp2_with fail
                            refine (show Calls _ _ _ _ _ from HKR.out).mono ?_
                            rintro e w8 ⟨sv8, rfl, l8, b8⟩
                            obtain ⟨ps8, cs8, rfl, m1, m2, m3⟩ := l8.each
                            have g8 := Bg.stays P1.out b8
                            have r8 := Two.stays P2.out b8
                            have t8 := Thr.stays P5.out b8
                            have B8 := hid2 (Below.trans P6.out (b8.mono (Below.size P6.out)))
                            obtain ⟨w9, hw9⟩ : ∃ w9, w9 = (w8.setCell ⟨tb, 0, none⟩ (.int .i64 lim)).setCell ⟨tb, 1, none⟩ (.slice ps8 l3.length cs8) := ⟨_, rfl⟩
                            have Q9 : w8.grownBy w9 (some tb) := by rw [hw9]; exact grown_set (grown_set (World.grownBy.refl _ _) _ _) _ _
                            have R9 : Hid (Two w9 tb (.int .i64 lim) (.slice ps8 l3.length cs8)) := by show Two _ _ _ _; rw [hw9]; exact r8.set2 _ _
                            have G9 := hid2 (g8.other Q9 r8 (by decide))
                            have L9 := hid2 (l8.grown Q9 r8 (by decide))
                            have T9 := hid2 (t8.grown Q9 r8 (by decide))
                            have B9 : Hid (Below w.heap.size w w9) := B8.out.grown Q9 B8.out.size (fun k hk => by cases hk; exact HTB.out)
                            obtain ⟨d0, d1, d2, d3⟩ := r8.cells
                            obtain ⟨f0, f1, f2, f3⟩ := T9.out.cells
                            rw [hw9] at f0 f1 f2 f3
                            have HW9 := hid2 hw9
                            clear m1 m2 m3 g8 r8 t8 l8 b8 Q9 hw9
                            go_wp2_with fail
                            rw [← HW9.out]
                            go_roundg (NN - (jn + 1) + 1)
                            case measure => rw [HGJ.out]; omega
                            case rel =>
                              refine ⟨jn + 1, 0, l3, ps8, cs8, rfl, by go_num, G9.out, R9.out, L9.out, HO3.out, T9.out, B9.out, by omega, by omega, .inl ⟨rfl, rfl, ?_⟩⟩
                              have e := HHM.out
                              rw [if_pos trivial, show NN - jn - 1 + 1 = NN - jn by omega] at e
                              rw [HMAN.out, e, show NN - (jn + 1) = NN - jn - 1 by omega]
                              simp only [Prod.mk.injEq, and_true]
                              omega
                          · have hx3b : (x3 == 0) = false := by simpa using hx3
                            go_wp2_with fail
                            refine (show Calls _ _ _ _ _ from HKR.out).mono ?_
                            rintro e w8 ⟨sv8, rfl, l8, b8⟩
                            obtain ⟨ps8, cs8, rfl, m1, m2, m3⟩ := l8.each
                            have g8 := Bg.stays P1.out b8
                            have r8 := Two.stays P2.out b8
                            have t8 := Thr.stays P5.out b8
                            have B8 := hid2 (Below.trans P6.out (b8.mono (Below.size P6.out)))
                            obtain ⟨w9, hw9⟩ : ∃ w9, w9 = (w8.setCell ⟨tb, 0, none⟩ (.int .i64 lim)).setCell ⟨tb, 1, none⟩ (.slice ps8 l3.length cs8) := ⟨_, rfl⟩
                            have Q9 : w8.grownBy w9 (some tb) := by rw [hw9]; exact grown_set (grown_set (World.grownBy.refl _ _) _ _) _ _
                            have R9 : Hid (Two w9 tb (.int .i64 lim) (.slice ps8 l3.length cs8)) := by show Two _ _ _ _; rw [hw9]; exact r8.set2 _ _
                            have G9 := hid2 (g8.other Q9 r8 (by decide))
                            have L9 := hid2 (l8.grown Q9 r8 (by decide))
                            have T9 := hid2 (t8.grown Q9 r8 (by decide))
                            have B9 : Hid (Below w.heap.size w w9) := B8.out.grown Q9 B8.out.size (fun k hk => by cases hk; exact HTB.out)
                            obtain ⟨d0, d1, d2, d3⟩ := r8.cells
                            obtain ⟨f0, f1, f2, f3⟩ := T9.out.cells
                            rw [hw9] at f0 f1 f2 f3
                            have HW9 := hid2 hw9
                            clear m1 m2 m3 g8 r8 t8 l8 b8 Q9 hw9
                            go_wp2_with fail
                            rw [← HW9.out]
                            go_roundg 0
                            case measure => rw [HGJ.out]; omega
                            case rel =>
                              refine ⟨jn, x3, l3, ps8, cs8, rfl, rfl, G9.out, R9.out, L9.out, HO3.out, T9.out, B9.out, by omega, by have := HSAME.out hx3; rw [this]; omega, .inr ⟨hx3, rfl, ?_⟩⟩
                              have e := HHM.out
                              rw [if_neg hx3, show NN - jn - 1 + 1 = NN - jn by omega] at e
                              rw [HMAN.out, e]
                              simp
                        · have hjl2 : ¬ (jn : Int) < nn := fun h => hjl ((HNN.out jn).1 h)
                          have HZ : Hid (manyP (fun l => giveP l cl) nn.toNat l = (jn, l')) := by
                            show _ = _
                            rw [← HNT.out, HMAN.out, show NN - jn = 0 by omega]
                            rfl
                          have KA := many_gv (n := nn) (c := cl) (by omega) P1.out H2.out
                          have hz := HZ.out
                          rw [hz] at KA
                          simp only at KA
                          have HKA := hid2 KA
                          obtain ⟨x0, x1, x2, x4⟩ := P5.out.cells
                          clear KA hz
                          go_wp2_with fail
                          refine (show Calls _ _ _ _ _ from HKA.out).mono ?_
                          rintro e wa ⟨rfl, ga, ra⟩
                          have GA := hid2 ga
                          have RA := hid2 (P2.out.other ra P1.out (by decide))
                          have LA := hid2 (P3.out.grown ra P1.out (by decide))
                          have TA := hid2 (P5.out.grown ra P1.out (by decide))
                          have BA : Hid (Below w.heap.size w wa) := P6.out.grown ra P6.out.size (fun k hk => by cases hk; exact Nat.le_of_eq HW.out.symm)
                          obtain ⟨y0, y1, y2, y4⟩ := TA.out.cells
                          clear ga ra x0 x1 x2 x4
                          go_wp2
                          go_meet
                          case rel => exact ⟨l', _, GA.out, P4.out, RA.out, LA.out, by omega, BA.out, TA.out⟩
                      · have HMAN := hid2 hman
                        have hxcb : (xc == 0) = false := by simpa using hxc
                        have HZ : Hid (manyP (fun l => giveP l cl) nn.toNat l = (jn, l')) := by
                          show _ = _
                          rw [← HNT.out]
                          exact HMAN.out
                        clear hgj hman
                        by_cases hjl2 : (jn : Int) < nn
                        · have KA := many_gv (n := nn) (c := cl) (by omega) P1.out H2.out
                          have hz := HZ.out
                          rw [hz] at KA
                          simp only at KA
                          have HKA := hid2 KA
                          obtain ⟨x0, x1, x2, x4⟩ := P5.out.cells
                          clear KA hz
                          go_wp2_with fail
                          refine (show Calls _ _ _ _ _ from HKA.out).mono ?_
                          rintro e wa ⟨rfl, ga, ra⟩
                          have GA := hid2 ga
                          have RA := hid2 (P2.out.other ra P1.out (by decide))
                          have LA := hid2 (P3.out.grown ra P1.out (by decide))
                          have TA := hid2 (P5.out.grown ra P1.out (by decide))
                          have BA : Hid (Below w.heap.size w wa) := P6.out.grown ra P6.out.size (fun k hk => by cases hk; exact Nat.le_of_eq HW.out.symm)
                          obtain ⟨y0, y1, y2, y4⟩ := TA.out.cells
                          clear ga ra x0 x1 x2 x4
                          go_wp2
                          go_meet
                          case rel => exact ⟨l', _, GA.out, P4.out, RA.out, LA.out, by omega, BA.out, TA.out⟩
                        · have KA := many_gv (n := nn) (c := cl) (by omega) P1.out H2.out
                          have hz := HZ.out
                          rw [hz] at KA
                          simp only at KA
                          have HKA := hid2 KA
                          obtain ⟨x0, x1, x2, x4⟩ := P5.out.cells
                          clear KA hz
                          go_wp2_with fail
                          refine (show Calls _ _ _ _ _ from HKA.out).mono ?_
                          rintro e wa ⟨rfl, ga, ra⟩
                          have GA := hid2 ga
                          have RA := hid2 (P2.out.other ra P1.out (by decide))
                          have LA := hid2 (P3.out.grown ra P1.out (by decide))
                          have TA := hid2 (P5.out.grown ra P1.out (by decide))
                          have BA : Hid (Below w.heap.size w wa) := P6.out.grown ra P6.out.size (fun k hk => by cases hk; exact Nat.le_of_eq HW.out.symm)
                          obtain ⟨y0, y1, y2, y4⟩ := TA.out.cells
                          clear ga ra x0 x1 x2 x4
                          go_wp2
                          go_meet
                          case rel => exact ⟨l', _, GA.out, P4.out, RA.out, LA.out, by omega, BA.out, TA.out⟩
      case rest => as_aux_lemma =>
        obtain ⟨l2, sv2, v1, v2, v3, v4, v5, v6, v7⟩ := hcut
        obtain ⟨ps2, cs2, rfl, y1, y2, y3⟩ := v4.each
        unfold maxLen at y2
        have V1 := hid2 v1
        have V2 := hid2 v2
        have V3 := hid2 v3
        have V4 := hid2 v4
        have V6 := hid2 v6
        have hun := used_nonneg l2
        have hul := v2.2.2.2
        have hl2b : l2.length ≤ 4000 := by omega
        have KU : Hid (∀ W, Bg W g lim l2 → Calls Tryd.prog 22 #[.pointer (some ⟨g, 0, none⟩)] W fun e w' => e = .returned (.int .i64 (used l2)) ∧ w' = W) := fun W k => used_bg k
        have KL : Hid (∀ W, Bg W g lim l2 → Calls Tryd.prog 24 #[.pointer (some ⟨g, 0, none⟩)] W fun e w' => e = .returned (.int .i64 (lim - used l2)) ∧ Below W.heap.size W w') := fun W k => left_bg k v2
        have KM : Hid (∀ W, Bg W g lim l2 → Calls Tryd.prog 25 #[.pointer (some ⟨g, 0, none⟩)] W fun e w' => e = .returned (.int .i64 lim) ∧ w' = W) := fun W k => limit_bg k
        have KC : Hid (∀ W, Bg W g lim l2 → Calls Tryd.prog 26 #[.pointer (some ⟨g, 0, none⟩), .int .i64 cl] W fun e w' => e = .returned (.int .i64 (cnt l2 cl : Int)) ∧ w' = W) := fun W k => count_bg k v2.2.2.1 cl
        have KF : Hid (∀ W, Bg W g lim l2 → Calls Tryd.prog 28 #[.pointer (some ⟨g, 0, none⟩), .int .i64 n] W fun e w' => e = .returned (.bool (fitsP lim n)) ∧ Below W.heap.size W w') := fun W k => fits_bg k n
        have KRU : Hid (∀ W, Ls W (.slice ps2 l2.length cs2) l2 → Calls Tryd.prog 23 #[.agg #[.int .i64 lim, .slice ps2 l2.length cs2]] W fun e w' => e = .returned (.int .i64 (used l2)) ∧ Below W.heap.size W w') := fun W k => rused_any lim k (by omega)
        have KRC : Hid (∀ W, Ls W (.slice ps2 l2.length cs2) l2 → Calls Tryd.prog 27 #[.agg #[.int .i64 lim, .slice ps2 l2.length cs2], .int .i64 cl] W fun e w' => e = .returned (.int .i64 (cnt l2 cl : Int)) ∧ Below W.heap.size W w') := fun W k => rcount_any lim cl k (by omega)
        have KRF : Hid (∀ W, Calls Tryd.prog 29 #[.agg #[.int .i64 lim, .slice ps2 l2.length cs2], .int .i64 n] W fun e w' => e = .returned (.bool (fitsP lim n)) ∧ Below W.heap.size W w') := fun W => rfits_any W lim n ps2 l2.length cs2
        have HS0 : Hid (Two wc.drew tb (.int .i64 lim) (.slice ps2 l2.length cs2) ∧ Thr wc.drew ob kd cl nn) := ⟨v3, v7⟩
        generalize used l2 = u at *
        generalize cnt l2 cl = m at *
        generalize fitsP lim n = ff at *
        have hwr : IntKind.i64.wrap (lim - u) = lim - u := by rw [IntKind.wrap_i64]; omega
        clear v1 v2 v3 v4 v6 v7 y3 G7 R7 L7 B7 T7 w7
        go_wp2_with fail
        refine wp_region_held_drew (S := fun W => Two W tb (.int .i64 lim) (.slice ps2 l2.length cs2) ∧ Thr W ob kd cl nn) (by kernel_rfl) (HS0.out) (fun hS => ?_)
        change wpAnyH _ _ _ _ _ _ _ _ (World.drew _)
        have D0 : Below wc.heap.size wc (World.drew wc) := (Below.refl _ _).drew
        refine wpAnyH_take (i := 0) (v := .pointer (some ⟨g, 0, none⟩)) rfl (by kernel_rfl) (by kernel_rfl) (by kernel_rfl) (fun _ _ _ h => h) (Or.inl ⟨by kernel_rfl, ?_⟩) hS ?_
        · intro w hw; clear hw; go_simp
        change wpAnyH _ _ _ _ _ _ _ (Act.put _ (some 170) _) _
        simp only [Act.put, List.setIfInBounds_toArray, List.set_cons_succ, List.set_cons_zero]
        refine wpAnyH_take (i := 2) (v := .agg #[.int .i64 lim, .slice ps2 l2.length cs2]) rfl (by kernel_rfl) (by kernel_rfl) (by kernel_rfl) (fun _ _ _ h => h) (Or.inl ⟨by kernel_rfl, ?_⟩) hS ?_
        · intro w hw
          obtain ⟨s1, s2⟩ := hw
          obtain ⟨e0, e1, e2, e3⟩ := Two.cells s1
          clear s1 s2
          go_simp
        change wpAnyH _ _ _ _ _ _ _ (Act.put _ (some 172) _) _
        simp only [Act.put, List.setIfInBounds_toArray, List.set_cons_succ, List.set_cons_zero]
        refine wpAnyH_ready (rs := [1]) (by kernel_rfl) (by simp) ?_
        refine AllReadyH.cons rfl (fun K hK => ?_) AllReadyH.nil
        go_simp
        go_wp2_with (go_at_call 22; refine (show Calls _ _ _ _ _ from KU.out _ (V1.out.stays D0)).mono ?_; rintro en wx ⟨rfl, hwx⟩; cases hwx)
        refine hK.out _ _ (hS) (fun hS => ?_)
        clear hK K
        skip
        refine wpAnyH_ready (rs := [3]) (by kernel_rfl) (by simp) ?_
        refine AllReadyH.cons rfl (fun K hK => ?_) AllReadyH.nil
        go_simp
        go_wp2_with (go_at_call 23; refine (show Calls _ _ _ _ _ from KRU.out _ (V4.out.stays D0)).mono ?_; rintro en y1 ⟨rfl, E1⟩)
        have D1 := D0.trans (E1.mono D0.size)
        refine hK.out _ _ (⟨hS.1.stays E1, hS.2.stays E1⟩) (fun hS => ?_)
        clear hK K
        skip
        refine wpAnyH_take (i := 4) (v := .bool false) rfl (by kernel_rfl) (by kernel_rfl) (by kernel_rfl) (fun _ _ _ h => h) (Or.inl ⟨by kernel_rfl, ?_⟩) hS ?_
        · intro w hw; clear hw; go_simp
        change wpAnyH _ _ _ _ _ _ _ (Act.put _ (some 174) _) _
        simp only [Act.put, List.setIfInBounds_toArray, List.set_cons_succ, List.set_cons_zero]
        refine wpAnyH_take (i := 5) (v := .bool false) rfl (by kernel_rfl) (by kernel_rfl) (by kernel_rfl) (fun _ _ _ h => h) (Or.inl ⟨by kernel_rfl, ?_⟩) hS ?_
        · intro w hw; clear hw; go_simp
        change wpAnyH _ _ _ _ _ _ _ (Act.put _ (some 175) _) _
        simp only [Act.put, List.setIfInBounds_toArray, List.set_cons_succ, List.set_cons_zero]
        refine wpAnyH_take (i := 6) (v := .pointer (some ⟨g, 0, none⟩)) rfl (by kernel_rfl) (by kernel_rfl) (by kernel_rfl) (fun _ _ _ h => h) (Or.inl ⟨by kernel_rfl, ?_⟩) hS ?_
        · intro w hw; clear hw; go_simp
        change wpAnyH _ _ _ _ _ _ _ (Act.put _ (some 176) _) _
        simp only [Act.put, List.setIfInBounds_toArray, List.set_cons_succ, List.set_cons_zero]
        refine wpAnyH_take (i := 8) (v := .pointer (some ⟨tb, 0, none⟩)) rfl (by kernel_rfl) (by kernel_rfl) (by kernel_rfl) (fun _ _ _ h => h) (Or.inl ⟨by kernel_rfl, ?_⟩) hS ?_
        · intro w hw; clear hw; go_simp
        change wpAnyH _ _ _ _ _ _ _ (Act.put _ (some 178) _) _
        simp only [Act.put, List.setIfInBounds_toArray, List.set_cons_succ, List.set_cons_zero]
        refine wpAnyH_take (i := 9) (v := .int .i64 lim) rfl (by kernel_rfl) (by kernel_rfl) (by kernel_rfl) (fun _ _ _ h => h) (Or.inl ⟨by kernel_rfl, ?_⟩) hS ?_
        · intro w hw
          obtain ⟨s1, s2⟩ := hw
          obtain ⟨e0, e1, e2, e3⟩ := Two.cells s1
          clear s1 s2
          go_simp
        change wpAnyH _ _ _ _ _ _ _ (Act.put _ (some 179) _) _
        simp only [Act.put, List.setIfInBounds_toArray, List.set_cons_succ, List.set_cons_zero]
        refine wpAnyH_take (i := 10) (v := .pointer (some ⟨g, 0, none⟩)) rfl (by kernel_rfl) (by kernel_rfl) (by kernel_rfl) (fun _ _ _ h => h) (Or.inl ⟨by kernel_rfl, ?_⟩) hS ?_
        · intro w hw; clear hw; go_simp
        change wpAnyH _ _ _ _ _ _ _ (Act.put _ (some 180) _) _
        simp only [Act.put, List.setIfInBounds_toArray, List.set_cons_succ, List.set_cons_zero]
        refine wpAnyH_ready (rs := [7]) (by kernel_rfl) (by simp) ?_
        refine AllReadyH.cons rfl (fun K hK => ?_) AllReadyH.nil
        go_simp
        go_wp2_with (go_at_call 24; refine (show Calls _ _ _ _ _ from KL.out _ (V1.out.stays D1)).mono ?_; rintro en y2 ⟨rfl, E2⟩)
        have D2 := D1.trans (E2.mono D1.size)
        refine hK.out _ _ (⟨hS.1.stays E2, hS.2.stays E2⟩) (fun hS => ?_)
        clear hK K
        skip
        refine wpAnyH_ready (rs := [11]) (by kernel_rfl) (by simp) ?_
        refine AllReadyH.cons rfl (fun K hK => ?_) AllReadyH.nil
        go_simp
        go_wp2_with (go_at_call 22; refine (show Calls _ _ _ _ _ from KU.out _ (V1.out.stays D2)).mono ?_; rintro en wx ⟨rfl, hwx⟩; cases hwx)
        refine hK.out _ _ (hS) (fun hS => ?_)
        clear hK K
        skip
        refine wpAnyH_take (i := 12) (v := .int .i64 (lim - u)) rfl (by kernel_rfl) (by kernel_rfl) (by kernel_rfl) (fun _ _ _ h => h) (Or.inl ⟨by kernel_rfl, ?_⟩) hS ?_
        · intro w hw; clear hw; go_simp
        change wpAnyH _ _ _ _ _ _ _ (Act.put _ (some 182) _) _
        simp only [Act.put, List.setIfInBounds_toArray, List.set_cons_succ, List.set_cons_zero]
        refine wpAnyH_take (i := 13) (v := .bool false) rfl (by kernel_rfl) (by kernel_rfl) (by kernel_rfl) (fun _ _ _ h => h) (Or.inl ⟨by kernel_rfl, ?_⟩) hS ?_
        · intro w hw; clear hw; go_simp
        change wpAnyH _ _ _ _ _ _ _ (Act.put _ (some 183) _) _
        simp only [Act.put, List.setIfInBounds_toArray, List.set_cons_succ, List.set_cons_zero]
        refine wpAnyH_take (i := 14) (v := .bool false) rfl (by kernel_rfl) (by kernel_rfl) (by kernel_rfl) (fun _ _ _ h => h) (Or.inl ⟨by kernel_rfl, ?_⟩) hS ?_
        · intro w hw; clear hw; go_simp
        change wpAnyH _ _ _ _ _ _ _ (Act.put _ (some 184) _) _
        simp only [Act.put, List.setIfInBounds_toArray, List.set_cons_succ, List.set_cons_zero]
        refine wpAnyH_take (i := 15) (v := .bool false) rfl (by kernel_rfl) (by kernel_rfl) (by kernel_rfl) (fun _ _ _ h => h) (Or.inl ⟨by kernel_rfl, ?_⟩) hS ?_
        · intro w hw; clear hw; go_simp
        change wpAnyH _ _ _ _ _ _ _ (Act.put _ (some 185) _) _
        simp only [Act.put, List.setIfInBounds_toArray, List.set_cons_succ, List.set_cons_zero]
        refine wpAnyH_take (i := 16) (v := .pointer (some ⟨g, 0, none⟩)) rfl (by kernel_rfl) (by kernel_rfl) (by kernel_rfl) (fun _ _ _ h => h) (Or.inl ⟨by kernel_rfl, ?_⟩) hS ?_
        · intro w hw; clear hw; go_simp
        change wpAnyH _ _ _ _ _ _ _ (Act.put _ (some 186) _) _
        simp only [Act.put, List.setIfInBounds_toArray, List.set_cons_succ, List.set_cons_zero]
        refine wpAnyH_take (i := 18) (v := .pointer (some ⟨tb, 0, none⟩)) rfl (by kernel_rfl) (by kernel_rfl) (by kernel_rfl) (fun _ _ _ h => h) (Or.inl ⟨by kernel_rfl, ?_⟩) hS ?_
        · intro w hw; clear hw; go_simp
        change wpAnyH _ _ _ _ _ _ _ (Act.put _ (some 188) _) _
        simp only [Act.put, List.setIfInBounds_toArray, List.set_cons_succ, List.set_cons_zero]
        refine wpAnyH_take (i := 19) (v := .int .i64 lim) rfl (by kernel_rfl) (by kernel_rfl) (by kernel_rfl) (fun _ _ _ h => h) (Or.inl ⟨by kernel_rfl, ?_⟩) hS ?_
        · intro w hw
          obtain ⟨s1, s2⟩ := hw
          obtain ⟨e0, e1, e2, e3⟩ := Two.cells s1
          clear s1 s2
          go_simp
        change wpAnyH _ _ _ _ _ _ _ (Act.put _ (some 189) _) _
        simp only [Act.put, List.setIfInBounds_toArray, List.set_cons_succ, List.set_cons_zero]
        refine wpAnyH_ready (rs := [17]) (by kernel_rfl) (by simp) ?_
        refine AllReadyH.cons rfl (fun K hK => ?_) AllReadyH.nil
        go_simp
        go_wp2_with (go_at_call 25; refine (show Calls _ _ _ _ _ from KM.out _ (V1.out.stays D2)).mono ?_; rintro en wx ⟨rfl, hwx⟩; cases hwx)
        refine hK.out _ _ (hS) (fun hS => ?_)
        clear hK K
        skip
        refine wpAnyH_take (i := 20) (v := .bool false) rfl (by kernel_rfl) (by kernel_rfl) (by kernel_rfl) (fun _ _ _ h => h) (Or.inl ⟨by kernel_rfl, ?_⟩) hS ?_
        · intro w hw; clear hw; go_simp
        change wpAnyH _ _ _ _ _ _ _ (Act.put _ (some 190) _) _
        simp only [Act.put, List.setIfInBounds_toArray, List.set_cons_succ, List.set_cons_zero]
        refine wpAnyH_take (i := 21) (v := .bool false) rfl (by kernel_rfl) (by kernel_rfl) (by kernel_rfl) (fun _ _ _ h => h) (Or.inl ⟨by kernel_rfl, ?_⟩) hS ?_
        · intro w hw; clear hw; go_simp
        change wpAnyH _ _ _ _ _ _ _ (Act.put _ (some 191) _) _
        simp only [Act.put, List.setIfInBounds_toArray, List.set_cons_succ, List.set_cons_zero]
        refine wpAnyH_take (i := 22) (v := .bool false) rfl (by kernel_rfl) (by kernel_rfl) (by kernel_rfl) (fun _ _ _ h => h) (Or.inl ⟨by kernel_rfl, ?_⟩) hS ?_
        · intro w hw; clear hw; go_simp
        change wpAnyH _ _ _ _ _ _ _ (Act.put _ (some 192) _) _
        simp only [Act.put, List.setIfInBounds_toArray, List.set_cons_succ, List.set_cons_zero]
        refine wpAnyH_take (i := 23) (v := .pointer (some ⟨g, 0, none⟩)) rfl (by kernel_rfl) (by kernel_rfl) (by kernel_rfl) (fun _ _ _ h => h) (Or.inl ⟨by kernel_rfl, ?_⟩) hS ?_
        · intro w hw; clear hw; go_simp
        change wpAnyH _ _ _ _ _ _ _ (Act.put _ (some 193) _) _
        simp only [Act.put, List.setIfInBounds_toArray, List.set_cons_succ, List.set_cons_zero]
        refine wpAnyH_take (i := 24) (v := .pointer (some ⟨ob, 1, none⟩)) rfl (by kernel_rfl) (by kernel_rfl) (by kernel_rfl) (fun _ _ _ h => h) (Or.inl ⟨by kernel_rfl, ?_⟩) hS ?_
        · intro w hw; clear hw; go_simp
        change wpAnyH _ _ _ _ _ _ _ (Act.put _ (some 194) _) _
        simp only [Act.put, List.setIfInBounds_toArray, List.set_cons_succ, List.set_cons_zero]
        refine wpAnyH_take (i := 25) (v := .int .i64 cl) rfl (by kernel_rfl) (by kernel_rfl) (by kernel_rfl) (fun _ _ _ h => h) (Or.inl ⟨by kernel_rfl, ?_⟩) hS ?_
        · intro w hw
          obtain ⟨s1, s2⟩ := hw
          obtain ⟨e0, e1, e2, e3⟩ := Thr.cells s2
          clear s1 s2
          go_simp
        change wpAnyH _ _ _ _ _ _ _ (Act.put _ (some 195) _) _
        simp only [Act.put, List.setIfInBounds_toArray, List.set_cons_succ, List.set_cons_zero]
        refine wpAnyH_take (i := 27) (v := .agg #[.int .i64 lim, .slice ps2 l2.length cs2]) rfl (by kernel_rfl) (by kernel_rfl) (by kernel_rfl) (fun _ _ _ h => h) (Or.inl ⟨by kernel_rfl, ?_⟩) hS ?_
        · intro w hw
          obtain ⟨s1, s2⟩ := hw
          obtain ⟨e0, e1, e2, e3⟩ := Two.cells s1
          clear s1 s2
          go_simp
        change wpAnyH _ _ _ _ _ _ _ (Act.put _ (some 197) _) _
        simp only [Act.put, List.setIfInBounds_toArray, List.set_cons_succ, List.set_cons_zero]
        refine wpAnyH_take (i := 28) (v := .pointer (some ⟨ob, 1, none⟩)) rfl (by kernel_rfl) (by kernel_rfl) (by kernel_rfl) (fun _ _ _ h => h) (Or.inl ⟨by kernel_rfl, ?_⟩) hS ?_
        · intro w hw; clear hw; go_simp
        change wpAnyH _ _ _ _ _ _ _ (Act.put _ (some 198) _) _
        simp only [Act.put, List.setIfInBounds_toArray, List.set_cons_succ, List.set_cons_zero]
        refine wpAnyH_take (i := 29) (v := .int .i64 cl) rfl (by kernel_rfl) (by kernel_rfl) (by kernel_rfl) (fun _ _ _ h => h) (Or.inl ⟨by kernel_rfl, ?_⟩) hS ?_
        · intro w hw
          obtain ⟨s1, s2⟩ := hw
          obtain ⟨e0, e1, e2, e3⟩ := Thr.cells s2
          clear s1 s2
          go_simp
        change wpAnyH _ _ _ _ _ _ _ (Act.put _ (some 199) _) _
        simp only [Act.put, List.setIfInBounds_toArray, List.set_cons_succ, List.set_cons_zero]
        refine wpAnyH_ready (rs := [26]) (by kernel_rfl) (by simp) ?_
        refine AllReadyH.cons rfl (fun K hK => ?_) AllReadyH.nil
        go_simp
        go_wp2_with (go_at_call 26; refine (show Calls _ _ _ _ _ from KC.out _ (V1.out.stays D2)).mono ?_; rintro en wx ⟨rfl, hwx⟩; cases hwx)
        refine hK.out _ _ (hS) (fun hS => ?_)
        clear hK K
        skip
        refine wpAnyH_ready (rs := [30]) (by kernel_rfl) (by simp) ?_
        refine AllReadyH.cons rfl (fun K hK => ?_) AllReadyH.nil
        go_simp
        go_wp2_with (go_at_call 27; refine (show Calls _ _ _ _ _ from KRC.out _ (V4.out.stays D2)).mono ?_; rintro en y3 ⟨rfl, E3⟩)
        have D3 := D2.trans (E3.mono D2.size)
        refine hK.out _ _ (⟨hS.1.stays E3, hS.2.stays E3⟩) (fun hS => ?_)
        clear hK K
        skip
        refine wpAnyH_take (i := 31) (v := .bool false) rfl (by kernel_rfl) (by kernel_rfl) (by kernel_rfl) (fun _ _ _ h => h) (Or.inl ⟨by kernel_rfl, ?_⟩) hS ?_
        · intro w hw; clear hw; go_simp
        change wpAnyH _ _ _ _ _ _ _ (Act.put _ (some 201) _) _
        simp only [Act.put, List.setIfInBounds_toArray, List.set_cons_succ, List.set_cons_zero]
        refine wpAnyH_take (i := 32) (v := .bool false) rfl (by kernel_rfl) (by kernel_rfl) (by kernel_rfl) (fun _ _ _ h => h) (Or.inl ⟨by kernel_rfl, ?_⟩) hS ?_
        · intro w hw; clear hw; go_simp
        change wpAnyH _ _ _ _ _ _ _ (Act.put _ (some 202) _) _
        simp only [Act.put, List.setIfInBounds_toArray, List.set_cons_succ, List.set_cons_zero]
        refine wpAnyH_take (i := 33) (v := .bool false) rfl (by kernel_rfl) (by kernel_rfl) (by kernel_rfl) (fun _ _ _ h => h) (Or.inl ⟨by kernel_rfl, ?_⟩) hS ?_
        · intro w hw; clear hw; go_simp
        change wpAnyH _ _ _ _ _ _ _ (Act.put _ (some 203) _) _
        simp only [Act.put, List.setIfInBounds_toArray, List.set_cons_succ, List.set_cons_zero]
        refine wpAnyH_take (i := 34) (v := .pointer (some ⟨g, 0, none⟩)) rfl (by kernel_rfl) (by kernel_rfl) (by kernel_rfl) (fun _ _ _ h => h) (Or.inl ⟨by kernel_rfl, ?_⟩) hS ?_
        · intro w hw; clear hw; go_simp
        change wpAnyH _ _ _ _ _ _ _ (Act.put _ (some 204) _) _
        simp only [Act.put, List.setIfInBounds_toArray, List.set_cons_succ, List.set_cons_zero]
        refine wpAnyH_take (i := 35) (v := .int .i64 n) rfl (by kernel_rfl) (by kernel_rfl) (by kernel_rfl) (fun _ _ _ h => h) (Or.inl ⟨by kernel_rfl, ?_⟩) hS ?_
        · intro w hw; clear hw; go_simp
        change wpAnyH _ _ _ _ _ _ _ (Act.put _ (some 205) _) _
        simp only [Act.put, List.setIfInBounds_toArray, List.set_cons_succ, List.set_cons_zero]
        refine wpAnyH_take (i := 37) (v := .agg #[.int .i64 lim, .slice ps2 l2.length cs2]) rfl (by kernel_rfl) (by kernel_rfl) (by kernel_rfl) (fun _ _ _ h => h) (Or.inl ⟨by kernel_rfl, ?_⟩) hS ?_
        · intro w hw
          obtain ⟨s1, s2⟩ := hw
          obtain ⟨e0, e1, e2, e3⟩ := Two.cells s1
          clear s1 s2
          go_simp
        change wpAnyH _ _ _ _ _ _ _ (Act.put _ (some 207) _) _
        simp only [Act.put, List.setIfInBounds_toArray, List.set_cons_succ, List.set_cons_zero]
        refine wpAnyH_take (i := 38) (v := .int .i64 n) rfl (by kernel_rfl) (by kernel_rfl) (by kernel_rfl) (fun _ _ _ h => h) (Or.inl ⟨by kernel_rfl, ?_⟩) hS ?_
        · intro w hw; clear hw; go_simp
        change wpAnyH _ _ _ _ _ _ _ (Act.put _ (some 208) _) _
        simp only [Act.put, List.setIfInBounds_toArray, List.set_cons_succ, List.set_cons_zero]
        refine wpAnyH_ready (rs := [36]) (by kernel_rfl) (by simp) ?_
        refine AllReadyH.cons rfl (fun K hK => ?_) AllReadyH.nil
        go_simp
        go_wp2_with (go_at_call 28; refine (show Calls _ _ _ _ _ from KF.out _ (V1.out.stays D3)).mono ?_; rintro en y4 ⟨rfl, E4⟩)
        have D4 := D3.trans (E4.mono D3.size)
        refine hK.out _ _ (⟨hS.1.stays E4, hS.2.stays E4⟩) (fun hS => ?_)
        clear hK K
        skip
        refine wpAnyH_ready (rs := [39]) (by kernel_rfl) (by simp) ?_
        refine AllReadyH.cons rfl (fun K hK => ?_) AllReadyH.nil
        go_simp
        go_wp2_with (go_at_call 29; refine (show Calls _ _ _ _ _ from KRF.out _).mono ?_; rintro en y5 ⟨rfl, E5⟩)
        have D5 := D4.trans (E5.mono D4.size)
        refine hK.out _ _ (⟨hS.1.stays E5, hS.2.stays E5⟩) (fun hS => ?_)
        clear hK K
        skip
        refine wpAnyH_take (i := 40) (v := .bool false) rfl (by kernel_rfl) (by kernel_rfl) (by kernel_rfl) (fun _ _ _ h => h) (Or.inl ⟨by kernel_rfl, ?_⟩) hS ?_
        · intro w hw; clear hw; go_simp
        change wpAnyH _ _ _ _ _ _ _ (Act.put _ (some 210) _) _
        simp only [Act.put, List.setIfInBounds_toArray, List.set_cons_succ, List.set_cons_zero]
        refine wpAnyH_take (i := 41) (v := .bool false) rfl (by kernel_rfl) (by kernel_rfl) (by kernel_rfl) (fun _ _ _ h => h) (Or.inl ⟨by kernel_rfl, ?_⟩) hS ?_
        · intro w hw; clear hw; go_simp
        change wpAnyH _ _ _ _ _ _ _ (Act.put _ (some 211) _) _
        simp only [Act.put, List.setIfInBounds_toArray, List.set_cons_succ, List.set_cons_zero]
        refine wpAnyH_done (by kernel_rfl) ?_ _
        go_wp2
        go_roundg (os.length - (k + 1))
        case measure => rw [HG.out]; omega
        case rel => exact ⟨k + 1, l2, _, by omega, rfl, by go_num, V1.out.stays D5, V2.out, V3.out.stays D5, V4.out.stays D5, by omega, V6.out.trans (D5.mono V6.out.size)⟩
    · go_wp2_with fail
      refine (works_any (HE.out.below H6.out)).mono ?_
      rintro e w3 ⟨rfl, b3⟩
      go_wp2
      go_ret
      exact ⟨rfl, H6.out.trans (b3.mono H6.out.size)⟩

theorem does_any {w : World} {v : Value} {os : List Act8} (hs : ActsAt w v os) (hE : ErrT w) (lim n : Int) : Calls Tryd.prog 4 #[.int .i64 lim, v, .int .i64 n] w fun e w' => e = .returned (.bool true) ∧ Below w.heap.size w w' := by
  by_cases hb : 60 < os.length ∨ lim < 1 ∨ 1099511627776 < lim
  · exact does_bad hs hE lim n hb
  · exact does_good hs hE lim n (by omega) (by omega) (by omega)
end Go.Proofs.YtjlpkjgdpbjpcaaDoor
