/-
  What the program's lists answer: Len, Last, List, Oldest.
-/
import Derived.Test.YtibplphpbbajhaaDoorMem
namespace Go.Proofs.YtibplphpbbajhaaDoor
open Go.RowKit

theorem len_lx {w : World} {B0 B g K n : Nat} {s : Lst} {M : Nat} (x : Lx w B0 B g K n s M) (k : Int) : Calls Tryd.prog 22 #[.pointer (some ⟨g, 0, none⟩), .int .i64 k] w fun e w' => e = .returned (.int .i64 ((orderP s k).length : Int)) ∧ w' = w := by
  obtain ⟨h, l, N, t, f, _, _, _, o, v⟩ := x
  have := len_ob o k
  rwa [v.lenQ] at this
theorem last_lx {w : World} {B0 B g K n : Nat} {s : Lst} {M : Nat} (x : Lx w B0 B g K n s M) (k : Int) : Calls Tryd.prog 21 #[.pointer (some ⟨g, 0, none⟩), .int .i64 k] w fun e w' => e = .returned (.int .i64 (lastP (orderP s k))) ∧ Below w.heap.size w w' := by
  obtain ⟨h, l, N, t, f, _, _, _, o, v⟩ := x
  have := last_ob o k
  rwa [v.lasQ] at this
theorem list_lx {w : World} {B0 B g K n : Nat} {s : Lst} {M : Nat} (x : Lx w B0 B g K n s M) (k : Int) : Calls Tryd.prog 17 #[.pointer (some ⟨g, 0, none⟩), .int .i64 k] w fun e w' => e = .returned (.int .i64 (whereP s.L k)) ∧ Below w.heap.size w w' := by
  obtain ⟨h, l, N, t, f, _, _, _, o, v⟩ := x
  have := list_ob o k
  rwa [v.lisQ] at this

set_option maxHeartbeats 1000000 in
theorem oldest_lx {w : World} {B0 B g K n : Nat} {s : Lst} {M : Nat} (x : Lx w B0 B g K n s M) : Calls Tryd.prog 16 #[.pointer (some ⟨g, 0, none⟩)] w fun e w' => e = .returned (.int .i64 (lastP s.U)) ∧ Below w.heap.size w w' := by
  obtain ⟨h, l, N, t, f, h1, h2, h3, o, v⟩ := x
  rw [← v.old_all]
  obtain ⟨⟨b1, b2, b3⟩, c1, _⟩ := o.cells
  have hK64 := o.K64
  have hN := o.eN
  have hn40 := o.n40
  have hN2 : N ≤ 105 := by omega
  have hnN : n < N := by omega
  have HO := hid2 o
  have HV := hid2 v
  have h00 : oldP s f 0 = -1 := by
    unfold oldP
    rw [List.filter_eq_nil_iff.2 (fun a _ => by simp)]
    rfl
  have KL := hid2 (fun W (q : Ob W g h l K n N t) (k : Nat) => (show Calls Tryd.prog 21 #[.pointer (some ⟨g, 0, none⟩), .int .i64 (k : Int)] W fun e w' => e = .returned (.int .i64 (lastP (orderP s (k : Int)))) ∧ Below W.heap.size W w' by have := last_ob q (k : Int); rwa [v.lasQ] at this))
  have H00 := hid2 h00
  clear o v hN h00
  go_enter Tryd.func16, Tryd.ntmps16
  go_wp2_with fail
  go_loopg [3, 10] K (fun gk old c wr => ∃ k : Nat, k ≤ K ∧ gk = K - k ∧ c = .int .i64 (k : Int) ∧ old = .int .i64 (oldP s f k) ∧ Below w.heap.size w wr)
  case atStart => exact ⟨0, Nat.zero_le _, rfl, rfl, by rw [H00.out], Below.refl _ _⟩
  case round =>
    clear b1 b2 b3 c1
    obtain ⟨k, hk, hgk, rfl, rfl, hb⟩ := hrel
    have HG := hid2 hgk
    have HB := hid2 hb
    have HO1 := hid2 (HO.out.below hb)
    clear hgk hb
    by_cases hlt : k < K
    · have HS := hid2 (HV.out.old_step hlt)
      have HM := hid2 (HV.out.old_mem k)
      have HL := hid2 (HV.out.last_mem hlt)
      have KC := hid2 (KL.out wr HO1.out k)
      generalize lastP (orderP s (k : Int)) = la at *
      generalize hol : oldP s f k = ol at *
      clear hol
      go_wp2_with fail
      refine (show Calls _ _ _ _ _ from KC.out).mono ?_
      rintro e w1 ⟨rfl, hb⟩
      have HB1 := hid2 (HB.out.trans (hb.mono HB.out.size))
      have HO2 := hid2 (HO1.out.below hb)
      clear hb HB KC HO1
      obtain ⟨⟨b1, b2, b3⟩, _, _, c3, _⟩ := HO2.out.cells
      rcases HL.out with rfl | ⟨i, rfl, hi⟩
      · go_wp2_with fail
        go_quiet (fail)
        go_wp2
        go_roundg (K - (k + 1))
        case measure => rw [HG.out]; omega
        case rel => exact ⟨k + 1, by omega, rfl, by go_num, by rw [HS.out]; simp, HB1.out.trans (drew_below _ _ _)⟩
      · have i1 : ¬ (i : Int) = -1 := by omega
        have i2 : ((i : Int) != -1) = true := by rw [bne_iff_ne]; omega
        obtain ⟨_, _, _, c5⟩ := HO2.out.link (i := i) (by omega)
        rcases HM.out with rfl | ⟨j, rfl, hj⟩
        · go_wp2_with fail
          go_quiet (fail)
          go_wp2
          go_roundg (K - (k + 1))
          case measure => rw [HG.out]; omega
          case rel => exact ⟨k + 1, by omega, rfl, by go_num, by rw [HS.out]; simp [i1], HB1.out.trans (drew_below _ _ _)⟩
        · have j1 : ¬ (j : Int) = -1 := by omega
          have j2 : ((j : Int) == -1) = false := by rw [beq_eq_false_iff_ne]; omega
          obtain ⟨_, _, _, c6⟩ := HO2.out.link (i := j) (by omega)
          generalize t.S (i : Int) = si at *
          generalize t.S (j : Int) = sj at *
          by_cases hlt2 : si < sj
          · have d2 : decide (si < sj) = true := by simpa using hlt2
            go_wp2_with fail
            go_quiet (fail)
            go_wp2
            go_roundg (K - (k + 1))
            case measure => rw [HG.out]; omega
            case rel => exact ⟨k + 1, by omega, rfl, by go_num, by rw [HS.out]; simp [i1, hlt2], HB1.out.trans (drew_below _ _ _)⟩
          · have d2 : decide (si < sj) = false := by simpa using hlt2
            go_wp2_with fail
            go_quiet (fail)
            go_wp2
            go_roundg (K - (k + 1))
            case measure => rw [HG.out]; omega
            case rel => exact ⟨k + 1, by omega, rfl, by go_num, by rw [HS.out, if_neg (fun hh => hh.2.elim j1 (fun q => absurd hlt2 (by omega)))], HB1.out.trans (drew_below _ _ _)⟩
    · obtain rfl : k = K := by omega
      go_wp2
      go_ret
      exact ⟨rfl, HB.out⟩
end Go.Proofs.YtibplphpbbajhaaDoor
