/-
  The walk of the law ListsSound.
-/
import Derived.Test.YtibplphpbbajhaaDoorWorks
namespace Go.Proofs.YtibplphpbbajhaaDoor
open Go.RowKit

/-- An act: its kind, and what it is on. -/
abbrev Act9 := Int × Int
def I64 (x : Int) : Prop := -9223372036854775808 ≤ x ∧ x ≤ 9223372036854775807
/-- A value is, in w's memory, a slice of these acts. -/
def ActsAt (w : World) (v : Value) (os : List Act9) : Prop :=
  ∃ p cap, v = .slice p os.length cap ∧ os.length ≤ cap ∧ cap ≤ maxLen ∧ ∀ i o, os[i]? = some o → ∃ b off, p = some ⟨b, off, none⟩ ∧ b < w.heap.size ∧
    w.cell? ⟨b, off + i * 2, none⟩ = some (.int .i64 o.1) ∧ w.cell? ⟨b, off + i * 2 + 1, none⟩ = some (.int .i64 o.2) ∧ I64 o.1 ∧ I64 o.2

set_option maxHeartbeats 4000000 in
set_option maxRecDepth 10000 in
theorem sound_any {w : World} {v : Value} {os : List Act9} (hs : ActsAt w v os) (hE : ErrT w) (a b : Int) (ha0 : 0 ≤ a) (ha1 : a ≤ 255) (hb0 : 0 ≤ b) (hb1 : b ≤ 255) : Calls Tryd.prog 4 #[.int .u8 a, .int .u8 b, v] w fun e w' => e = .returned (.bool true) ∧ Below w.heap.size w w' := by
  obtain ⟨p, cap, rfl, hc1, hc2, hel⟩ := hs
  unfold maxLen at hc2
  have HEL := hid2 hel
  have HE := hid2 hE
  have KW := hid2 (works_any hE)
  have h0 := hid2 (show 0 < w.heap.size from lt_of_cell hE)
  clear hel hE
  by_cases hg : 80 < os.length
  · have hg2 : 80 < (os.length : Int) := by omega
    clear hg
    go_enter Tryd.func4, Tryd.ntmps4
    go_wp2_with fail
    refine (show Calls _ _ _ _ _ from KW.out).mono ?_
    rintro e w1 ⟨rfl, hb⟩
    go_wp2
    go_ret
    exact ⟨rfl, hb⟩
  · have hg2 : ¬ 80 < (os.length : Int) := by omega
    obtain ⟨K, hK⟩ : ∃ K : Nat, (K : Int) = 1 + a % 5 := ⟨(1 + a % 5).toNat, by omega⟩
    obtain ⟨n, hn⟩ : ∃ n : Nat, (n : Int) = 1 + b % 30 := ⟨(1 + b % 30).toNat, by omega⟩
    have hK1 : 1 ≤ K ∧ K ≤ 5 := by omega
    have hn1 : 1 ≤ n ∧ n ≤ 30 := by omega
    have KN := hid2 (made_any w K n hK1.1 (by omega) hn1.1 (by omega))
    have HKN := hid2 (And.intro hK hn)
    clear hg hK hn
    go_enter Tryd.func4, Tryd.ntmps4
    go_wp2_with fail
    rw [← HKN.out.1, ← HKN.out.2]
    refine (show Calls _ _ _ _ _ from KN.out).mono ?_
    rintro e w1 ⟨g, rfl, x1, b1⟩
    obtain ⟨B0, hB0⟩ : ∃ B0, B0 = w.heap.size := ⟨_, rfl⟩
    obtain ⟨B, hB⟩ : ∃ B, B = w1.heap.size := ⟨_, rfl⟩
    rw [← hB0, ← hB] at x1
    have X1 := hid2 x1
    have E1 := hid2 (HE.out.below b1)
    have B1 := hid2 b1
    have HB0 := hid2 hB0
    have H00 : Hid (0 < B0) := by show 0 < B0; rw [hB0]; exact h0.out
    clear x1 b1 hB0 hB KN HKN ha0 ha1 hb0 hb1
    go_wp2_with fail
    go_loopg [9] os.length (fun gk i wr => ∃ (k : Nat) (s : Lst), k ≤ os.length ∧ gk = os.length - k ∧ i = .int .i64 (k : Int) ∧ Lx wr B0 B g K n s k ∧ Mid B0 B w1 wr)
    case atStart => exact ⟨0, _, Nat.zero_le _, rfl, rfl, X1.out, Mid.refl _ _ _⟩
    case round =>
      clear X1
      obtain ⟨k, s, hk, hgk, rfl, hx, hm⟩ := hrel
      have HG := hid2 hgk
      have X := hid2 hx
      have M := hid2 hm
      have BW : Hid (Below w.heap.size w wr) := B1.out.trans (by rw [← HB0.out]; exact hm.below (by rw [HB0.out]; exact B1.out.size))
      clear hgk hx hm
      by_cases hlt : k < os.length
      · obtain ⟨o, ho⟩ : ∃ o, os[k]? = some o := ⟨os[k], List.getElem?_eq_getElem hlt⟩
        obtain ⟨kd, at_⟩ := o
        obtain ⟨bo, off, rfl, q0, q1, q2, _, _⟩ := HEL.out k _ ho
        have c1 := (BW.out.cell (p := ⟨bo, off + k * 2, none⟩) q0).trans q1
        have c2 := (BW.out.cell (p := ⟨bo, off + k * 2 + 1, none⟩) q0).trans q2
        have c3 : bo < wr.heap.size := Nat.lt_of_lt_of_le q0 BW.out.size
        simp only at c1 c2
        clear q0 q1 q2 ho BW
        by_cases k0 : kd = 0
        · subst k0
          go_wp2_with fail
          refine (add_lx X.out (by omega) at_).mono ?_
          rintro e w3 ⟨v3, rfl, _, x3, m3⟩
          have X3 := hid2 x3
          have M3 := hid2 (M.out.trans m3)
          clear x3 m3 c1 c2 c3 X M
          go_wp2_with fail
          refine (sound_lx X3.out).mono ?_
          rintro e w4 ⟨rfl, b4⟩
          have X4 := hid2 (X3.out.below b4)
          have M4 := hid2 (M3.out.then_ b4)
          clear b4 X3 M3
          go_wp2
          go_roundg (os.length - (k + 1))
          case measure => rw [HG.out]; omega
          case rel => exact ⟨k + 1, _, by omega, rfl, by go_num, X4.out, M4.out⟩
        · by_cases k1 : kd = 1
          · subst k1
            go_wp2_with fail
            refine (drop_lx X.out at_).mono ?_
            rintro e w3 ⟨v3, rfl, _, x3, m3⟩
            have X3 := hid2 x3.more
            have M3 := hid2 (M.out.trans m3)
            clear x3 m3 c1 c2 c3 X M
            go_wp2_with fail
            refine (sound_lx X3.out).mono ?_
            rintro e w4 ⟨rfl, b4⟩
            have X4 := hid2 (X3.out.below b4)
            have M4 := hid2 (M3.out.then_ b4)
            clear b4 X3 M3
            go_wp2
            go_roundg (os.length - (k + 1))
            case measure => rw [HG.out]; omega
            case rel => exact ⟨k + 1, _, by omega, rfl, by go_num, X4.out, M4.out⟩
          · by_cases k2 : kd = 2
            · subst k2
              go_wp2_with fail
              refine (touch_lx X.out (by omega) at_).mono ?_
              rintro e w3 ⟨v3, rfl, _, x3, m3⟩
              have X3 := hid2 x3
              have M3 := hid2 (M.out.trans m3)
              clear x3 m3 c1 c2 c3 X M
              go_wp2_with fail
              refine (sound_lx X3.out).mono ?_
              rintro e w4 ⟨rfl, b4⟩
              have X4 := hid2 (X3.out.below b4)
              have M4 := hid2 (M3.out.then_ b4)
              clear b4 X3 M3
              go_wp2
              go_roundg (os.length - (k + 1))
              case measure => rw [HG.out]; omega
              case rel => exact ⟨k + 1, _, by omega, rfl, by go_num, X4.out, M4.out⟩
            · have d0 : (kd == 0) = false := by simpa using k0
              have d1 : (kd == 1) = false := by simpa using k1
              have d2 : (kd == 2) = false := by simpa using k2
              go_wp2_with fail
              refine (sound_lx X.out).mono ?_
              rintro e w4 ⟨rfl, b4⟩
              have X4 := hid2 (X.out.below b4).more
              have M4 := hid2 (M.out.then_ b4)
              clear b4 X M c1 c2 c3
              go_wp2
              go_roundg (os.length - (k + 1))
              case measure => rw [HG.out]; omega
              case rel => exact ⟨k + 1, s, by omega, rfl, by go_num, X4.out, M4.out⟩
      · go_wp2_with fail
        refine (works_any (E1.out.mid M.out H00.out)).mono ?_
        rintro e w3 ⟨rfl, b3⟩
        have BW2 := hid2 (BW.out.trans (b3.mono BW.out.size))
        clear b3
        go_wp2
        go_ret
        exact ⟨rfl, BW2.out⟩
end Go.Proofs.YtibplphpbbajhaaDoor
