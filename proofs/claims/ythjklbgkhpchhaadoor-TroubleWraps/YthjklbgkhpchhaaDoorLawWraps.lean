/-
  The walk of the law TroubleWraps: whatever the code, the links, and what is put ahead, the call answers true.
-/
import Derived.Test.YthjklbgkhpchhaaDoorLawHas
namespace Go.Proofs.YthjklbgkhpchhaaDoor
open Go.RowKit Go.Extern.Stop Go.Stop Go.Extern

set_option maxHeartbeats 4000000 in
set_option maxRecDepth 10000 in
theorem lawWraps_zero {w : World} {sv : Value} {l : List Lnk} (op : ByteArray) (a : Int) (hg : ErrT w) (ht : Tab w) (h : Steps w sv l) :
    Calls Tryd.prog 6 #[.int .i64 0, sv, .string op, .int .i64 a] w fun e w' => e = .returned (.bool true) ∧ Below w.heap.size w w' := by
  go_enter Tryd.func6, Tryd.ntmps6
  go_wp2_with fail
  refine (made_any 0 h).mono ?_
  rintro e w1 ⟨⟨v, r, rfl, hk, hs⟩, hb1⟩
  rw [madeL_zero] at hk hs
  obtain rfl : v = .nilIface := hk
  go_wp2_with fail
  refine (wrap_nil op a w1).mono ?_
  rintro e w2 ⟨rfl, rfl⟩
  go_wp2_with fail
  refine (works_any (hg.below hb1) (ht.below hb1)).mono ?_
  rintro e w3 ⟨rfl, hb3⟩
  go_wp2
  go_ret
  exact ⟨rfl, hb1.trans (hb3.mono hb1.size)⟩

set_option maxHeartbeats 4000000 in
set_option maxRecDepth 10000 in
theorem lawWraps_some {w : World} {sv : Value} {l : List Lnk} (c : Int) (op : ByteArray) (a : Int) (hc : (c == 0) = false) (hg : ErrT w) (ht : Tab w) (h : Steps w sv l) :
    Calls Tryd.prog 6 #[.int .i64 c, sv, .string op, .int .i64 a] w fun e w' => e = .returned (.bool true) ∧ Below w.heap.size w w' := by
  obtain ⟨d, hd, _, hdl⟩ := madeL_shape c l (by simpa using hc)
  have D : Hid (madeL c l = d ++ [(first, 0, c)]) := hd
  clear hd
  go_enter Tryd.func6, Tryd.ntmps6
  go_wp2_with fail
  refine (made_any c h).mono ?_
  rintro e w1 ⟨⟨v, r, rfl, hk, hs⟩, hb1⟩
  rw [D.out] at hk hs
  obtain ⟨p, cap, rfl, _, _⟩ := hs
  go_wp2_with fail
  refine (wrap_any op a 0 hk).mono ?_
  rintro e w2 ⟨⟨f, rfl, hf⟩, hb2⟩
  rw [show wrapL (d ++ [(first, 0, c)]) (op, a, 0) = ((op, a, 0) :: d) ++ [(first, 0, c)] by unfold wrapL; rw [if_neg (by simp)]; rfl] at hf
  have hB2 := hb1.trans (hb2.mono hb1.size)
  go_wp2_with fail
  refine (chain_any (hg.below hB2) hf.er (by simp; omega)).mono ?_
  rintro e w3 ⟨sv3, rfl, hown, hb3⟩
  have hB3 := hB2.trans (hb3.mono hB2.size)
  rw [List.length_append] at hown
  obtain ⟨g, cap3, rfl, g1, g2, g3, g4, g5⟩ := own_at hown
  have q0 := g5 0 (.string op) rfl
  have q1 := g5 1 (.int .i64 a) rfl
  have q2 := g5 2 (.int .i64 0) rfl
  clear g5 hown
  go_wp2_with fail
  refine (where_some w3 (hg.below hB3) (hk.stays (hb2.trans (hb3.mono hb2.size))).er (by omega)).mono ?_
  rintro e w4 ⟨rfl, hb4⟩
  have hB4 := hB3.trans (hb4.mono hB3.size)
  go_wp2_with fail
  refine (where_some w4 (hg.below hB4) ((hf.stays hb3).stays hb4).er (by simp; omega)).mono ?_
  rintro e w5 ⟨rfl, hb5⟩
  have hB5 := hB4.trans (hb5.mono hB4.size)
  have r0 := (hb5.cell (p := ⟨g, 0, none⟩) (Nat.lt_of_lt_of_le g2 hb4.size)).trans ((hb4.cell (p := ⟨g, 0, none⟩) g2).trans q0)
  have r1 := (hb5.cell (p := ⟨g, 1, none⟩) (Nat.lt_of_lt_of_le g2 hb4.size)).trans ((hb4.cell (p := ⟨g, 1, none⟩) g2).trans q1)
  have r2 := (hb5.cell (p := ⟨g, 2, none⟩) (Nat.lt_of_lt_of_le g2 hb4.size)).trans ((hb4.cell (p := ⟨g, 2, none⟩) g2).trans q2)
  clear q0 q1 q2
  go_wp2_with fail
  refine (of_some w5 (hg.below hB5) (((hf.stays hb3).stays hb4).stays hb5).er (by simp; omega)).mono ?_
  rintro e w6 ⟨rfl, hb6⟩
  have hB6 := hB5.trans (hb6.mono hB5.size)
  go_wp2_with fail
  refine (works_any (hg.below hB6) (ht.below hB6)).mono ?_
  rintro e w7 ⟨rfl, hb7⟩
  go_wp2
  go_ret
  exact ⟨rfl, hB6.trans (hb7.mono hB6.size)⟩

theorem lawWraps_any {w : World} {sv : Value} {l : List Lnk} (c : Int) (op : ByteArray) (a : Int) (hg : ErrT w) (ht : Tab w) (h : Steps w sv l) :
    Calls Tryd.prog 6 #[.int .i64 c, sv, .string op, .int .i64 a] w fun e w' => e = .returned (.bool true) ∧ Below w.heap.size w w' := by
  by_cases hc : c = 0
  · subst hc; exact lawWraps_zero op a hg ht h
  · exact lawWraps_some c op a (by simpa using hc) hg ht h
end Go.Proofs.YthjklbgkhpchhaaDoor
