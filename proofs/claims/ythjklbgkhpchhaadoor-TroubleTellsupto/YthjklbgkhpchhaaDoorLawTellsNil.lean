/-
  The walk of the law TroubleTells where nothing is wrong: whatever the links, the call answers true.
-/
import Derived.Test.YthjklbgkhpchhaaDoorLawTells
namespace Go.Proofs.YthjklbgkhpchhaaDoor
open Go.RowKit Go.Extern.Stop Go.Stop Go.Extern

/-- A slice of no links. -/
theorem Steps.none {w : World} {v : Value} (h : Steps w v []) : ∃ p cap, v = .slice p 0 cap := by
  obtain ⟨p, cap, h, _⟩ := h
  exact ⟨p, cap, h⟩

set_option maxHeartbeats 8000000 in
set_option maxRecDepth 10000 in
theorem lawTells_zero {w : World} {sv : Value} {l : List Lnk} (op : ByteArray) (a : Int) (hg : ErrT w) (ht : Tab w) (h : Steps w sv l) :
    Calls Tryd.prog 3 #[.string op, .int .i64 a, .int .i64 0, sv] w fun e w' => e = .returned (.bool true) ∧ Below w.heap.size w w' := by
  obtain ⟨p, cap, rfl, hm, h3⟩ := h
  unfold maxLen at hm
  have H3 : Hid (l = [] ∨ ∃ b off, p = some ⟨b, off, none⟩ ∧ b < w.heap.size ∧ StepCells w b off l) := h3
  clear h3
  go_enter Tryd.func3, Tryd.ntmps3
  go_wp2_with fail
  refine (new_zero op a w).mono ?_
  rintro e w1 ⟨rfl, rfl⟩
  go_wp2_with fail
  refine (rfault_zero op a w1).mono ?_
  rintro e w2 ⟨⟨r, rfl, hs2⟩, hb2⟩
  obtain ⟨pr, capr, rfl⟩ := hs2.none
  go_wp2_with fail
  refine (chain_steps (hg.below hb2) (Lk.nil _) (Nat.zero_le _)).mono ?_
  rintro e w3 ⟨⟨sc, rfl, hs3⟩, hb3⟩
  have hB3 := hb2.trans (hb3.mono hb2.size)
  go_wp2_with fail
  refine (same_true hs3 (hs2.stays hb3) (Nat.zero_le _)).mono ?_
  rintro e w4 ⟨rfl, hb4⟩
  have hB4 := hB3.trans (hb4.mono hB3.size)
  have hs4 := (hs2.stays hb3).stays hb4
  clear hs2 hs3
  go_wp2_with fail
  go_loopg [9, 10, 11] 30 (fun n x y i wr => ∃ k : Nat, k ≤ l.length ∧ k ≤ 30 ∧ n = 30 - k ∧ i = .int .i64 k ∧ x = .nilIface ∧ Steps wr y [] ∧ Below w1.heap.size w1 wr)
  case atStart => exact ⟨0, Nat.zero_le _, by omega, rfl, rfl, rfl, hs4, hB4⟩
  case round =>
    obtain ⟨k, hkl, hk30, hn, rfl, rfl, hy, hbr⟩ := hrel
    clear hs4 hB4 hB3 hb2 hb3 hb4
    have N : Hid (gk = 30 - k) := hn
    clear hn
    have hsz := hbr.size
    obtain ⟨py, cy, rfl⟩ := hy.none
    by_cases hlt : k < l.length
    · by_cases h30 : k < 30
      · rcases H3.out with h0 | ⟨b, off', rfl, h4, h5⟩
        · rw [h0] at hlt; simp at hlt
        obtain ⟨op', a', cc, hl⟩ : ∃ op a c, l[k]? = some (op, a, c) := ⟨l[k].1, l[k].2.1, l[k].2.2, by rw [List.getElem?_eq_getElem hlt]⟩
        obtain ⟨x0, y0, _⟩ := h5 k op' a' cc hl
        have x1 := (hbr.cell (p := ⟨b, off' + k * 3, none⟩) h4).trans x0
        have y1 := (hbr.cell (p := ⟨b, off' + k * 3 + 1, none⟩) h4).trans y0
        have KC1 : Hid (Calls Tryd.prog 11 #[.string op', .int .i64 a', .nilIface] wr.drew fun e w' => e = .returned .nilIface ∧ w' = wr.drew) := wrap_nil op' a' wr.drew
        clear hl h5 x0 y0 H3
        go_upto_region 8 with fail
        go_cut [9] (fun x wx => x = .nilIface ∧ Below wr.heap.size wr wx)
        case first =>
          go_region_with (go_at_call 11; refine KC1.out.mono ?_; rintro e w3 ⟨rfl, rfl⟩)
          all_goals (go_wp2_with fail; go_meet; exact ⟨rfl, (Below.refl _ _).drew⟩)
        case rest =>
          obtain ⟨w8, hw8⟩ : ∃ w8, w8 = wc := ⟨_, rfl⟩
          subst hw8
          obtain ⟨rfl, hb3⟩ := hcut
          have hBc := hbr.trans (hb3.mono hsz)
          have x2 := (hb3.cell (p := ⟨b, off' + k * 3, none⟩) (Nat.lt_of_lt_of_le h4 hsz)).trans x1
          have y2 := (hb3.cell (p := ⟨b, off' + k * 3 + 1, none⟩) (Nat.lt_of_lt_of_le h4 hsz)).trans y1
          have KC2 : Hid (Calls Tryd.prog 12 #[.slice py 0 cy, .string op', .int .i64 a'] w8.drew fun e w' => (∃ sv, e = .returned sv ∧ Steps w' sv []) ∧ Below w8.drew.heap.size w8.drew w') := rwrap_nil py cy op' a' w8.drew
          clear x1 y1 hy KC1
          go_upto_region 9 with fail
          go_cut [10] (fun y wx => Steps wx y [] ∧ Below w8.heap.size w8 wx)
          case first =>
            go_region_with (go_at_call 12; refine KC2.out.mono ?_; rintro e w4 ⟨⟨v4, rfl, hs4⟩, hb4⟩)
            all_goals (go_wp2_with fail; go_meet; exact ⟨hs4, Below.trans ((Below.refl _ _).drew) hb4⟩)
          case rest =>
            obtain ⟨wd, hwd⟩ : ∃ wd, wd = wc := ⟨_, rfl⟩
            subst hwd
            obtain ⟨hs4, hb4⟩ := hcut
            have hBd := hBc.trans (hb4.mono hBc.size)
            obtain ⟨p4, c4, rfl⟩ := hs4.none
            go_wp2_with fail
            refine (where_nil wd (hg.below hBd)).mono ?_
            rintro e w5 ⟨rfl, hb5⟩
            clear x2 y2 KC2
            go_wp2
            go_roundg (30 - (k + 1))
            case measure => rw [N.out]; omega
            case rel => exact ⟨k + 1, by omega, by omega, rfl, by go_num, rfl, hs4.stays hb5, hBd.trans (hb5.mono hBd.size)⟩
      · clear H3
        go_wp2_with fail
        refine (chain_steps (hg.below hbr) (Lk.nil _) (Nat.zero_le _)).mono ?_
        rintro e w5 ⟨⟨sc5, rfl, hs5⟩, hb5⟩
        have hB5 := hbr.trans (hb5.mono hsz)
        have hy5 := hy.stays hb5
        go_wp2_with fail
        refine (same_true hs5 hy5 (Nat.zero_le _)).mono ?_
        rintro e w6 ⟨rfl, hb6⟩
        have hB6 := hB5.trans (hb6.mono hB5.size)
        have hy6 := hy5.stays hb6
        go_wp2_with fail
        refine (of_nil w6 (hg.below hB6)).mono ?_
        rintro e w7 ⟨rfl, hb7⟩
        have hB7 := hB6.trans (hb7.mono hB6.size)
        have hy7 := hy6.stays hb7
        go_wp2_with fail
        refine (rof_any hy7 (Nat.zero_le _)).mono ?_
        rw [show codeOf [] = 0 from rfl]
        rintro e w8 ⟨rfl, hb8⟩
        have hB8 := hB7.trans (hb8.mono hB7.size)
        have hy8 := hy7.stays hb8
        go_wp2_with fail
        refine (text_nil w8 (hg.below hB8)).mono ?_
        rintro e w9 ⟨rfl, hb9⟩
        have hB9 := hB8.trans (hb9.mono hB8.size)
        have hy9 := hy8.stays hb9
        go_wp2_with fail
        refine (rtext_any hy9 (Nat.zero_le _) (fun _ h => by cases h)).mono ?_
        rw [textB_nil]
        rintro e w10 ⟨rfl, hb10⟩
        have hB10 := hB9.trans (hb10.mono hB9.size)
        go_wp2_with fail
        refine (works_any (hg.below hB10) (ht.below hB10)).mono ?_
        rintro e w11 ⟨rfl, hb11⟩
        go_wp2
        go_ret
        exact ⟨rfl, hB10.trans (hb11.mono hB10.size)⟩
    · clear H3
      go_wp2_with fail
      refine (chain_steps (hg.below hbr) (Lk.nil _) (Nat.zero_le _)).mono ?_
      rintro e w5 ⟨⟨sc5, rfl, hs5⟩, hb5⟩
      have hB5 := hbr.trans (hb5.mono hsz)
      have hy5 := hy.stays hb5
      go_wp2_with fail
      refine (same_true hs5 hy5 (Nat.zero_le _)).mono ?_
      rintro e w6 ⟨rfl, hb6⟩
      have hB6 := hB5.trans (hb6.mono hB5.size)
      have hy6 := hy5.stays hb6
      go_wp2_with fail
      refine (of_nil w6 (hg.below hB6)).mono ?_
      rintro e w7 ⟨rfl, hb7⟩
      have hB7 := hB6.trans (hb7.mono hB6.size)
      have hy7 := hy6.stays hb7
      go_wp2_with fail
      refine (rof_any hy7 (Nat.zero_le _)).mono ?_
      rw [show codeOf [] = 0 from rfl]
      rintro e w8 ⟨rfl, hb8⟩
      have hB8 := hB7.trans (hb8.mono hB7.size)
      have hy8 := hy7.stays hb8
      go_wp2_with fail
      refine (text_nil w8 (hg.below hB8)).mono ?_
      rintro e w9 ⟨rfl, hb9⟩
      have hB9 := hB8.trans (hb9.mono hB8.size)
      have hy9 := hy8.stays hb9
      go_wp2_with fail
      refine (rtext_any hy9 (Nat.zero_le _) (fun _ h => by cases h)).mono ?_
      rw [textB_nil]
      rintro e w10 ⟨rfl, hb10⟩
      have hB10 := hB9.trans (hb10.mono hB9.size)
      go_wp2_with fail
      refine (works_any (hg.below hB10) (ht.below hB10)).mono ?_
      rintro e w11 ⟨rfl, hb11⟩
      go_wp2
      go_ret
      exact ⟨rfl, hB10.trans (hb11.mono hB10.size)⟩

theorem lawTells_any {w : World} {sv : Value} {l : List Lnk} (op : ByteArray) (a c : Int) (hg : ErrT w) (ht : Tab w) (h : Steps w sv l) (hop : LOk (op, a, c)) (hl : ∀ x ∈ l, LOk x) :
    Calls Tryd.prog 3 #[.string op, .int .i64 a, .int .i64 c, sv] w fun e w' => e = .returned (.bool true) ∧ Below w.heap.size w w' := by
  by_cases hc : c = 0
  · subst hc; exact lawTells_zero op a hg ht h
  · exact lawTells_some op a c (by simpa using hc) hg ht h hop hl
end Go.Proofs.YthjklbgkhpchhaaDoor
