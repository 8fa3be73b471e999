/-
  The walk of the law TroubleTells: whatever the fault and the links, the call answers true. Conditions: what was done, of the fault and of each link, is at most 2097152 bytes long; the numbers are of 64 bits.
-/
import Derived.Test.YthjklbgkhpchhaaDoorLawHas
import Derived.Test.YthjklbgkhpchhaaDoorRefMore
import Derived.Deep.DeepCutAuto
namespace Go.Proofs.YthjklbgkhpchhaaDoor
open Go.RowKit Go.Extern.Stop Go.Stop Go.Extern

/-- The links of the law's fault behind k wraps. -/
def tellL (op : ByteArray) (a c : Int) (l : List Lnk) (k : Nat) : List Lnk := (l.take k).foldl wrapL (if c = 0 then [] else [(op, a, c)])

theorem tellL_zero (op : ByteArray) (a : Int) (l : List Lnk) (k : Nat) : tellL op a 0 l k = [] := by unfold tellL; rw [if_pos rfl]; exact foldl_nil _
theorem tellL_shape (op : ByteArray) (a c : Int) (l : List Lnk) (k : Nat) (hc : c ≠ 0) : ∃ d, tellL op a c l k = d ++ [(op, a, c)] ∧ (∀ x ∈ d, x.2.2 = 0) ∧ d.length ≤ k := by
  unfold tellL
  rw [if_neg hc]
  obtain ⟨d, h1, h2, h3⟩ := foldl_shape (l.take k) [] (op, a, c) (by simp)
  exact ⟨d, h1, h2, by rw [h3]; simp; exact Nat.min_le_left _ _⟩
theorem tellL_succ (op : ByteArray) (a c : Int) (l : List Lnk) (k : Nat) (x : Lnk) (h : l[k]? = some x) : tellL op a c l (k + 1) = wrapL (tellL op a c l k) x := by
  unfold tellL; rw [List.take_add_one, h, List.foldl_append]; rfl

theorem foldl_ok (l ls : List Lnk) (h1 : ∀ x ∈ l, LOk x) (h2 : ∀ x ∈ ls, LOk x) : ∀ x ∈ l.foldl wrapL ls, LOk x := by
  induction l generalizing ls with
  | nil => exact h2
  | cons y r ih =>
    refine ih (wrapL ls y) (fun x hx => h1 x (List.mem_cons_of_mem _ hx)) ?_
    unfold wrapL
    split
    · intro x hx; cases hx
    · intro x hx
      rcases List.mem_cons.1 hx with rfl | hx
      · have := h1 y (List.mem_cons_self ..)
        exact ⟨this.op, this.at_, show I64 0 from by unfold I64; decide⟩
      · exact h2 x hx

theorem tellL_ok (op : ByteArray) (a c : Int) (l : List Lnk) (k : Nat) (h : LOk (op, a, c)) (hl : ∀ x ∈ l, LOk x) : ∀ x ∈ tellL op a c l k, LOk x := by
  unfold tellL
  refine foldl_ok _ _ (fun x hx => hl x (List.mem_of_mem_take hx)) ?_
  split
  · intro x hx; cases hx
  · intro x hx; obtain rfl := List.mem_singleton.1 hx; exact h

theorem codeOf_shape (d : List Lnk) (op : ByteArray) (a c : Int) (hc : c ≠ 0) (h : ∀ x ∈ d, x.2.2 = 0) : codeOf (d ++ [(op, a, c)]) = c := by
  induction d with
  | nil => simp [codeOf, hc]
  | cons x r ih =>
    have hx := h x (List.mem_cons_self ..)
    simp only [List.cons_append, codeOf, hx, if_pos]
    exact ih fun y hy => h y (List.mem_cons_of_mem _ hy)

theorem text_nil (w : World) (hg : ErrT w) : Calls Tryd.prog 16 #[.nilIface] w fun e w' => e = .returned (.string ByteArray.empty) ∧ Below w.heap.size w w' := by
  go_enter Tryd.func16, Tryd.ntmps16
  go_wp2_with (first | (go_at_call 10; refine (chain_any hg (Lk.nil _).er (Nat.zero_le _)).mono ?_; rintro e w1 ⟨sv, rfl, hown, hb1⟩; obtain ⟨p, cap, rfl⟩ := own_len hown; clear hown))
  refine wp_loop_rounds 1 ?_
  rw [rounds_succ]
  go_wp2_with (go_at_call 26; refine (Tryd.strings_Join_none _ _ _ _).mono ?_; rintro e w2 ⟨rfl, rfl⟩)
  go_ret
  exact ⟨rfl, hb1⟩

/-- A fault that has links is a pointer. -/
theorem Lk.at_ {w : World} {v : Value} {ls : List Lnk} (h : Lk w v ls) (hne : ls ≠ []) : ∃ b, v = .iface 50 (.pointer (some ⟨b, 0, none⟩)) := by
  rcases h.inv with ⟨_, h0⟩ | ⟨b, _, _, _, _, _, h0, _⟩
  · exact absurd h0 hne
  · exact ⟨b, h0⟩

/-- A slice of links that are not none, opened at its last one. -/
theorem Steps.last {w : World} {v : Value} {d : List Lnk} {op : ByteArray} {a c : Int} (h : Steps w v (d ++ [(op, a, c)])) :
    ∃ b off cap, v = .slice (some ⟨b, off, none⟩) (d.length + 1) cap ∧ b < w.heap.size ∧ w.cell? ⟨b, off + d.length * 3 + 1, none⟩ = some (.int .i64 a) := by
  obtain ⟨p, cap, rfl, _, h3⟩ := h
  rcases h3 with h3 | ⟨b, off, rfl, h4, h5⟩
  · simp at h3
  · refine ⟨b, off, cap, by simp, h4, (h5 d.length op a c (by simp)).2.1⟩

theorem chain_steps {w : World} {v : Value} {ls : List Lnk} (hg : ErrT w) (h : Lk w v ls) (hlen : ls.length ≤ 1000) :
    Calls Tryd.prog 10 #[v] w fun e w' => (∃ sv, e = .returned sv ∧ Steps w' sv ls) ∧ Below w.heap.size w w' :=
  (chain_any hg h.er hlen).mono fun e w' ⟨sv, h1, h2, h3⟩ => ⟨⟨sv, h1, Steps.of_own h2 (by unfold maxLen; omega)⟩, h3⟩

set_option maxHeartbeats 8000000 in
set_option maxRecDepth 10000 in
theorem lawTells_some {w : World} {sv : Value} {l : List Lnk} (op : ByteArray) (a c : Int) (hc : (c == 0) = false) (hg : ErrT w) (ht : Tab w) (h : Steps w sv l) (hop : LOk (op, a, c)) (hl : ∀ x ∈ l, LOk x) :
    Calls Tryd.prog 3 #[.string op, .int .i64 a, .int .i64 c, sv] w fun e w' => e = .returned (.bool true) ∧ Below w.heap.size w w' := by
  have hc0 : c ≠ 0 := by simpa using hc
  have SH := fun k => tellL_shape op a c l k hc0
  have OK := fun k => tellL_ok op a c l k hop hl
  have SU := fun k x (h : l[k]? = some x) => tellL_succ op a c l k x h
  have T0 : tellL op a c l 0 = [(op, a, c)] := by unfold tellL; rw [if_neg hc0]; rfl
  have F : Hid ((∀ k, ∃ d, tellL op a c l k = d ++ [(op, a, c)] ∧ (∀ x ∈ d, x.2.2 = 0) ∧ d.length ≤ k) ∧ (∀ k, ∀ x ∈ tellL op a c l k, LOk x) ∧ (∀ k x, l[k]? = some x → tellL op a c l (k + 1) = wrapL (tellL op a c l k) x) ∧ tellL op a c l 0 = [(op, a, c)] ∧ c ≠ 0) := ⟨SH, OK, SU, T0, hc0⟩
  obtain ⟨p, cap, rfl, hm, h3⟩ := h
  unfold maxLen at hm
  have H3 : Hid (l = [] ∨ ∃ b off, p = some ⟨b, off, none⟩ ∧ b < w.heap.size ∧ StepCells w b off l) := h3
  clear SH OK SU T0 hc0 h3 hl
  go_enter Tryd.func3, Tryd.ntmps3
  go_wp2_with fail
  refine (new_some op a c w hc).mono ?_
  rintro e w1 ⟨rfl, hw1⟩
  have hb1 : Below w.heap.size w w1 := by rw [hw1]; go_grown
  have hk1 : Lk w1 (.iface 50 (.pointer (some ⟨w.heap.size, 0, none⟩))) [(op, a, c)] := Lk.cons _ op a c .nilIface [] (by rw [hw1]; exact heap_alloc_new _ _) (Lk.nil _)
  clear hw1
  go_wp2_with fail
  refine (rfault_some op a c w1 hc).mono ?_
  rintro e w2 ⟨⟨r, rfl, hs2⟩, hb2⟩
  have hk2 := hk1.stays hb2
  have hB2 := hb1.trans (hb2.mono hb1.size)
  obtain ⟨br, off, capr, rfl, _, _⟩ := Steps.last (d := []) hs2
  go_wp2_with fail
  refine (chain_steps (hg.below hB2) hk2 (by simp)).mono ?_
  rintro e w3 ⟨⟨sc, rfl, hs3⟩, hb3⟩
  have hB3 := hB2.trans (hb3.mono hB2.size)
  go_wp2_with fail
  refine (same_true hs3 (hs2.stays hb3) (by simp)).mono ?_
  rintro e w4 ⟨rfl, hb4⟩
  have hB4 := hB3.trans (hb4.mono hB3.size)
  have hk4 := (hk2.stays hb3).stays hb4
  have hs4 := (hs2.stays hb3).stays hb4
  clear hk1 hk2 hs2 hs3
  go_wp2_with fail
  go_loopg [9, 10, 11] 30 (fun n x y i wr => ∃ k : Nat, k ≤ l.length ∧ k ≤ 30 ∧ n = 30 - k ∧ i = .int .i64 k ∧ Lk wr x (tellL op a c l k) ∧ Steps wr y (tellL op a c l k) ∧ Below w.heap.size w wr)
  case atStart => exact ⟨0, Nat.zero_le _, by omega, rfl, rfl, by rw [F.out.2.2.2.1]; exact hk4, by rw [F.out.2.2.2.1]; exact hs4, hB4⟩
  case round =>
    obtain ⟨k, hkl, hk30, hn, rfl, hx, hy, hbr⟩ := hrel
    clear hk4 hs4 hB4 hB3 hB2 hb1 hb2 hb3 hb4
    have N : Hid (gk = 30 - k) := hn
    clear hn
    obtain ⟨d, hd, hz, hdl⟩ := F.out.1 k
    have hok := F.out.2.1 k
    rw [hd] at hx hy hok
    have D : Hid (tellL op a c l k = d ++ [(op, a, c)] ∧ (∀ x ∈ d, x.2.2 = 0) ∧ (∀ x ∈ d ++ [(op, a, c)], LOk x)) := ⟨hd, hz, hok⟩
    have hd30 : d.length ≤ 30 := by omega
    clear hd hz hok
    have hsz := hbr.size
    obtain ⟨bx, rfl⟩ := hx.at_ (by simp)
    obtain ⟨br2, off2, capr2, rfl, hbr2, hc2⟩ := hy.last
    by_cases hlt : k < l.length
    · by_cases h30 : k < 30
      · rcases H3.out with h0 | ⟨b, off', rfl, h4, h5⟩
        · rw [h0] at hlt; simp at hlt
        obtain ⟨op', a', cc, hl⟩ : ∃ op a c, l[k]? = some (op, a, c) := ⟨l[k].1, l[k].2.1, l[k].2.2, by rw [List.getElem?_eq_getElem hlt]⟩
        obtain ⟨x0, y0, _⟩ := h5 k op' a' cc hl
        have x1 := (hbr.cell (p := ⟨b, off' + k * 3, none⟩) h4).trans x0
        have y1 := (hbr.cell (p := ⟨b, off' + k * 3 + 1, none⟩) h4).trans y0
        have hxd := hx.stays (w' := wr.drew) ((Below.refl _ _).drew)
        have W1 : wrapL (d ++ [(op, a, c)]) (op', a', cc) = ((op', a', 0) :: d) ++ [(op, a, c)] := by unfold wrapL; rw [if_neg (by simp)]; rfl
        have HL : Hid (tellL op a c l (k + 1) = ((op', a', 0) :: d) ++ [(op, a, c)]) := by unfold Hid; rw [F.out.2.2.1 k _ hl, D.out.1, W1]
        have C1 := wrap_any op' a' cc hxd
        rw [W1] at C1
        have KC1 : Hid (Calls Tryd.prog 11 #[.string op', .int .i64 a', .iface 50 (.pointer (some ⟨bx, 0, none⟩))] wr.drew fun e w' => (∃ v', e = .returned v' ∧ Lk w' v' (((op', a', 0) :: d) ++ [(op, a, c)])) ∧ Below wr.drew.heap.size wr.drew w') := C1
        have W1H : Hid (wrapL (d ++ [(op, a, c)]) (op', a', cc) = ((op', a', 0) :: d) ++ [(op, a, c)]) := W1
        clear hl h5 x0 y0 H3 C1 W1 hxd hc2
        go_upto_region 8 with fail
        go_cut [9] (fun x wx => Lk wx x (((op', a', 0) :: d) ++ [(op, a, c)]) ∧ Below wr.heap.size wr wx)
        case first =>
          go_region_with (go_at_call 11; refine KC1.out.mono ?_; rintro e w3 ⟨⟨v3, rfl, hk3⟩, hb3⟩)
          all_goals (go_wp2_with fail; go_meet; exact ⟨hk3, Below.trans ((Below.refl _ _).drew) hb3⟩)
        case rest =>
          obtain ⟨w8, hw8⟩ : ∃ w8, w8 = wc := ⟨_, rfl⟩
          subst hw8
          obtain ⟨hk3, hb3⟩ := hcut
          have hBc := hbr.trans (hb3.mono hsz)
          have x2 := (hb3.cell (p := ⟨b, off' + k * 3, none⟩) (Nat.lt_of_lt_of_le h4 hsz)).trans x1
          have y2 := (hb3.cell (p := ⟨b, off' + k * 3 + 1, none⟩) (Nat.lt_of_lt_of_le h4 hsz)).trans y1
          have hyd := (hy.stays hb3).stays (w' := w8.drew) ((Below.refl _ _).drew)
          have C2 := rwrap_any op' a' cc hyd (by simp; omega)
          rw [W1H.out] at C2
          obtain ⟨bx3, rfl⟩ := hk3.at_ (by simp)
          clear x1 y1 hx hy hyd KC1 W1H
          go_upto_region 9 with fail
          have KC2 : Hid (Calls Tryd.prog 12 #[.slice (some ⟨br2, off2, none⟩) (d.length + 1) capr2, .string op', .int .i64 a'] w8.drew fun e w' => (∃ sv, e = .returned sv ∧ Steps w' sv (((op', a', 0) :: d) ++ [(op, a, c)])) ∧ Below w8.drew.heap.size w8.drew w') := C2
          clear C2
          go_cut [10] (fun y wx => Steps wx y (((op', a', 0) :: d) ++ [(op, a, c)]) ∧ Below w8.heap.size w8 wx)
          case first =>
            go_region_with (go_at_call 12; refine KC2.out.mono ?_; rintro e w4 ⟨⟨v4, rfl, hs4⟩, hb4⟩)
            all_goals (go_wp2_with fail; go_meet; exact ⟨hs4, Below.trans ((Below.refl _ _).drew) hb4⟩)
          case rest =>
            obtain ⟨wd, hwd⟩ : ∃ wd, wd = wc := ⟨_, rfl⟩
            subst hwd
            obtain ⟨hs4, hb4⟩ := hcut
            have hBd := hBc.trans (hb4.mono hBc.size)
            have hk4 := hk3.stays hb4
            obtain ⟨br4, off4, capr4, rfl, hbl4, hc4⟩ := hs4.last
            go_wp2_with fail
            refine (where_some wd (hg.below hBd) hk4.er (by simp; omega)).mono ?_
            rintro e w5 ⟨rfl, hb5⟩
            have hc5 := (hb5.cell (p := ⟨br4, off4 + ((op', a', 0) :: d).length * 3 + 1, none⟩) hbl4).trans hc4
            simp only [List.length_cons] at hc5
            clear x2 y2 KC2
            go_wp2
            go_roundg (30 - (k + 1))
            case measure => rw [N.out]; omega
            case rel =>
              refine ⟨k + 1, by omega, by omega, rfl, by go_num, ?_, ?_, hBd.trans (hb5.mono hBd.size)⟩
              · rw [HL.out]; exact hk4.stays hb5
              · rw [HL.out]; exact hs4.stays hb5
      · have hlen : (d ++ [(op, a, c)]).length ≤ 100 := by simp; omega
        have hlen2 : (d ++ [(op, a, c)]).length ≤ 1000 := by simp; omega
        have CO : Hid (codeOf (d ++ [(op, a, c)]) = c) := codeOf_shape d op a c F.out.2.2.2.2 D.out.2.1
        clear H3 hc2
        go_wp2_with fail
        refine (chain_steps (hg.below hbr) hx hlen2).mono ?_
        rintro e w5 ⟨⟨sc5, rfl, hs5⟩, hb5⟩
        have hB5 := hbr.trans (hb5.mono hsz)
        have hx5 := hx.stays hb5
        have hy5 := hy.stays hb5
        go_wp2_with fail
        refine (same_true hs5 hy5 hlen2).mono ?_
        rintro e w6 ⟨rfl, hb6⟩
        have hB6 := hB5.trans (hb6.mono hB5.size)
        have hx6 := hx5.stays hb6
        have hy6 := hy5.stays hb6
        go_wp2_with fail
        refine (of_some w6 (hg.below hB6) hx6.er (by omega)).mono ?_
        rintro e w7 ⟨rfl, hb7⟩
        have hB7 := hB6.trans (hb7.mono hB6.size)
        have hx7 := hx6.stays hb7
        have hy7 := hy6.stays hb7
        go_wp2_with fail
        refine (rof_any hy7 hlen2).mono ?_
        rw [CO.out]
        rintro e w8 ⟨rfl, hb8⟩
        have hB8 := hB7.trans (hb8.mono hB7.size)
        have hx8 := hx7.stays hb8
        have hy8 := hy7.stays hb8
        go_wp2_with fail
        refine (text_any (hg.below hB8) (ht.below hB8) hx8 (by simp) hlen D.out.2.2).mono ?_
        rintro e w9 ⟨rfl, hb9⟩
        have hB9 := hB8.trans (hb9.mono hB8.size)
        have hy9 := hy8.stays hb9
        go_wp2_with fail
        refine (rtext_any hy9 hlen D.out.2.2).mono ?_
        rintro e w10 ⟨rfl, hb10⟩
        have hB10 := hB9.trans (hb10.mono hB9.size)
        go_wp2_with fail
        refine (works_any (hg.below hB10) (ht.below hB10)).mono ?_
        rintro e w11 ⟨rfl, hb11⟩
        go_wp2
        go_ret
        exact ⟨rfl, hB10.trans (hb11.mono hB10.size)⟩
    · have hlen : (d ++ [(op, a, c)]).length ≤ 100 := by simp; omega
      have hlen2 : (d ++ [(op, a, c)]).length ≤ 1000 := by simp; omega
      have CO : Hid (codeOf (d ++ [(op, a, c)]) = c) := codeOf_shape d op a c F.out.2.2.2.2 D.out.2.1
      clear H3 hc2
      go_wp2_with fail
      refine (chain_steps (hg.below hbr) hx hlen2).mono ?_
      rintro e w5 ⟨⟨sc5, rfl, hs5⟩, hb5⟩
      have hB5 := hbr.trans (hb5.mono hsz)
      have hx5 := hx.stays hb5
      have hy5 := hy.stays hb5
      go_wp2_with fail
      refine (same_true hs5 hy5 hlen2).mono ?_
      rintro e w6 ⟨rfl, hb6⟩
      have hB6 := hB5.trans (hb6.mono hB5.size)
      have hx6 := hx5.stays hb6
      have hy6 := hy5.stays hb6
      go_wp2_with fail
      refine (of_some w6 (hg.below hB6) hx6.er (by omega)).mono ?_
      rintro e w7 ⟨rfl, hb7⟩
      have hB7 := hB6.trans (hb7.mono hB6.size)
      have hx7 := hx6.stays hb7
      have hy7 := hy6.stays hb7
      go_wp2_with fail
      refine (rof_any hy7 hlen2).mono ?_
      rw [CO.out]
      rintro e w8 ⟨rfl, hb8⟩
      have hB8 := hB7.trans (hb8.mono hB7.size)
      have hx8 := hx7.stays hb8
      have hy8 := hy7.stays hb8
      go_wp2_with fail
      refine (text_any (hg.below hB8) (ht.below hB8) hx8 (by simp) hlen D.out.2.2).mono ?_
      rintro e w9 ⟨rfl, hb9⟩
      have hB9 := hB8.trans (hb9.mono hB8.size)
      have hy9 := hy8.stays hb9
      go_wp2_with fail
      refine (rtext_any hy9 hlen D.out.2.2).mono ?_
      rintro e w10 ⟨rfl, hb10⟩
      have hB10 := hB9.trans (hb10.mono hB9.size)
      go_wp2_with fail
      refine (works_any (hg.below hB10) (ht.below hB10)).mono ?_
      rintro e w11 ⟨rfl, hb11⟩
      go_wp2
      go_ret
      exact ⟨rfl, hB10.trans (hb11.mono hB10.size)⟩
end Go.Proofs.YthjklbgkhpchhaaDoor
