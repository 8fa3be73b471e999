/-
  made at this seat.
-/
import Derived.Test.YthjklbgkhpchhaaDoorRef
import Derived.Deep.DeepCutAuto
namespace Go.Proofs.YthjklbgkhpchhaaDoor
open Go.RowKit Go.Extern.Stop Go.Stop Go.Extern

/-- New, whatever the code. -/
theorem new_any (op : ByteArray) (a c : Int) (w : World) :
    Calls Tryd.prog 7 #[.string op, .int .i64 a, .int .i64 c] w fun e w' => (∃ v, e = .returned v ∧ Lk w' v (if c = 0 then [] else [(op, a, c)])) ∧ Below w.heap.size w w' := by
  by_cases hc : c = 0
  · subst hc
    rw [if_pos rfl]
    exact (new_zero op a w).mono fun e w' ⟨h1, h2⟩ => ⟨⟨_, h1, Lk.nil _⟩, by rw [h2]; exact Below.refl _ _⟩
  · rw [if_neg hc]
    exact (new_some op a c w (by simpa using hc)).mono fun e w' ⟨h1, h2⟩ => ⟨⟨_, h1, by rw [h2]; exact Lk.cons w.heap.size op a c .nilIface [] (heap_alloc_new _ _) (Lk.nil _)⟩, by rw [h2]; go_grown⟩

theorem rfault_any (op : ByteArray) (a c : Int) (w : World) :
    Calls Tryd.prog 8 #[.string op, .int .i64 a, .int .i64 c] w fun e w' => (∃ sv, e = .returned sv ∧ Steps w' sv (if c = 0 then [] else [(op, a, c)])) ∧ Below w.heap.size w w' := by
  by_cases hc : c = 0
  · subst hc
    rw [if_pos rfl]
    exact rfault_zero op a w
  · rw [if_neg hc]
    exact rfault_some op a c w (by simpa using hc)

/-- Wrapping links. -/
def wrapL (ls : List Lnk) (l : Lnk) : List Lnk := if ls = [] then [] else (l.1, l.2.1, 0) :: ls

theorem wrap_any {w : World} {v : Value} {ls : List Lnk} (op : ByteArray) (a c : Int) (h : Lk w v ls) :
    Calls Tryd.prog 11 #[.string op, .int .i64 a, v] w fun e w' => (∃ v', e = .returned v' ∧ Lk w' v' (wrapL ls (op, a, c))) ∧ Below w.heap.size w w' := by
  rcases h.inv with ⟨rfl, rfl⟩ | ⟨b, op', a', c', u, rest, rfl, rfl, hh, hu⟩
  · exact (wrap_nil op a w).mono fun e w' ⟨h1, h2⟩ => ⟨⟨_, h1, Lk.nil _⟩, by rw [h2]; exact Below.refl _ _⟩
  · refine (wrap_some op a _ w).mono fun e w' ⟨h1, h2⟩ => ?_
    have hb : Below w.heap.size w w' := by rw [h2]; go_grown
    refine ⟨⟨_, h1, ?_⟩, hb⟩
    exact Lk.cons w.heap.size op a 0 _ _ (by rw [h2]; exact heap_alloc_new _ _) (h.stays hb)

theorem rwrap_any {w : World} {sv : Value} {ls : List Lnk} (op : ByteArray) (a c : Int) (h : Steps w sv ls) (hlen : ls.length ≤ 1000) :
    Calls Tryd.prog 12 #[sv, .string op, .int .i64 a] w fun e w' => (∃ sv, e = .returned sv ∧ Steps w' sv (wrapL ls (op, a, c))) ∧ Below w.heap.size w w' := by
  unfold wrapL
  by_cases hls : ls = []
  · rw [if_pos hls]
    obtain ⟨p, cap, rfl, _⟩ := h
    rw [hls]
    exact rwrap_nil p cap op a w
  · rw [if_neg hls]
    exact rwrap_some op a h hls hlen

theorem wrapL_length (ls : List Lnk) (l : Lnk) : (wrapL ls l).length ≤ ls.length + 1 := by
  unfold wrapL; split <;> simp

/-- The links of what 'made' makes. -/
def madeL (c : Int) (l : List Lnk) : List Lnk := (l.take 30).foldl wrapL (if c = 0 then [] else [(⟨#[102, 105, 114, 115, 116]⟩, 0, c)])

theorem foldl_wrapL_length (l : List Lnk) (ls : List Lnk) : (l.foldl wrapL ls).length ≤ ls.length + l.length := by
  induction l generalizing ls with
  | nil => simp
  | cons x r ih => have := ih (wrapL ls x); have := wrapL_length ls x; simp only [List.foldl_cons, List.length_cons]; omega

theorem madeAt_length (c : Int) (l : List Lnk) (k : Nat) (hk : k ≤ 30) : ((l.take k).foldl wrapL (if c = 0 then [] else [(⟨#[102, 105, 114, 115, 116]⟩, 0, c)])).length ≤ 31 := by
  have h1 := foldl_wrapL_length (l.take k) (if c = 0 then [] else [(⟨#[102, 105, 114, 115, 116]⟩, 0, c)])
  have h2 : (l.take k).length ≤ k := List.length_take_le _ _
  have h3 : (if c = 0 then [] else [((⟨#[102, 105, 114, 115, 116]⟩ : ByteArray), (0 : Int), c)]).length ≤ 1 := by split <;> simp
  omega

set_option maxHeartbeats 4000000 in
set_option maxRecDepth 10000 in
theorem made_any {w : World} {sv : Value} {l : List Lnk} (c : Int) (h : Steps w sv l) :
    Calls Tryd.prog 19 #[.int .i64 c, sv] w fun e w' => (∃ v r, e = .returned (.tuple #[v, r]) ∧ Lk w' v (madeL c l) ∧ Steps w' r (madeL c l)) ∧ Below w.heap.size w w' := by
  obtain ⟨p, cap, rfl, hm, h3⟩ := h
  unfold maxLen at hm
  go_enter Tryd.func19, Tryd.ntmps19
  go_wp2_with (first
    | (go_at_call 7; refine (new_any _ _ _ _).mono ?_; rintro e w1 ⟨⟨v1, rfl, hk1⟩, hb1⟩)
    | (go_at_call 8; refine (rfault_any _ _ _ _).mono ?_; rintro e w2 ⟨⟨r1, rfl, hs1⟩, hb2⟩))
  have hB2 := hb1.trans (hb2.mono hb1.size)
  have hk2 := hk1.stays hb2
  have H3 : Hid (l = [] ∨ ∃ b off, p = some ⟨b, off, none⟩ ∧ b < w.heap.size ∧ StepCells w b off l) := h3
  clear h3 hk1 hb1 hb2
  go_loopg [6, 7, 8] 30 (fun n x y i wr => ∃ k : Nat, k ≤ l.length ∧ k ≤ 30 ∧ n = 30 - k ∧ i = .int .i64 k ∧ Lk wr x ((l.take k).foldl wrapL (if c = 0 then [] else [(⟨#[102, 105, 114, 115, 116]⟩, 0, c)])) ∧ Steps wr y ((l.take k).foldl wrapL (if c = 0 then [] else [(⟨#[102, 105, 114, 115, 116]⟩, 0, c)])) ∧ Below w.heap.size w wr)
  case atStart => exact ⟨0, Nat.zero_le _, by omega, rfl, rfl, hk2, hs1, hB2⟩
  case round =>
    obtain ⟨k, hkl, hk30, hn, rfl, hx, hy, hbr⟩ := hrel
    clear hk2 hs1 hB2
    have N : Hid (gk = 30 - k) := hn
    clear hn
    have hl31 := madeAt_length c l k hk30
    generalize hls : (l.take k).foldl wrapL (if c = 0 then [] else [((⟨#[102, 105, 114, 115, 116]⟩ : ByteArray), (0 : Int), c)]) = ls at hx hy hl31
    have HLS : Hid ((l.take k).foldl wrapL (if c = 0 then [] else [((⟨#[102, 105, 114, 115, 116]⟩ : ByteArray), (0 : Int), c)]) = ls) := hls
    clear hls
    have hsz := hbr.size
    by_cases hlt : k < l.length
    · by_cases h30 : k < 30
      · rcases H3.out with h0 | ⟨b, off, rfl, h4, h5⟩
        · rw [h0] at hlt; simp at hlt
        obtain ⟨op, a, cc, hl⟩ : ∃ op a c, l[k]? = some (op, a, c) := ⟨l[k].1, l[k].2.1, l[k].2.2, by rw [List.getElem?_eq_getElem hlt]⟩
        obtain ⟨x0, y0, _⟩ := h5 k op a cc hl
        have x1 := (hbr.cell (p := ⟨b, off + k * 3, none⟩) h4).trans x0
        have y1 := (hbr.cell (p := ⟨b, off + k * 3 + 1, none⟩) h4).trans y0
        have hxd : Lk wr.drew u6 ls := hx.stays ((Below.refl _ _).drew)
        have HL : Hid (l[k]? = some (op, a, cc)) := hl
        clear hl h5 x0 y0 H3
        go_upto_region 6 with fail
        go_cut [6] (fun x wx => Lk wx x (wrapL ls (op, a, cc)) ∧ Below wr.heap.size wr wx)
        case first =>
          go_region_with (go_at_call 11; refine (wrap_any op a cc hxd).mono ?_; rintro e w3 ⟨⟨v3, rfl, hk3⟩, hb3⟩)
          all_goals (go_wp2_with fail; go_meet; exact ⟨hk3, Below.trans ((Below.refl _ _).drew) hb3⟩)
        case rest =>
          obtain ⟨hk3, hb3⟩ := hcut
          have hBc := hbr.trans (hb3.mono hsz)
          have x2 := (hb3.cell (p := ⟨b, off + k * 3, none⟩) (Nat.lt_of_lt_of_le h4 hsz)).trans x1
          have y2 := (hb3.cell (p := ⟨b, off + k * 3 + 1, none⟩) (Nat.lt_of_lt_of_le h4 hsz)).trans y1
          have hyd : Steps wc.drew u7 ls := (hy.stays hb3).stays ((Below.refl _ _).drew)
          have hlen : ls.length ≤ 1000 := by omega
          clear x1 y1 hxd hx hy
          go_upto_region 7 with fail
          go_region_with (go_at_call 12; refine (rwrap_any op a cc hyd hlen).mono ?_; rintro e w4 ⟨⟨v4, rfl, hs4⟩, hb4⟩)
          all_goals
            go_wp2
            go_roundg (30 - (k + 1))
            case measure => rw [N.out]; omega
            case rel =>
              have e : (l.take (k + 1)).foldl wrapL (if c = 0 then [] else [((⟨#[102, 105, 114, 115, 116]⟩ : ByteArray), (0 : Int), c)]) = wrapL ls (op, a, cc) := by
                rw [List.take_add_one, HL.out, List.foldl_append, HLS.out]; rfl
              have hb5 : Below wc.heap.size wc w4 := Below.trans ((Below.refl _ _).drew) hb4
              refine ⟨k + 1, by omega, by omega, rfl, by go_num, ?_, ?_, hBc.trans (hb5.mono hBc.size)⟩
              · rw [e]; exact hk3.stays hb5
              · rw [e]; exact hs4
      · have e : Hid (madeL c l = ls) := by
          unfold Hid madeL
          rw [← HLS.out, show k = 30 by omega]
        clear H3
        go_wp2
        go_ret2
        exact ⟨⟨_, _, rfl, by rw [e.out]; exact hx, by rw [e.out]; exact hy⟩, hbr⟩
    · have e : Hid (madeL c l = ls) := by
        unfold Hid madeL
        rw [← HLS.out, List.take_of_length_le (by omega : l.length ≤ k), List.take_of_length_le (by omega : l.length ≤ 30)]
      clear H3
      go_wp2
      go_ret2
      exact ⟨⟨_, _, rfl, by rw [e.out]; exact hx, by rw [e.out]; exact hy⟩, hbr⟩
end Go.Proofs.YthjklbgkhpchhaaDoor
