/-
  All of the program and of the document: entries as bytes.
-/
import Derived.Test.YtgmghekgelmmcaaDoorQIEnts
namespace Go.Proofs.YtgmghekgelmmcaaDoor.Ite
open Go.RowKit

/-- An entry that can be put. -/
def Fine (x : Ent) : Prop := x.key.size ≤ 1000 ∧ x.val.length ≤ 5000 ∧ (0 ≤ x.ver ∧ x.ver ≤ 1099511627776) ∧ (0 ≤ x.asof ∧ x.asof ≤ 1099511627776) ∧ (0 ≤ x.ends ∧ x.ends ≤ 1099511627776)
theorem fine_of {x : Ent} (h : checkE x = 0) : Fine x := by
  obtain ⟨h1, h2, h3, h4, h5, h6, h7, h8⟩ := chk_ok h
  exact ⟨by omega, by omega, by omega, by omega, by omega⟩
theorem allB_take {xs : List Ent} {k : Nat} {x : Ent} (h : xs[k]? = some x) : allB (xs.take (k + 1)) = allB (xs.take k) ++ rowB x := by
  rw [take_snoc h, allB_append]
  simp [allB]
theorem allB_take_le (xs : List Ent) (k : Nat) : (allB (xs.take k)).length ≤ (allB xs).length := by
  have h : allB xs = allB (xs.take k) ++ allB (xs.drop k) := by rw [← allB_append, List.take_append_drop]
  rw [h, List.length_append]
  omega
theorem rowB_rowP (x : Ent) : rowB x = rowP x.key x.ver x.asof x.ends x.val := rfl
theorem fine_size {x : Ent} (h : Fine x) : sizeE x ≤ 7000 := by
  obtain ⟨h1, h2, _⟩ := h
  have a1 := lenN_bd x.key.size
  have a2 := lenN_bd x.ver
  have a3 := lenN_bd x.asof
  have a4 := lenN_bd x.ends
  have a5 := lenN_bd x.val.length
  unfold sizeE sizeP
  omega

set_option maxHeartbeats 2000000 in
set_option maxRecDepth 10000 in
theorem all_any {w : World} {v : Value} {xs : List Ent} (h : EsAt w v xs) (hf : ∀ x ∈ xs, Fine x) (hl : (allB xs).length ≤ 18000) :
    Calls Tryd.prog 13 #[v] w fun en w' => ∃ sv, en = .returned sv ∧ w'.ownsRow w.heap.size 5 1 sv (allB xs).length (U (allB xs)) ∧ Below w.heap.size w w' := by
  obtain ⟨i0, hi, hz0, hz1, hz2⟩ := Tryd.info5
  obtain ⟨p, cap, rfl, h2, h3, h5⟩ := h
  unfold maxLen at h3
  have HE := hid2 h5
  have HF := hid2 hf
  have HT := hid2 (allB_take_le xs)
  clear h5 hf
  go_enter Tryd.func13, Tryd.ntmps13
  go_wp2_with fail
  go_loopw [3, 11] (fun s i wr => ∃ k : Nat, k ≤ xs.length ∧ i = .int .i64 (k : Int) ∧ s = .int .i64 ((allB (xs.take k)).length : Int) ∧ Below w.heap.size w wr) (fun _ i _ => xs.length - (intOf i).toNat)
  case atStart => exact ⟨0, Nat.zero_le _, rfl, rfl, Below.refl _ _⟩
  case round =>
    obtain ⟨k, hk, rfl, rfl, hbr⟩ := hrel
    have ht := HT.out k
    by_cases hlt : k < xs.length
    · obtain ⟨x, hx⟩ : ∃ x, xs[k]? = some x := ⟨_, List.getElem?_eq_getElem hlt⟩
      obtain ⟨bb, off, q, c, rfl, hbb, a0, a1, a2, a3, a4, hbs⟩ := HE.out k _ hx
      have hki : (k : Int) < (xs.length : Int) := by omega
      have HX := hid2 hx
      have hfx := HF.out x (List.mem_of_getElem? hx)
      have hsz := fine_size hfx
      obtain ⟨f1, f2, f3, f4, f5⟩ := hfx
      clear hx
      have cc : ∀ o, wr.cell? ⟨bb, o, none⟩ = w.cell? ⟨bb, o, none⟩ := fun o => hbr.cell (p := ⟨bb, o, none⟩) hbb
      have a0 := (cc _).trans a0
      have a1 := (cc _).trans a1
      have a2 := (cc _).trans a2
      have a3 := (cc _).trans a3
      have a4 := (cc _).trans a4
      have hbb2 := Nat.lt_of_lt_of_le hbb hbr.size
      clear cc
      go_wp2_with (refine st24 rfl (.tmp 5) (.tmp 14) rfl wr.heap.size rfl _ _ _ _ _ _ (heap_alloc_new wr _) rfl rfl ⟨rfl, rfl, rfl, rfl, rfl⟩ ?_; intro v1 z1 y1; obtain ⟨⟨q0, q1, q2, q3, q4⟩, _⟩ := five24 z1; have hlt1 := lt_of_block z1)
      have X1 : Below wr.heap.size wr v1 := ((Below.refl _ _).alloc (Nat.le_refl _) _).grown y1 (by simp) (fun k hk => by cases hk; exact Nat.le_refl _)
      refine (size_any x.key x.ver x.asof x.ends q x.val.length c _ f1 f2 f3.1 f4.1 f5.1).mono ?_
      rintro en w2 ⟨rfl, B2⟩
      have HSE : Hid (sizeP x.key.size x.ver x.asof x.ends x.val.length = (rowB x).length) := (rowB_length x).symm
      have hsz2 : sizeP x.key.size x.ver x.asof x.ends x.val.length ≤ 7000 := hsz
      generalize sizeP x.key.size x.ver x.asof x.ends x.val.length = m at *
      clear q0 q1 q2 q3 q4 a0 a1 a2 a3 a4
      go_wp2_with fail
      go_roundw
      case rel => exact ⟨k + 1, by omega, by go_num, by rw [allB_take HX.out, List.length_append, ← HSE.out]; go_num, hbr.trans ((X1.trans (B2.mono X1.size)).mono hbr.size)⟩
      case measure => simp [intOf]; omega
    · have hkk : k = xs.length := by omega
      subst hkk
      have hki : ¬ ((xs.length : Int) < (xs.length : Int)) := by omega
      rw [List.take_length] at ht ⊢
      generalize hm : (allB xs).length = m at *
      go_wp2_with (at_make; refine wpList_make_own _ rfl _ _ 22 rfl w.heap.size 5 i0 (.int .u8 0) 1 Tryd.underlying22 hi hz0 hz1 .i64 .i64 _ m rfl rfl (by omega) (by rw [hz2]; omega) (by unfold maxLen; omega) hbr.size ?_; intro w0 hown0 hgrow0)
      have hb0 : Below w.heap.size w w0 := hbr.grown hgrow0 hbr.size (by simp)
      clear hgrow0 hbr
      go_loopg [6, 24] xs.length (fun g out i wr => ∃ k, k ≤ xs.length ∧ g = xs.length - k ∧ i = .int .i64 k ∧ wr.ownsRow w.heap.size 5 1 out (allB (xs.take k)).length (U (allB (xs.take k))) ∧ Below w.heap.size w wr)
      case atStart => exact ⟨0, Nat.zero_le _, rfl, rfl, by simpa [allB, U] using hown0, hb0⟩
      case round =>
        clear hown0 hb0
        obtain ⟨k, hk, hg, rfl, ho, hbr⟩ := hrel
        have HG := hid2 hg
        clear hg
        have ht := HT.out k
        have hsz0 := hbr.size
        by_cases hlt : k < xs.length
        · obtain ⟨x, hx⟩ : ∃ x, xs[k]? = some x := ⟨_, List.getElem?_eq_getElem hlt⟩
          obtain ⟨bb, off, q, c, rfl, hbb, a0, a1, a2, a3, a4, hbs⟩ := HE.out k _ hx
          have hki : (k : Int) < (xs.length : Int) := by omega
          have HX := hid2 hx
          have hfx := HF.out x (List.mem_of_getElem? hx)
          have hsz := fine_size hfx
          obtain ⟨f1, f2, f3, f4, f5⟩ := hfx
          clear hx
          have cc : ∀ o, wr.cell? ⟨bb, o, none⟩ = w.cell? ⟨bb, o, none⟩ := fun o => hbr.cell (p := ⟨bb, o, none⟩) hbb
          have a0 := (cc _).trans a0
          have a1 := (cc _).trans a1
          have a2 := (cc _).trans a2
          have a3 := (cc _).trans a3
          have a4 := (cc _).trans a4
          have hbb2 := Nat.lt_of_lt_of_le hbb hbr.size
          clear cc
          obtain ⟨po, co, hfo⟩ := own_len ho
          subst hfo
          go_wp2_with (refine st24 rfl (.tmp 8) (.tmp 27) rfl wr.heap.size rfl _ _ _ _ _ _ (heap_alloc_new wr _) rfl rfl ⟨rfl, rfl, rfl, rfl, rfl⟩ ?_; intro v1 z1 y1; obtain ⟨⟨q0, q1, q2, q3, q4⟩, _⟩ := five24 z1; have hlt1 := lt_of_block z1)
          have X1 : Below wr.heap.size wr v1 := ((Below.refl _ _).alloc (Nat.le_refl _) _).grown y1 (by simp) (fun k hk => by cases hk; exact Nat.le_refl _)
          have hB1 : Below w.heap.size w v1 := hbr.trans (X1.mono hbr.size)
          refine (row_any x.key x.ver x.asof x.ends f1 f2 f3 f4 f5 (hbs.stays hB1)).mono ?_
          rintro en w2 ⟨sv2, rfl, hown2, B2⟩
          obtain ⟨b2, hb2, hs2⟩ := own_sl hown2
          have ho2 := own_below (own_below ho X1) B2
          have hB2 : Below w.heap.size w w2 := hB1.trans (B2.mono hB1.size)
          have hrl : (rowP x.key x.ver x.asof x.ends x.val).length ≤ 7000 := by rw [← rowB_rowP, rowB_length]; exact hsz
          clear q0 q1 q2 q3 q4 a0 a1 a2 a3 a4 hown2 ho z1 y1
          go_wp2_with (at_builtin; refine wpList_append_sl _ rfl _ _ rfl w.heap.size _ _ _ rfl ho2 b2 _ (rowP x.key x.ver x.asof x.ends x.val) rfl hs2 (by omega) hB2.size ?_; intro v3 w3 hown3 hgrow3)
          go_roundg (xs.length - (k + 1))
          case measure => rw [HG.out]; omega
          case rel =>
            refine ⟨k + 1, by omega, rfl, by go_num, ?_, hB2.grown hgrow3 hB2.size (fun k hk => (ho2.lt k hk).1)⟩
            rw [allB_take HX.out, rowB_rowP, List.length_append, U_append]
            exact hown3
        · have hkk : xs.length ≤ k := by omega
          have hki : ¬ ((k : Int) < (xs.length : Int)) := by omega
          go_wp2
          go_ret
          rw [List.take_of_length_le hkk, hm] at ho
          exact ⟨_, rfl, ho, hbr⟩
end Go.Proofs.YtgmghekgelmmcaaDoor.Ite
