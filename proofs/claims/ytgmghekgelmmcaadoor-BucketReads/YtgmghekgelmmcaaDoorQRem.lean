/-
  The program's bucket: a key's entry taken out; the document's.
-/
import Derived.Test.YtgmghekgelmmcaaDoorQOps
import Derived.Test.YtgmghekgelmmcaaDoorQICopyE
namespace Go.Proofs.YtgmghekgelmmcaaDoor
open Go.RowKit
open Ite (Ent zeroE checkE sizeE Fine EsAt)

set_option maxHeartbeats 2000000 in
set_option maxRecDepth 10000 in
theorem remove_any {w : World} {v : Value} {L : List Ent} (h : EsAt w v L) (hf : ∀ x ∈ L, Fine x) (hl : L.length ≤ 10000) (k : ByteArray) :
    Calls Tryd.prog 16 #[v, .string k] w fun e w' => ∃ v' cs, e = .returned (.tuple #[v', .bool (decide (0 ≤ findE L k))]) ∧ w'.ownsRow w.heap.size 39 5 v' (butK L k).length cs ∧ EQ w' w.heap.size (butK L k) cs ∧ Below w.heap.size w w' := by
  obtain ⟨p, cap, rfl, h2, h3⟩ := h.form
  unfold maxLen at h3
  obtain ⟨i0, hi, hz0, hz1, hz2⟩ := info_parts info_en
  have HE := hid2 h
  have HF := hid2 hf
  have HLT := hid2 (butK_lt (L := L) (k := k))
  clear h hf
  go_enter Tryd.func16, Tryd.ntmps16
  go_wp2_with (at_make; refine wpList_make_own _ rfl _ _ 23 rfl w.heap.size 39 i0 _ 5 Tryd.underlying23 hi hz0 hz1 .i64 .i64 _ L.length rfl rfl (by omega) (by rw [hz2]; omega) (by unfold maxLen; omega) (Nat.le_refl _) ?_; intro w0 hown0 hgrow0)
  have HO0 := hid2 hown0
  have HB0 := hid2 (below_grown hgrow0)
  clear hown0 hgrow0
  go_wp2_with fail
  go_loopg [6, 14] L.length (fun gi l i wr => ∃ (m : Nat) (cs : List Value), m ≤ L.length ∧ gi = L.length - m ∧ i = .int .i64 (m : Int) ∧ wr.ownsRow w.heap.size 39 5 l (butK (L.take m) k).length cs ∧ EQ wr w.heap.size (butK (L.take m) k) cs ∧ Below w.heap.size w wr)
  case atStart => exact ⟨0, [], Nat.zero_le _, rfl, rfl, HO0.out, rfl, HB0.out⟩
  case round =>
    obtain ⟨m, cs, hm, hgi, rfl, ho, hq, hbr⟩ := hrel
    have HG := hid2 hgi
    have HO := hid2 ho
    have HQ := hid2 hq
    have HBR := hid2 hbr
    have hlen := butK_len (L.take m) k
    rw [List.length_take] at hlen
    obtain ⟨po, co, rfl⟩ := own_form5 ho
    clear hgi ho hq hbr
    by_cases hlt : m < L.length
    · obtain ⟨x, hx⟩ : ∃ x, L[m]? = some x := ⟨_, List.getElem?_eq_getElem hlt⟩
      obtain ⟨bl, off, q, c, rfl, hbl, hrange, hbs⟩ := EsAt.cells (HE.out.stays HBR.out) hx
      have hbt := butK_take (k := k) hx
      have hfx := HF.out x (List.mem_of_getElem? hx)
      have a0 := hrange 0 _ rfl
      have a1 := hrange 1 _ rfl
      have a2 := hrange 2 _ rfl
      have a3 := hrange 3 _ rfl
      have a4 := hrange 4 _ rfl
      rw [Nat.add_zero] at a0
      have hI : (0 : Int) ≤ (m : Int) ∧ (m : Int) < (L.length : Int) := by omega
      have htn : ((m : Int)).toNat = m := by omega
      have HBS := hid2 hbs
      clear hrange hbs hx
      by_cases hkey : x.key = k
      · rw [if_pos hkey] at hbt
        have d : (x.key.toList == k.toList) = true := by rw [hkey]; exact beq_self_eq_true _
        have HBT := hid2 hbt
        clear hbt hkey
        go_wp2_with (refine Ite.st24 rfl (.tmp 8) (.tmp 17) rfl wr.heap.size rfl _ _ _ _ _ _ (heap_alloc_new wr _) rfl rfl ⟨rfl, rfl, rfl, rfl, rfl⟩ ?_; intro v1 z1 y1; obtain ⟨⟨q0, q1, q2, q3, q4⟩, _⟩ := Ite.five24 z1; have hlt1 := lt_of_block z1)
        have X1 : Below wr.heap.size wr v1 := ((Below.refl _ _).alloc (Nat.le_refl _) _).grown y1 (by simp) (fun k hk => by cases hk; exact Nat.le_refl _)
        go_roundg (L.length - (m + 1))
        case measure => rw [HG.out]; omega
        case rel => exact ⟨m + 1, cs, by omega, rfl, rfl, by rw [HBT.out]; exact own_fr HO.out X1, by rw [HBT.out]; exact HQ.out.stays X1, HBR.out.trans (X1.mono HBR.out.size)⟩
      · rw [if_neg hkey] at hbt
        have d : (x.key.toList == k.toList) = false := by
          rw [beq_eq_false_iff_ne]
          exact fun e => hkey (key_inj e)
        have HBT := hid2 hbt
        clear hbt hkey
        go_wp2_with (refine Ite.st24 rfl (.tmp 8) (.tmp 17) rfl wr.heap.size rfl _ _ _ _ _ _ (heap_alloc_new wr _) rfl rfl ⟨rfl, rfl, rfl, rfl, rfl⟩ ?_; intro v1 z1 y1; obtain ⟨⟨q0, q1, q2, q3, q4⟩, _⟩ := Ite.five24 z1; have hlt1 := lt_of_block z1)
        have X1 : Below wr.heap.size wr v1 := ((Below.refl _ _).alloc (Nat.le_refl _) _).grown y1 (by simp) (fun k hk => by cases hk; exact Nat.le_refl _)
        have hx5 := hfx.2.1
        refine (Ite.copy_any x.key x.ver x.asof x.ends (HBS.out.stays X1) (by omega)).mono ?_
        rintro e w2 ⟨p2, c2, rfl, hs2, B2⟩
        have B12 := X1.trans (B2.mono X1.size)
        have O2 := own_fr HO.out B12
        have Q2 := HQ.out.stays B12
        have S2 := hid2 (Bq.of5 w.heap.size hs2)
        have HB2 := hid2 (HBR.out.trans (B12.mono HBR.out.size))
        have hal : Below w2.heap.size w2 (w2.alloc (.cells #[.string x.key, .int .i64 x.ver, .int .i64 x.asof, .int .i64 x.ends, .slice p2 x.val.length c2] 39)) := by go_grown
        have O3 := hid2 (own_fr O2 hal)
        have Q3 := hid2 ((Q2.stays hal).snoc (S2.out.stays hal))
        have B3 := hid2 (HB2.out.trans (hal.mono HB2.out.size))
        clear hs2 B2 B12 O2 Q2 hal q0 q1 q2 q3 q4 a0 a1 a2 a3 a4
        go_wp2_with (at_builtin; refine wpList_append_own _ rfl (.tmp 22) (.tmp 25) 23 rfl w.heap.size 39 i0 (.agg #[.string ⟨#[]⟩, .int .i64 0, .int .i64 0, .int .i64 0, .slice none 0 0]) 5 64 Tryd.underlying23 hi hz0 hz1 hz2 rfl (by decide) _ _ _ rfl O3.out ⟨w2.heap.size, 0, none⟩ 1 1 [.string x.key, .int .i64 x.ver, .int .i64 x.asof, .int .i64 x.ends, .slice p2 x.val.length c2] rfl rfl (cell_five_new _ _ _ _ _ _ _) (by intro x hx; simp at hx; rcases hx with rfl | rfl | rfl | rfl | rfl <;> rfl) (by unfold maxLen; omega) (by omega) B3.out.size ?_; intro v5 w5 hown5 hgrow5 _)
        have G5 := row_grown O3.out hgrow5 (Nat.le_refl _)
        go_roundg (L.length - (m + 1))
        case measure => rw [HG.out]; omega
        case rel => exact ⟨m + 1, _, by omega, rfl, rfl, by rw [HBT.out, List.length_append]; exact hown5, by rw [HBT.out]; exact Q3.out.fr G5, B3.out.grown hgrow5 B3.out.size (fun k hk => (O3.out.lt k hk).1)⟩
    · have hml : m = L.length := by omega
      subst hml
      rw [List.take_length] at HO HQ hlen ⊢
      have HR : Hid (decide ((butK L k).length < L.length) = decide (0 ≤ findE L k)) := by
        show _ = _
        by_cases hh : 0 ≤ findE L k
        · rw [decide_eq_true hh, decide_eq_true (HLT.out.2 hh)]
        · rw [decide_eq_false hh, decide_eq_false (fun h' => hh (HLT.out.1 h'))]
      go_wp2_with fail
      go_ret2
      exact ⟨_, cs, by rw [HR.out] <;> rfl, HO.out, HQ.out, HBR.out⟩

set_option maxHeartbeats 2000000 in
set_option maxRecDepth 10000 in
theorem rbut_any {w : World} {v : Value} {L : List Ent} (h : EsAt w v L) (hl : L.length ≤ 10000) (k : ByteArray) :
    Calls Tryd.prog 18 #[v, .string k] w fun e w' => ∃ v' cs, e = .returned v' ∧ w'.ownsRow w.heap.size 39 5 v' (butK L k).length cs ∧ EQ w' w.heap.size (butK L k) cs ∧ Below w.heap.size w w' := by
  obtain ⟨p, cap, rfl, h2, h3⟩ := h.form
  unfold maxLen at h3
  obtain ⟨i0, hi, hz0, hz1, hz2⟩ := info_parts info_en
  have HE := hid2 h
  clear h
  go_enter Tryd.func18, Tryd.ntmps18
  go_wp2_with fail
  go_loopg [5, 6] L.length (fun gi l i wr => ∃ (m : Nat) (cs : List Value), m ≤ L.length ∧ gi = L.length - m ∧ i = .int .i64 (m : Int) ∧ wr.ownsRow w.heap.size 39 5 l (butK (L.take m) k).length cs ∧ EQ wr w.heap.size (butK (L.take m) k) cs ∧ Below w.heap.size w wr)
  case atStart => exact ⟨0, [], Nat.zero_le _, rfl, rfl, World.ownsRow_nil _ _ _ _, rfl, Below.refl _ _⟩
  case round =>
    obtain ⟨m, cs, hm, hgi, rfl, ho, hq, hbr⟩ := hrel
    have HG := hid2 hgi
    have HO := hid2 ho
    have HQ := hid2 hq
    have HBR := hid2 hbr
    have hlen := butK_len (L.take m) k
    rw [List.length_take] at hlen
    obtain ⟨po, co, rfl⟩ := own_form5 ho
    clear hgi ho hq hbr
    by_cases hlt : m < L.length
    · obtain ⟨x, hx⟩ : ∃ x, L[m]? = some x := ⟨_, List.getElem?_eq_getElem hlt⟩
      obtain ⟨bl, off, q, c, rfl, hbl, hrange, hbs⟩ := EsAt.cells HE.out hx
      have hbt := butK_take (k := k) hx
      have hbl2 := Nat.lt_of_lt_of_le hbl HBR.out.size
      have cc : ∀ o, wr.cell? ⟨bl, o, none⟩ = w.cell? ⟨bl, o, none⟩ := fun o => HBR.out.cell (p := ⟨bl, o, none⟩) hbl
      have a0 := (cc _).trans (hrange 0 _ rfl)
      have a1 := (cc _).trans (hrange 1 _ rfl)
      have a2 := (cc _).trans (hrange 2 _ rfl)
      have a3 := (cc _).trans (hrange 3 _ rfl)
      have a4 := (cc _).trans (hrange 4 _ rfl)
      rw [Nat.add_zero] at a0
      have hI : (0 : Int) ≤ (m : Int) ∧ (m : Int) < (L.length : Int) := by omega
      have htn : ((m : Int)).toNat = m := by omega
      have HBS := hid2 (Bq.old hbs (Nat.le_refl _))
      clear hrange hbs hx cc
      by_cases hkey : x.key = k
      · rw [if_pos hkey] at hbt
        have d : (x.key.toList == k.toList) = true := by rw [hkey]; exact beq_self_eq_true _
        have HBT := hid2 hbt
        clear hbt hkey
        go_wp2_with fail
        go_roundg (L.length - (m + 1))
        case measure => rw [HG.out]; omega
        case rel => exact ⟨m + 1, cs, by omega, rfl, rfl, by rw [HBT.out]; exact HO.out, by rw [HBT.out]; exact HQ.out, HBR.out⟩
      · rw [if_neg hkey] at hbt
        have d : (x.key.toList == k.toList) = false := by
          rw [beq_eq_false_iff_ne]
          exact fun e => hkey (key_inj e)
        have HBT := hid2 hbt
        clear hbt hkey
        have hal : Below wr.heap.size wr (wr.alloc (.cells #[.string x.key, .int .i64 x.ver, .int .i64 x.asof, .int .i64 x.ends, .slice q x.val.length c] 39)) := by go_grown
        have O3 := hid2 (own_fr HO.out hal)
        have Q3 := hid2 ((HQ.out.stays hal).snoc ((HBS.out.fr (Fr.mono (Fr.of HBR.out) (Nat.le_refl _))).stays hal))
        have B3 := hid2 (HBR.out.trans (hal.mono HBR.out.size))
        clear hal
        go_wp2_with (at_builtin; refine wpList_append_own _ rfl (.tmp 20) (.tmp 25) 23 rfl w.heap.size 39 i0 (.agg #[.string ⟨#[]⟩, .int .i64 0, .int .i64 0, .int .i64 0, .slice none 0 0]) 5 64 Tryd.underlying23 hi hz0 hz1 hz2 rfl (by decide) _ _ _ rfl O3.out ⟨wr.heap.size, 0, none⟩ 1 1 [.string x.key, .int .i64 x.ver, .int .i64 x.asof, .int .i64 x.ends, .slice q x.val.length c] rfl rfl (cell_five_new _ _ _ _ _ _ _) (by intro x hx; simp at hx; rcases hx with rfl | rfl | rfl | rfl | rfl <;> rfl) (by unfold maxLen; omega) (by omega) B3.out.size ?_; intro v5 w5 hown5 hgrow5 _)
        have G5 := row_grown O3.out hgrow5 (Nat.le_refl _)
        go_roundg (L.length - (m + 1))
        case measure => rw [HG.out]; omega
        case rel => exact ⟨m + 1, _, by omega, rfl, rfl, by rw [HBT.out, List.length_append]; exact hown5, by rw [HBT.out]; exact Q3.out.fr G5, B3.out.grown hgrow5 B3.out.size (fun k hk => (O3.out.lt k hk).1)⟩
    · have hml : m = L.length := by omega
      subst hml
      rw [List.take_length] at HO HQ hlen ⊢
      go_wp2_with fail
      go_ret
      exact ⟨_, cs, rfl, HO.out, HQ.out, HBR.out⟩
end Go.Proofs.YtgmghekgelmmcaaDoor
