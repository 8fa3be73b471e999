/-
  The program's bucket: the size of entries, where a key is.
-/
import Derived.Test.YtgmghekgelmmcaaDoorQMem
import Derived.Test.YtgmghekgelmmcaaDoorQMath
import Derived.Test.YtgmghekgelmmcaaDoorQIAllE
namespace Go.Proofs.YtgmghekgelmmcaaDoor
open Go.RowKit
open Ite (Ent zeroE checkE sizeE sizeP Fine EsAt)

theorem key_inj {a b : ByteArray} (h : a.toList = b.toList) : a = b := by
  have : a.data.toList = b.data.toList := by rw [← ByteArray.toList_eq, ← ByteArray.toList_eq]; exact h
  cases a; cases b
  congr
  exact Array.toList_inj.1 this
set_option maxHeartbeats 2000000 in
set_option maxRecDepth 10000 in
theorem bsize_any {w : World} {v : Value} {xs : List Ent} (h : EsAt w v xs) (hf : ∀ x ∈ xs, Fine x) (hl : szL xs ≤ 100000) :
    Calls Tryd.prog 21 #[v] w fun en w' => en = .returned (.int .i64 (szL xs : Int)) ∧ Below w.heap.size w w' := by
  obtain ⟨p, cap, rfl, h2, h3, h5⟩ := h
  unfold maxLen at h3
  have HE := hid2 h5
  have HF := hid2 hf
  have HT := hid2 (szL_le_take xs)
  clear h5 hf
  go_enter Tryd.func21, Tryd.ntmps21
  go_wp2_with fail
  go_loopw [3, 8] (fun s i wr => ∃ k : Nat, k ≤ xs.length ∧ i = .int .i64 (k : Int) ∧ s = .int .i64 (szL (xs.take k) : Int) ∧ Below w.heap.size w wr) (fun _ i _ => xs.length - (intOf i).toNat)
  case atStart => exact ⟨0, Nat.zero_le _, rfl, rfl, Below.refl _ _⟩
  case round =>
    obtain ⟨k, hk, rfl, rfl, hbr⟩ := hrel
    have ht := HT.out k
    by_cases hlt : k < xs.length
    · obtain ⟨x, hx⟩ : ∃ x, xs[k]? = some x := ⟨_, List.getElem?_eq_getElem hlt⟩
      obtain ⟨bb, off, q, c, rfl, hbb, a0, a1, a2, a3, a4, hbs⟩ := HE.out k _ hx
      have hki : (k : Int) < (xs.length : Int) := by omega
      have HX := hid2 (szL_take hx)
      have hfx := HF.out x (List.mem_of_getElem? hx)
      have hsz := Ite.fine_size hfx
      obtain ⟨f1, f2, f3, f4, f5⟩ := hfx
      clear hx
      have cc : ∀ o, wr.cell? ⟨bb, o, none⟩ = w.cell? ⟨bb, o, none⟩ := fun o => hbr.cell (p := ⟨bb, o, none⟩) hbb
      have a0 := (cc _).trans a0
      have a1 := (cc _).trans a1
      have a2 := (cc _).trans a2
      have a3 := (cc _).trans a3
      have a4 := (cc _).trans a4
      have hbb2 := Nat.lt_of_lt_of_le hbb hbr.size
      clear cc
      go_wp2_with (refine Ite.st24 rfl (.tmp 5) (.tmp 11) rfl wr.heap.size rfl _ _ _ _ _ _ (heap_alloc_new wr _) rfl rfl ⟨rfl, rfl, rfl, rfl, rfl⟩ ?_; intro v1 z1 y1; obtain ⟨⟨q0, q1, q2, q3, q4⟩, _⟩ := Ite.five24 z1; have hlt1 := lt_of_block z1)
      have X1 : Below wr.heap.size wr v1 := ((Below.refl _ _).alloc (Nat.le_refl _) _).grown y1 (by simp) (fun k hk => by cases hk; exact Nat.le_refl _)
      refine (Ite.size_any x.key x.ver x.asof x.ends q x.val.length c _ f1 f2 f3.1 f4.1 f5.1).mono ?_
      rintro en w2 ⟨rfl, B2⟩
      have HSE : Hid (sizeP x.key.size x.ver x.asof x.ends x.val.length = sizeE x) := rfl
      have hsz2 : sizeP x.key.size x.ver x.asof x.ends x.val.length ≤ 7000 := hsz
      generalize sizeP x.key.size x.ver x.asof x.ends x.val.length = m at *
      clear q0 q1 q2 q3 q4 a0 a1 a2 a3 a4
      go_wp2_with fail
      go_roundw
      case rel => exact ⟨k + 1, by omega, by go_num, by rw [HX.out, ← HSE.out]; go_num, hbr.trans ((X1.trans (B2.mono X1.size)).mono hbr.size)⟩
      case measure => simp [intOf]; omega
    · have hkk : k = xs.length := by omega
      subst hkk
      have hki : ¬ ((xs.length : Int) < (xs.length : Int)) := by omega
      rw [List.take_length] at ht ⊢
      go_wp2_with fail
      go_ret
      exact ⟨rfl, hbr⟩

set_option maxHeartbeats 1000000 in
theorem same_any {w : World} {b : Nat} {k : ByteArray} (x : Ent) (q : Option Addr) (c : Nat) (hb : w.heap[b]? = some (.cells #[.string k] 9 (0, 0))) :
    Calls Tryd.prog 43 #[.agg #[.string x.key, .int .i64 x.ver, .int .i64 x.asof, .int .i64 x.ends, .slice q x.val.length c], .pointer (some ⟨b, 0, none⟩)] w fun e w' => e = .returned (.bool (decide (x.key = k))) ∧ Below w.heap.size w w' := by
  have hlt := lt_of_block hb
  have hb0 : Below w.heap.size w (w.alloc (.cells #[.string x.key, .int .i64 x.ver, .int .i64 x.asof, .int .i64 x.ends, .slice q x.val.length c] 39)) := by go_grown
  have hx0 := heap_alloc_new w (.cells #[.string x.key, .int .i64 x.ver, .int .i64 x.asof, .int .i64 x.ends, .slice q x.val.length c] 39)
  have hc := cell_of_one (heap_stays hb hb0)
  obtain ⟨⟨q0, q1, q2, q3, q4⟩, _⟩ := Ite.five24 hx0
  have HB := hid2 hb0
  clear hx0 hb0
  by_cases hkey : x.key = k
  · have d : (x.key.toList == k.toList) = true := by rw [hkey]; exact beq_self_eq_true _
    have HK : Hid (decide (x.key = k) = true) := decide_eq_true hkey
    clear hkey
    go_enter Tryd.func43, Tryd.ntmps43
    go_wp2_with fail
    go_ret
    exact ⟨by rw [HK.out]; rfl, HB.out⟩
  · have d : (x.key.toList == k.toList) = false := by
      rw [beq_eq_false_iff_ne]
      exact fun e => hkey (key_inj e)
    have HK : Hid (decide (x.key = k) = false) := decide_eq_false hkey
    clear hkey
    go_enter Tryd.func43, Tryd.ntmps43
    go_wp2_with fail
    go_ret
    exact ⟨by rw [HK.out]; rfl, HB.out⟩

set_option maxHeartbeats 1000000 in
set_option maxRecDepth 8000 in
theorem idxf_any {w : World} {v : Value} {L : List Ent} {b : Nat} {k : ByteArray} (h : EsAt w v L) (hb : w.heap[b]? = some (.cells #[.string k] 9 (0, 0))) :
    Calls Tryd.prog 42 #[v, .func (.func 43) #[] #[.pointer (some ⟨b, 0, none⟩)]] w fun e w' => e = .returned (.int .i64 (findE L k)) ∧ Below w.heap.size w w' := by
  obtain ⟨p, cap, rfl, h2, h3⟩ := h.form
  unfold maxLen at h3
  have HE := hid2 h
  have HB := hid2 hb
  clear h hb
  go_enter Tryd.func42, Tryd.ntmps42
  go_wp2_with fail
  go_loopg [8] L.length (fun gi i wr => ∃ m : Nat, m ≤ L.length ∧ gi = L.length - m ∧ i = .int .i64 (m : Int) ∧ Below w.heap.size w wr ∧ ∀ j y, j < m → L[j]? = some y → y.key ≠ k)
  case atStart => exact ⟨0, Nat.zero_le _, rfl, rfl, Below.refl _ _, fun j y hj => absurd hj (Nat.not_lt_zero _)⟩
  case round =>
    obtain ⟨m, hm, hgi, rfl, hbr, hno⟩ := hrel
    have HG := hid2 hgi
    have HN := hid2 hno
    have HBR := hid2 hbr
    clear hgi hno hbr
    by_cases hml : m = L.length
    · subst hml
      have hnone : findE L k = -1 := findE_none (idx_none.2 (fun x hx => by
          obtain ⟨j, hj⟩ := List.mem_iff_getElem?.1 hx
          exact HN.out j x (List.getElem?_eq_some_iff.1 hj).1 hj))
      have HNO := hid2 hnone
      clear hnone
      go_wp2
      go_ret
      exact ⟨by rw [HNO.out]; rfl, HBR.out⟩
    · have hlt : m < L.length := by omega
      obtain ⟨x, hx⟩ : ∃ x, L[m]? = some x := ⟨_, List.getElem?_eq_getElem hlt⟩
      obtain ⟨bl, off, q, c, rfl, hbl, hrange, _⟩ := EsAt.cells (HE.out.stays HBR.out) hx
      have a0 := hrange 0 _ rfl
      have a1 := hrange 1 _ rfl
      have a2 := hrange 2 _ rfl
      have a3 := hrange 3 _ rfl
      have a4 := hrange 4 _ rfl
      rw [Nat.add_zero] at a0
      have hI : (0 : Int) ≤ (m : Int) ∧ (m : Int) < (L.length : Int) := by omega
      have htn : ((m : Int)).toNat = m := by omega
      have HX := hid2 hx
      clear hrange hx
      go_wp2_with fail
      refine (same_any x q c (heap_stays HB.out HBR.out)).mono ?_
      rintro e w1 ⟨rfl, hb1⟩
      have HB1 := hid2 (HBR.out.trans (hb1.mono HBR.out.size))
      clear hb1 a0 a1 a2 a3 a4
      by_cases hkey : x.key = k
      · have hfound : findE L k = (m : Int) := findE_some (idx_some.2 ⟨x, HX.out, hkey, HN.out⟩)
        have HFO := hid2 hfound
        rw [decide_eq_true hkey]
        clear hfound hkey
        go_wp2
        go_ret
        exact ⟨by rw [HFO.out]; rfl, HB1.out⟩
      · rw [decide_eq_false hkey]
        have HK := hid2 hkey
        clear hkey
        go_wp2
        go_roundg (L.length - (m + 1))
        case measure => rw [HG.out]; omega
        case rel =>
          refine ⟨m + 1, by omega, rfl, rfl, HB1.out, fun j y hj hy => ?_⟩
          rcases Nat.lt_succ_iff_lt_or_eq.1 hj with h | rfl
          · exact HN.out j y h hy
          · rw [HX.out] at hy
            cases hy
            exact HK.out

set_option maxHeartbeats 1000000 in
theorem bfind_any {w : World} {v : Value} {L : List Ent} (h : EsAt w v L) (k : ByteArray) :
    Calls Tryd.prog 20 #[v, .string k] w fun e w' => e = .returned (.int .i64 (findE L k)) ∧ Below w.heap.size w w' := by
  have hb0 : Below w.heap.size w (w.alloc (.cells #[.string k] 9)) := by go_grown
  have K := hid2 (idxf_any (h.stays hb0) (heap_alloc_new w (.cells #[.string k] 9)))
  have HB := hid2 hb0
  clear hb0 h
  go_enter Tryd.func20, Tryd.ntmps20
  go_wp2_with fail
  refine (show Calls _ _ _ _ _ from K.out).mono ?_
  rintro e w1 ⟨rfl, hb1⟩
  have HB1 := hid2 (HB.out.trans (hb1.mono HB.out.size))
  clear hb1
  go_wp2
  go_ret
  exact ⟨rfl, HB1.out⟩

set_option maxHeartbeats 1000000 in
set_option maxRecDepth 8000 in
theorem many_any {w : World} {v : Value} {L : List Ent} (h : EsAt w v L) (hf : ∀ x ∈ L, Fine x) (hl : szL L ≤ 100000) :
    Calls Tryd.prog 38 #[v] w fun e w' => e = .returned (.int .i64 (cutK L : Int)) ∧ Below w.heap.size w w' := by
  obtain ⟨p, cap, rfl, h2, h3⟩ := h.form
  unfold maxLen at h3
  have HE := hid2 h
  have HF := hid2 hf
  have HL := hid2 hl
  have K := hid2 (bsize_any h hf hl)
  clear h hf hl
  go_enter Tryd.func38, Tryd.ntmps38
  go_wp2_with fail
  refine (show Calls _ _ _ _ _ from K.out).mono ?_
  rintro e w0 ⟨rfl, hb0⟩
  have HB0 := hid2 hb0
  clear hb0 K
  go_wp2_with fail
  go_loopg [3, 4] L.length (fun gi i s wr => ∃ m : Nat, m ≤ L.length ∧ gi = L.length - m ∧ i = .int .i64 (m : Int) ∧ s = .int .i64 (szL (L.drop m) : Int) ∧ Below w.heap.size w wr ∧ cutK L = m + cutK (L.drop m))
  case atStart => exact ⟨0, Nat.zero_le _, rfl, rfl, rfl, HB0.out, by simp⟩
  case round =>
    obtain ⟨m, hm, hgi, rfl, rfl, hbr, hcut⟩ := hrel
    have HG := hid2 hgi
    have HBR := hid2 hbr
    have HC := hid2 hcut
    have hle := Nat.le_trans (szL_le_drop L m) HL.out
    clear hgi hbr hcut
    by_cases hs : szL (L.drop m) ≤ 233
    · have HM := hid2 (cutK_end HC.out hs)
      generalize szL (L.drop m) = s at *
      have hlt : ¬ ((233 : Int) < (s : Int)) := by omega
      clear hs
      go_wp2_with fail
      go_ret
      exact ⟨by rw [HM.out]; rfl, HBR.out⟩
    · obtain ⟨hlt, hcut⟩ := cutK_at hm HC.out hs
      obtain ⟨x, hx⟩ : ∃ x, L[m]? = some x := ⟨_, List.getElem?_eq_getElem hlt⟩
      have hdr := szL_drop hx
      have hfx := HF.out x (List.mem_of_getElem? hx)
      have hsz := Ite.fine_size hfx
      obtain ⟨bl, off, q, c, rfl, hbl, hrange, hbs⟩ := EsAt.cells (HE.out.stays HBR.out) hx
      have a0 := hrange 0 _ rfl
      have a1 := hrange 1 _ rfl
      have a2 := hrange 2 _ rfl
      have a3 := hrange 3 _ rfl
      have a4 := hrange 4 _ rfl
      rw [Nat.add_zero] at a0
      have hI : (0 : Int) ≤ (m : Int) ∧ (m : Int) < (L.length : Int) := by omega
      have htn : ((m : Int)).toNat = m := by omega
      have K1 := hid2 (bsize_any (xs := [x]) (Ite.ents_one hbs) (fun y hy => by rw [List.mem_singleton.1 hy]; exact hfx) (by rw [szL_one]; omega))
      rw [szL_one] at K1
      have HB1 : Hid (Below wr.heap.size wr (wr.alloc (.cells #[.string x.key, .int .i64 x.ver, .int .i64 x.asof, .int .i64 x.ends, .slice q x.val.length c] 39))) := by show Below _ _ _; go_grown
      rw [hdr] at hle hs ⊢
      generalize hse : szL (L.drop (m + 1)) = s at *
      have HSE := hid2 hse
      clear hse
      generalize sizeE x = sx at *
      have hgt : (233 : Int) < ((sx + s : Nat) : Int) := by omega
      have HCUT := hid2 hcut
      clear hcut hrange hbs hx hdr hs hfx
      go_wp2_with fail
      refine (show Calls _ _ _ _ _ from K1.out).mono ?_
      rintro e w2 ⟨rfl, hb2⟩
      have HB2 := hid2 (HBR.out.trans ((HB1.out.trans (hb2.mono HB1.out.size)).mono HBR.out.size))
      clear hb2 a0 a1 a2 a3 a4
      go_wp2_with fail
      go_roundg (L.length - (m + 1))
      case measure => rw [HG.out]; omega
      case rel => exact ⟨m + 1, by omega, rfl, by go_num, by rw [HSE.out]; go_num, HB2.out, HCUT.out⟩
end Go.Proofs.YtgmghekgelmmcaaDoor
