/-
  The document's answers Of, Same and Text at this seat.
-/
import Derived.Test.YthjklbgkhpchhaaDoorRefText
import Derived.Deep.QuietTactic
import Derived.BigQuiet
namespace Go.Proofs.YthjklbgkhpchhaaDoor
open Go.RowKit Go.Extern.Stop Go.Stop Go.Extern

/-- The first code that is not 0. -/
def codeOf : List Lnk → Int
  | [] => 0
  | l :: r => if l.2.2 = 0 then codeOf r else l.2.2

theorem codeOf_drop (ls : List Lnk) (k : Nat) (op : ByteArray) (a c : Int) (h : ls[k]? = some (op, a, c)) : codeOf (ls.drop k) = if c = 0 then codeOf (ls.drop (k + 1)) else c := by
  obtain ⟨hk, he⟩ := List.getElem?_eq_some_iff.1 h
  rw [List.drop_eq_getElem_cons hk, he]; rfl

set_option maxHeartbeats 1000000 in
set_option maxRecDepth 10000 in
theorem rof_any {w : World} {sv : Value} {ls : List Lnk} (h : Steps w sv ls) (hlen : ls.length ≤ 1000) :
    Calls Tryd.prog 15 #[sv] w fun e w' => e = .returned (.int .i64 (codeOf ls)) ∧ Below w.heap.size w w' := by
  obtain ⟨p, cap, rfl, hm, h3⟩ := h
  rcases h3 with h3 | ⟨b, off, rfl, h4, h5⟩
  · have A : Hid (codeOf ls = 0) := by rw [h3]; rfl
    have hl0 : ls.length = 0 := by rw [h3]; rfl
    rw [hl0]
    clear h3 hlen hl0 hm
    go_enter Tryd.func15, Tryd.ntmps15
    go_wp2
    refine wp_loop_rounds 1 ?_
    rw [rounds_succ]
    go_wp2
    go_ret
    exact ⟨by rw [A.out]; rfl, Below.refl _ _⟩
  · have H5 : Hid (StepCells w b off ls) := h5
    clear h5 hm
    go_enter Tryd.func15, Tryd.ntmps15
    go_wp2
    go_loopg [3] ls.length (fun r i wr => ∃ k : Nat, k ≤ ls.length ∧ r = ls.length - k ∧ i = .int .i64 k ∧ codeOf ls = codeOf (ls.drop k) ∧ wr = w)
    case atStart => exact ⟨0, by omega, by omega, rfl, rfl, rfl⟩
    case round =>
      obtain ⟨k, hk, hr, rfl, hh, rfl⟩ := hrel
      have R : Hid (gk = ls.length - k ∧ codeOf ls = codeOf (ls.drop k)) := ⟨hr, hh⟩
      clear hr hh
      by_cases hlt : k < ls.length
      · obtain ⟨op, a, c, hl⟩ : ∃ op a c, ls[k]? = some (op, a, c) := ⟨ls[k].1, ls[k].2.1, ls[k].2.2, by rw [List.getElem?_eq_getElem hlt]⟩
        have hc := (H5.out k op a c hl).2.2
        have HL : Hid (ls[k]? = some (op, a, c)) := hl
        clear hl
        by_cases hz : c = 0
        · subst hz
          go_wp2
          go_roundg (ls.length - (k + 1))
          case measure => rw [R.out.1]; omega
          case rel => exact ⟨k + 1, by omega, rfl, by go_num, by rw [R.out.2, codeOf_drop ls k op a 0 HL.out, if_pos rfl], rfl⟩
        · have hz1 : (c != 0) = true := by simpa using hz
          have Z : Hid (codeOf ls = c) := by unfold Hid; rw [R.out.2, codeOf_drop ls k op a c HL.out, if_neg hz]
          clear hz
          go_wp2
          go_ret
          exact ⟨by rw [Z.out]; rfl, Below.refl _ _⟩
      · have hk2 : k = ls.length := by omega
        subst hk2
        have Z : Hid (codeOf ls = 0) := by unfold Hid; rw [R.out.2, List.drop_length]; rfl
        go_wp2
        go_ret
        exact ⟨by rw [Z.out]; rfl, Below.refl _ _⟩

set_option maxHeartbeats 1000000 in
set_option maxRecDepth 10000 in
theorem same_true {w : World} {s1 s2 : Value} {ls : List Lnk} (h1 : Steps w s1 ls) (h2 : Steps w s2 ls) (hlen : ls.length ≤ 1000) :
    Calls Tryd.prog 9 #[s1, s2] w fun e w' => e = .returned (.bool true) ∧ Below w.heap.size w w' := by
  obtain ⟨p, cap, rfl, hm, h3⟩ := h1
  obtain ⟨p', cap', rfl, _, h3'⟩ := h2
  rcases h3 with h3 | ⟨b, off, rfl, h4, h5⟩
  · have hl0 : ls.length = 0 := by rw [h3]; rfl
    rw [hl0]
    clear h3 h3' hlen hl0 hm
    go_enter Tryd.func9, Tryd.ntmps9
    go_wp2
    refine wp_loop_rounds 1 ?_
    rw [rounds_succ]
    go_wp2
    go_ret
    exact ⟨rfl, Below.refl _ _⟩
  rcases h3' with h3' | ⟨b', off', rfl, h4', h5'⟩
  · have hl0 : ls.length = 0 := by rw [h3']; rfl
    rw [hl0]
    clear h3' hlen hl0 hm h5
    go_enter Tryd.func9, Tryd.ntmps9
    go_wp2
    refine wp_loop_rounds 1 ?_
    rw [rounds_succ]
    go_wp2
    go_ret
    exact ⟨rfl, Below.refl _ _⟩
  · have H5 : Hid (StepCells w b off ls ∧ StepCells w b' off' ls) := ⟨h5, h5'⟩
    clear h5 h5' hm
    go_enter Tryd.func9, Tryd.ntmps9
    go_wp2
    go_loopg [5] ls.length (fun r i wr => ∃ k n : Nat, k ≤ ls.length ∧ r = ls.length - k ∧ i = .int .i64 k ∧ wr = w.drewN n)
    case atStart => exact ⟨0, 0, by omega, by omega, rfl, rfl⟩
    case round =>
      obtain ⟨k, n, hk, hr, rfl, rfl⟩ := hrel
      have R : Hid (gk = ls.length - k) := hr
      clear hr
      by_cases hlt : k < ls.length
      · obtain ⟨op, a, c, hl⟩ : ∃ op a c, ls[k]? = some (op, a, c) := ⟨ls[k].1, ls[k].2.1, ls[k].2.2, by rw [List.getElem?_eq_getElem hlt]⟩
        obtain ⟨x0, x1, x2⟩ := H5.out.1 k op a c hl
        obtain ⟨y0, y1, y2⟩ := H5.out.2 k op a c hl
        clear hl
        go_wp2
        go_quiet (fail)
        go_wp2
        go_roundg (ls.length - (k + 1))
        case measure => rw [R.out]; omega
        case rel => exact ⟨k + 1, _, by omega, rfl, by go_num, rfl⟩
      · have hk2 : k = ls.length := by omega
        subst hk2
        go_wp2
        go_ret
        exact ⟨rfl, below_drewN (Below.refl _ _) _⟩

theorem textB_nil : textB [] = ByteArray.empty := rfl
theorem textB_one (l : Lnk) : textB [l] = linkB l := by
  unfold textB; rw [List.map_cons, List.map_nil, List.map_cons, List.map_nil, Lib.join_one]
theorem textB_snoc (ls : List Lnk) (l : Lnk) (h : ls ≠ []) : textB (ls ++ [l]) = (textB ls ++ ⟨#[58, 32]⟩) ++ linkB l := by
  cases ls with
  | nil => exact absurd rfl h
  | cons x r =>
    unfold textB
    simp only [List.map_cons, List.cons_append, List.map_append, List.map_nil, Lib.join_cons]
    rw [show (⟨#[58, 32]⟩ : ByteArray) = ⟨([58, 32] : List UInt8).toArray⟩ from rfl, ByteArray.mk_append_mk]
    rw [show linkB l = ⟨(linkB l).data.toList.toArray⟩ by simp, ByteArray.mk_append_mk]
    simp [Lib.joinTail, List.append_assoc]

theorem textB_take (ls : List Lnk) (k : Nat) (op : ByteArray) (a c : Int) (h : ls[k]? = some (op, a, c)) :
    textB (ls.take (k + 1)) = if k = 0 then linkB (op, a, c) else (textB (ls.take k) ++ ⟨#[58, 32]⟩) ++ linkB (op, a, c) := by
  rw [List.take_add_one, h]
  by_cases hk : k = 0
  · subst hk; rw [if_pos rfl]; exact textB_one _
  · rw [if_neg hk]
    refine textB_snoc _ _ ?_
    have hkl := (List.getElem?_eq_some_iff.1 h).1
    intro e
    have : (ls.take k).length = 0 := by rw [e]; rfl
    rw [List.length_take] at this
    omega

theorem textB_size (ls : List Lnk) (hlen : ls.length ≤ 100) (hok : ∀ l ∈ ls, LOk l) : (textB ls).size ≤ 209725400 := by
  have h := join_len ((ls.map linkB).map (·.data.toList)) [58, 32] 2097252 (fun x hx => by
    obtain ⟨y, hy, rfl⟩ := List.mem_map.1 hx
    obtain ⟨l, hl, rfl⟩ := List.mem_map.1 hy
    exact linkB_size (hok l hl))
  rw [List.length_map, List.length_map] at h
  have e : (textB ls).size = (Lib.join ((ls.map linkB).map (·.data.toList)) [58, 32]).length := by unfold textB; simp [ByteArray.size]
  rw [e]
  have e2 : ([58, 32] : List UInt8).length = 2 := rfl
  rw [e2] at h
  have : ls.length * (2097252 + 2) ≤ 100 * (2097252 + 2) := Nat.mul_le_mul_right _ hlen
  omega

set_option maxHeartbeats 4000000 in
set_option maxRecDepth 10000 in
theorem rtext_any {w : World} {sv : Value} {ls : List Lnk} (h : Steps w sv ls) (hlen : ls.length ≤ 100) (hok : ∀ l ∈ ls, LOk l) :
    Calls Tryd.prog 17 #[sv] w fun e w' => e = .returned (.string (textB ls)) ∧ Below w.heap.size w w' := by
  obtain ⟨p, cap, rfl, hm, h3⟩ := h
  rcases h3 with h3 | ⟨b, off, rfl, h4, h5⟩
  · have A : Hid (textB ls = ByteArray.empty) := by rw [h3]; rfl
    have hl0 : ls.length = 0 := by rw [h3]; rfl
    rw [hl0]
    clear h3 hlen hl0 hm hok
    go_enter Tryd.func17, Tryd.ntmps17
    go_wp2
    refine wp_loop_rounds 1 ?_
    rw [rounds_succ]
    go_wp2
    go_ret
    exact ⟨by rw [A.out]; rfl, Below.refl _ _⟩
  · have H5 : Hid (StepCells w b off ls ∧ ∀ l ∈ ls, LOk l) := ⟨h5, hok⟩
    clear h5 hm hok
    go_enter Tryd.func17, Tryd.ntmps17
    go_wp2
    go_loopg [3, 4] ls.length (fun r s i wr => ∃ k : Nat, k ≤ ls.length ∧ r = ls.length - k ∧ i = .int .i64 k ∧ s = .string (textB (ls.take k)) ∧ Below w.heap.size w wr)
    case atStart => exact ⟨0, by omega, by omega, rfl, rfl, Below.refl _ _⟩
    case round =>
      obtain ⟨k, hk, hr, rfl, rfl, hbr⟩ := hrel
      have R : Hid (gk = ls.length - k) := hr
      clear hr
      have hsz := hbr.size
      by_cases hlt : k < ls.length
      · obtain ⟨op, a, c, hl⟩ : ∃ op a c, ls[k]? = some (op, a, c) := ⟨ls[k].1, ls[k].2.1, ls[k].2.2, by rw [List.getElem?_eq_getElem hlt]⟩
        obtain ⟨x0, y0, z0⟩ := H5.out.1 k op a c hl
        have ok : LOk (op, a, c) := H5.out.2 _ (List.mem_of_getElem? hl)
        have hop : op.size ≤ 2097152 := ok.op
        have hts : (textB (ls.take k)).size ≤ 209725400 := textB_size _ (by rw [List.length_take]; omega) (fun l hl => H5.out.2 l (List.mem_of_mem_take hl))
        have x1 := (hbr.cell (p := ⟨b, off + k * 3, none⟩) h4).trans x0
        have y1 := (hbr.cell (p := ⟨b, off + k * 3 + 1, none⟩) h4).trans y0
        have z1 := (hbr.cell (p := ⟨b, off + k * 3 + 2, none⟩) h4).trans z0
        have T : Hid (textB (ls.take (k + 1)) = if k = 0 then linkB (op, a, c) else (textB (ls.take k) ++ ⟨#[58, 32]⟩) ++ linkB (op, a, c)) := textB_take ls k op a c hl
        have T0 : Hid (k = 0 → textB (ls.take k) = ByteArray.empty) := fun e => by rw [e]; rfl
        clear hl x0 y0 z0
        have sa := codeB_size ok.at_
        have sc := codeB_size ok.code
        generalize textB (ls.take k) = s0 at hts T T0 ⊢
        simp only [] at sa sc
        by_cases hk0 : k = 0
        · have hk1 : ¬ (0 : Int) < (k : Int) := by omega
          have e0 : s0 = ByteArray.empty := T0.out hk0
          by_cases ha : 0 ≤ a
          · have ca : codeB a = itoaB a := if_neg (by omega)
            by_cases hc : c = 0
            · have hc' : (c != 0) = false := by simpa using hc
              have E : Hid (Value.string (((s0 ++ op) ++ ⟨#[32]⟩) ++ codeB a) = .string (if k = 0 then linkB (op, a, c) else (s0 ++ ⟨#[58, 32]⟩) ++ linkB (op, a, c))) := by
                unfold Hid linkB atB codB; simp [hk0, ha, hc, ca, e0, ByteArray.append_assoc]
              clear hc hk0 T0 e0 ca
              go_wp2_with (first | (go_at_call_of 27 a; refine (digits_any ok.at_).mono ?_; rintro e w3 ⟨rfl, hb3⟩; have z2 := (hb3.cell (p := ⟨b, off + k * 3 + 2, none⟩) (Nat.lt_of_lt_of_le h4 hsz)).trans z1))
              go_roundg (ls.length - (k + 1))
              case measure => rw [R.out]; omega
              case rel => exact ⟨k + 1, by omega, rfl, by go_num, by rw [T.out]; exact E.out, (hbr.trans (hb3.mono hsz))⟩
            · have hc' : (c != 0) = true := by simpa using hc
              have E : Hid (Value.string (((((s0 ++ op) ++ ⟨#[32]⟩) ++ codeB a) ++ ⟨#[32, 99, 111, 100, 101, 32]⟩) ++ codeB c) = .string (if k = 0 then linkB (op, a, c) else (s0 ++ ⟨#[58, 32]⟩) ++ linkB (op, a, c))) := by
                unfold Hid linkB atB codB; simp [hk0, ha, hc, ca, e0, ByteArray.append_assoc]
              clear hc hk0 T0 e0 ca
              go_wp2_with (first | (go_at_call_of 27 a; refine (digits_any ok.at_).mono ?_; rintro e w3 ⟨rfl, hb3⟩; have z2 := (hb3.cell (p := ⟨b, off + k * 3 + 2, none⟩) (Nat.lt_of_lt_of_le h4 hsz)).trans z1) | (go_at_call_of 27 c; refine (digits_any ok.code).mono ?_; rintro e w4 ⟨rfl, hb4⟩))
              go_roundg (ls.length - (k + 1))
              case measure => rw [R.out]; omega
              case rel => exact ⟨k + 1, by omega, rfl, by go_num, by rw [T.out]; exact E.out, ((hbr.trans (hb3.mono hsz)).trans (hb4.mono (Nat.le_trans hsz hb3.size)))⟩
          · have ha' := ha
            by_cases hc : c = 0
            · have hc' : (c != 0) = false := by simpa using hc
              have E : Hid (Value.string (s0 ++ op) = .string (if k = 0 then linkB (op, a, c) else (s0 ++ ⟨#[58, 32]⟩) ++ linkB (op, a, c))) := by
                unfold Hid linkB atB codB; simp [hk0, ha, hc, e0]
              clear hc hk0 T0 e0 ha'
              go_wp2
              go_roundg (ls.length - (k + 1))
              case measure => rw [R.out]; omega
              case rel => exact ⟨k + 1, by omega, rfl, by go_num, by rw [T.out]; exact E.out, hbr⟩
            · have hc' : (c != 0) = true := by simpa using hc
              have E : Hid (Value.string (((s0 ++ op) ++ ⟨#[32, 99, 111, 100, 101, 32]⟩) ++ codeB c) = .string (if k = 0 then linkB (op, a, c) else (s0 ++ ⟨#[58, 32]⟩) ++ linkB (op, a, c))) := by
                unfold Hid linkB atB codB; simp [hk0, ha, hc, e0, ByteArray.append_assoc]
              clear hc hk0 T0 e0 ha'
              go_wp2_with (first | (go_at_call_of 27 c; refine (digits_any ok.code).mono ?_; rintro e w4 ⟨rfl, hb4⟩))
              go_roundg (ls.length - (k + 1))
              case measure => rw [R.out]; omega
              case rel => exact ⟨k + 1, by omega, rfl, by go_num, by rw [T.out]; exact E.out, (hbr.trans (hb4.mono hsz))⟩
        · have hk1 : (0 : Int) < (k : Int) := by omega
          by_cases ha : 0 ≤ a
          · have ca : codeB a = itoaB a := if_neg (by omega)
            by_cases hc : c = 0
            · have hc' : (c != 0) = false := by simpa using hc
              have E : Hid (Value.string ((((s0 ++ ⟨#[58, 32]⟩) ++ op) ++ ⟨#[32]⟩) ++ codeB a) = .string (if k = 0 then linkB (op, a, c) else (s0 ++ ⟨#[58, 32]⟩) ++ linkB (op, a, c))) := by
                unfold Hid linkB atB codB; simp [hk0, ha, hc, ca, ByteArray.append_assoc]
              clear hc hk0 T0 ca
              go_wp2_with (first | (go_at_call_of 27 a; refine (digits_any ok.at_).mono ?_; rintro e w3 ⟨rfl, hb3⟩; have z2 := (hb3.cell (p := ⟨b, off + k * 3 + 2, none⟩) (Nat.lt_of_lt_of_le h4 hsz)).trans z1))
              go_roundg (ls.length - (k + 1))
              case measure => rw [R.out]; omega
              case rel => exact ⟨k + 1, by omega, rfl, by go_num, by rw [T.out]; exact E.out, (hbr.trans (hb3.mono hsz))⟩
            · have hc' : (c != 0) = true := by simpa using hc
              have E : Hid (Value.string ((((((s0 ++ ⟨#[58, 32]⟩) ++ op) ++ ⟨#[32]⟩) ++ codeB a) ++ ⟨#[32, 99, 111, 100, 101, 32]⟩) ++ codeB c) = .string (if k = 0 then linkB (op, a, c) else (s0 ++ ⟨#[58, 32]⟩) ++ linkB (op, a, c))) := by
                unfold Hid linkB atB codB; simp [hk0, ha, hc, ca, ByteArray.append_assoc]
              clear hc hk0 T0 ca
              go_wp2_with (first | (go_at_call_of 27 a; refine (digits_any ok.at_).mono ?_; rintro e w3 ⟨rfl, hb3⟩; have z2 := (hb3.cell (p := ⟨b, off + k * 3 + 2, none⟩) (Nat.lt_of_lt_of_le h4 hsz)).trans z1) | (go_at_call_of 27 c; refine (digits_any ok.code).mono ?_; rintro e w4 ⟨rfl, hb4⟩))
              go_roundg (ls.length - (k + 1))
              case measure => rw [R.out]; omega
              case rel => exact ⟨k + 1, by omega, rfl, by go_num, by rw [T.out]; exact E.out, ((hbr.trans (hb3.mono hsz)).trans (hb4.mono (Nat.le_trans hsz hb3.size)))⟩
          · have ha' := ha
            by_cases hc : c = 0
            · have hc' : (c != 0) = false := by simpa using hc
              have E : Hid (Value.string ((s0 ++ ⟨#[58, 32]⟩) ++ op) = .string (if k = 0 then linkB (op, a, c) else (s0 ++ ⟨#[58, 32]⟩) ++ linkB (op, a, c))) := by
                unfold Hid linkB atB codB; simp [hk0, ha, hc, ByteArray.append_assoc]
              clear hc hk0 T0 ha'
              go_wp2
              go_roundg (ls.length - (k + 1))
              case measure => rw [R.out]; omega
              case rel => exact ⟨k + 1, by omega, rfl, by go_num, by rw [T.out]; exact E.out, hbr⟩
            · have hc' : (c != 0) = true := by simpa using hc
              have E : Hid (Value.string ((((s0 ++ ⟨#[58, 32]⟩) ++ op) ++ ⟨#[32, 99, 111, 100, 101, 32]⟩) ++ codeB c) = .string (if k = 0 then linkB (op, a, c) else (s0 ++ ⟨#[58, 32]⟩) ++ linkB (op, a, c))) := by
                unfold Hid linkB atB codB; simp [hk0, ha, hc, ByteArray.append_assoc]
              clear hc hk0 T0 ha'
              go_wp2_with (first | (go_at_call_of 27 c; refine (digits_any ok.code).mono ?_; rintro e w4 ⟨rfl, hb4⟩))
              go_roundg (ls.length - (k + 1))
              case measure => rw [R.out]; omega
              case rel => exact ⟨k + 1, by omega, rfl, by go_num, by rw [T.out]; exact E.out, (hbr.trans (hb4.mono hsz))⟩
      · have hk2 : k = ls.length := by omega
        subst hk2
        rw [List.take_length]
        go_wp2
        go_ret
        exact ⟨rfl, hbr⟩
end Go.Proofs.YthjklbgkhpchhaaDoor
