/-
  works at this seat: it answers true.
-/
import Derived.Test.YthjklbgkhpchhaaDoorHas
import Derived.Test.YthjklbgkhpchhaaDoorText
namespace Go.Proofs.YthjklbgkhpchhaaDoor
open Go.RowKit Go.Extern.Stop Go.Stop Go.Extern

def wPage : ByteArray := ⟨#[112, 97, 103, 101]⟩
def wRead : ByteArray := ⟨#[114, 101, 97, 100]⟩
def wLinks : List Lnk := [(wRead, 3, 0), (wPage, 7, 8)]
def wTextL : List UInt8 := [114, 101, 97, 100, 32, 51, 58, 32, 112, 97, 103, 101, 32, 55, 32, 99, 111, 100, 101, 32, 56]

theorem itoa_digit (n : Int) (h0 : 0 ≤ n) (h : n < 10) : Lib.itoa n = [UInt8.ofNat (48 + n.toNat)] := by
  unfold Lib.itoa
  rw [if_neg (by omega), Lib.decDigits_one (by omega)]

theorem wText : textB wLinks = ⟨wTextL.toArray⟩ := by
  have e3 : itoaB 3 = ⟨#[51]⟩ := by unfold itoaB; rw [itoa_digit 3 (by decide) (by decide)]; rfl
  have e7 : itoaB 7 = ⟨#[55]⟩ := by unfold itoaB; rw [itoa_digit 7 (by decide) (by decide)]; rfl
  have e8 : itoaB 8 = ⟨#[56]⟩ := by unfold itoaB; rw [itoa_digit 8 (by decide) (by decide)]; rfl
  have l1 : linkB (wRead, 3, 0) = ⟨#[114, 101, 97, 100, 32, 51]⟩ := by
    unfold linkB atB codB; simp only []; rw [if_pos (by decide), if_pos trivial, e3]; decide
  have l2 : linkB (wPage, 7, 8) = ⟨#[112, 97, 103, 101, 32, 55, 32, 99, 111, 100, 101, 32, 56]⟩ := by
    unfold linkB atB codB codeB; simp only []; rw [if_pos (by decide), if_neg (by decide), if_neg (by decide), e7, e8]; decide
  unfold textB wLinks
  simp only [List.map_cons, List.map_nil, l1, l2]
  rfl

theorem wOk : ∀ l ∈ wLinks, LOk l := by
  intro l hl
  simp only [wLinks, List.mem_cons, List.not_mem_nil, or_false] at hl
  rcases hl with rfl | rfl
  · exact ⟨by decide, by unfold I64; decide, by unfold I64; decide⟩
  · exact ⟨by decide, by unfold I64; decide, by unfold I64; decide⟩

theorem w_has8 {w : World} {v : Value} (hg : ErrT w) (h : Lk w v wLinks) : Calls Tryd.prog 20 #[v, .int .i64 8] w fun e w' => e = .returned (.bool true) ∧ Below w.heap.size w w' :=
  (has_chain 8 hg h).mono fun e w' ⟨h1, h2⟩ => ⟨by rw [h1]; rfl, h2⟩
theorem w_has7 {w : World} {v : Value} (hg : ErrT w) (h : Lk w v wLinks) : Calls Tryd.prog 20 #[v, .int .i64 7] w fun e w' => e = .returned (.bool false) ∧ Below w.heap.size w w' :=
  (has_chain 7 hg h).mono fun e w' ⟨h1, h2⟩ => ⟨by rw [h1]; rfl, h2⟩
theorem w_where {w : World} {v : Value} (hg : ErrT w) (h : Lk w v wLinks) : Calls Tryd.prog 13 #[v] w fun e w' => e = .returned (.tuple #[.int .i64 7, .bool true]) ∧ Below w.heap.size w w' :=
  where_some w hg (dn := [(wRead, 3, 0)]) (op := wPage) (c := 8) h.er (by decide)
theorem w_of {w : World} {v : Value} (hg : ErrT w) (h : Lk w v wLinks) : Calls Tryd.prog 14 #[v] w fun e w' => e = .returned (.int .i64 8) ∧ Below w.heap.size w w' :=
  of_some w hg (dn := [(wRead, 3, 0)]) (op := wPage) (a := 7) h.er (by decide)
theorem w_text {w : World} {v : Value} (hg : ErrT w) (ht : Tab w) (h : Lk w v wLinks) : Calls Tryd.prog 16 #[v] w fun e w' => e = .returned (.string ⟨#[114, 101, 97, 100, 32, 51, 58, 32, 112, 97, 103, 101, 32, 55, 32, 99, 111, 100, 101, 32, 56]⟩) ∧ Below w.heap.size w w' :=
  (text_any hg ht h (by simp [wLinks]) (by decide) wOk).mono fun e w' ⟨h1, h2⟩ => ⟨by rw [h1, wText]; rfl, h2⟩
theorem w_chain {w : World} {v : Value} (hg : ErrT w) (h : Lk w v wLinks) : Calls Tryd.prog 10 #[v] w fun e w' => ∃ p cap, e = .returned (.slice p 2 cap) ∧ Below w.heap.size w w' :=
  (chain_any hg h.er (by decide)).mono fun e w' ⟨sv, h1, h2, h3⟩ => by
    obtain ⟨p, cap, rfl⟩ := own_len h2
    exact ⟨p, cap, h1, h3⟩

set_option maxHeartbeats 4000000 in
set_option maxRecDepth 10000 in
theorem works_any {w : World} (hg : ErrT w) (ht : Tab w) :
    Calls Tryd.prog 18 #[] w fun e w' => e = .returned (.bool true) ∧ Below w.heap.size w w' := by
  have hbA : Below w.heap.size w ((w.alloc (.cells #[.string wPage, .int .i64 7, .int .i64 8, .nilIface] 52)).alloc (.cells #[.string wRead, .int .i64 3, .int .i64 0, .iface 50 (.pointer (some ⟨w.heap.size, 0, none⟩))] 52)) := by go_grown
  have hL : Lk ((w.alloc (.cells #[.string wPage, .int .i64 7, .int .i64 8, .nilIface] 52)).alloc (.cells #[.string wRead, .int .i64 3, .int .i64 0, .iface 50 (.pointer (some ⟨w.heap.size, 0, none⟩))] 52)) (.iface 50 (.pointer (some ⟨w.heap.size + 1, 0, none⟩))) wLinks := by
    refine Lk.cons (w.heap.size + 1) wRead 3 0 (.iface 50 (.pointer (some ⟨w.heap.size, 0, none⟩))) _ ?_ (Lk.cons w.heap.size wPage 7 8 .nilIface _ ?_ (Lk.nil _))
    · rw [show w.heap.size + 1 = (w.alloc (.cells #[.string wPage, .int .i64 7, .int .i64 8, .nilIface] 52)).heap.size by simp]
      exact heap_alloc_new _ _
    · rw [Below.heap_alloc _ _ _ (by simp)]
      exact heap_alloc_new _ _
  have hgA := hg.below hbA
  have htA := ht.below hbA
  unfold wPage wRead at hbA hL hgA htA
  go_enter Tryd.func18, Tryd.ntmps18
  go_wp2_with (first
    | (go_at_call 7; refine (new_some ⟨#[112, 97, 103, 101]⟩ 7 8 _ rfl).mono ?_; rintro e w1 ⟨rfl, rfl⟩)
    | (go_at_call 11; refine (wrap_some ⟨#[114, 101, 97, 100]⟩ 3 _ _).mono ?_; rintro e w1 ⟨rfl, rfl⟩)
    | (go_at_call 13; refine (w_where hgA hL).mono ?_; rintro e w2 ⟨rfl, hb2⟩))
  refine (w_of (hgA.below hb2) (hL.stays hb2)).mono ?_
  rintro e w3 ⟨rfl, hb3⟩
  have hB3 := hb2.trans (hb3.mono hb2.size)
  go_wp2_with fail
  refine (w_has8 (hgA.below hB3) (hL.stays hB3)).mono ?_
  rintro e w4 ⟨rfl, hb4⟩
  have hB4 := hB3.trans (hb4.mono hB3.size)
  go_wp2_with fail
  refine (w_has7 (hgA.below hB4) (hL.stays hB4)).mono ?_
  rintro e w5 ⟨rfl, hb5⟩
  have hB5 := hB4.trans (hb5.mono hB4.size)
  go_wp2_with fail
  refine (w_text (hgA.below hB5) (htA.below hB5) (hL.stays hB5)).mono ?_
  rintro e w6 ⟨rfl, hb6⟩
  have hB6 := hB5.trans (hb6.mono hB5.size)
  go_wp2_with fail
  refine (new_zero _ _ _).mono ?_
  rintro e w7 ⟨rfl, rfl⟩
  go_wp2_with fail
  refine (w_chain (hgA.below hB6) (hL.stays hB6)).mono ?_
  rintro e w8 ⟨p, cap, rfl, hb8⟩
  go_wp2_with fail
  go_ret
  exact ⟨rfl, (hbA.trans (hB6.mono hbA.size)).trans (hb8.mono (Nat.le_trans hbA.size hB6.size))⟩
end Go.Proofs.YthjklbgkhpchhaaDoor
