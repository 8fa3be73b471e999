/-
  The document's side: Look.
-/
import Derived.Test.YtfogocappakbdaaDoorRefB
import Derived.Test.YtfogocappakbdaaDoorRefA
namespace Go.Proofs.YtfogocappakbdaaDoor
open Go.RowKit

theorem six' {w : World} {g : Nat} {t : TypeId} {x0 x1 x2 x3 x4 x5 : Value} (h : w.heap[g]? = some (.cells #[x0, x1, x2, x3, x4, x5] t (0, 0))) :
    (w.cell? ⟨g, 0, none⟩ = some x0 ∧ w.cell? ⟨g, 1, none⟩ = some x1 ∧ w.cell? ⟨g, 2, none⟩ = some x2 ∧ w.cell? ⟨g, 3, none⟩ = some x3 ∧ w.cell? ⟨g, 4, none⟩ = some x4 ∧ w.cell? ⟨g, 5, none⟩ = some x5) ∧
    ∀ o, w.frozen? ⟨g, o, none⟩ = false := by
  refine ⟨⟨?_, ?_, ?_, ?_, ?_, ?_⟩, ?_⟩ <;> simp [World.cell?, World.frozen?, h]
theorem LooseAt.each {w : World} {v : Value} {lo : List Lo} (h : LooseAt w v lo) : ∃ p cap, v = .slice p lo.length cap ∧ lo.length ≤ cap ∧ cap ≤ maxLen ∧
    ∀ i x, lo[i]? = some x → ∃ b off, p = some ⟨b, off, none⟩ ∧ b < w.heap.size ∧ w.cell? ⟨b, off + i * 3, none⟩ = some (.int .i64 x.1.at_) ∧ w.cell? ⟨b, off + i * 3 + 1, none⟩ = some x.2 ∧ w.cell? ⟨b, off + i * 3 + 2, none⟩ = some (.bool x.1.trim) ∧ BAt w x.2 x.1.p := by
  obtain ⟨p, cap, h1, h2, h3, h4, h5⟩ := h.1.each
  refine ⟨p, cap, h1, h2, h3, fun i x hi => ?_⟩
  obtain ⟨a0, a1, a2⟩ := loL_at hi
  obtain ⟨b, off, e1, e2, e3⟩ := h5 _ _ a0
  obtain ⟨b', off', e1', e2', e3'⟩ := h5 _ _ a1
  obtain ⟨b'', off'', e1'', e2'', e3''⟩ := h5 _ _ a2
  rw [e1] at e1' e1''
  cases e1'
  cases e1''
  exact ⟨b, off, e1, e2, e3, by rw [Nat.add_assoc]; exact e3', by rw [Nat.add_assoc]; exact e3'', h.2 x (List.mem_of_getElem? hi)⟩
theorem rlookL_take {lo : List Lo} {k : Nat} {x : Lo} (h : lo[k]? = some x) (at_ : Int) (p : List Nat) :
    rlookL (plainL (lo.take (k + 1))) at_ p = if x.1.at_ = at_ then (if x.1.trim = true then zeros else x.1.p) else rlookL (plainL (lo.take k)) at_ p := by
  obtain ⟨h1, h2⟩ := List.getElem?_eq_some_iff.1 h
  rw [List.take_succ_eq_append_getElem h1, h2]
  simp [plainL, rlookL]

set_option maxHeartbeats 1000000 in
theorem look_any {w : World} {pages fuse done : Int} {down : Bool} {cv lv : Value} {cs : List Cl} {lo : List Lo} (hC : CellsAt w cv cs) (hL : LooseAt w lv lo) (at_ : Int) :
    Calls Tryd.prog 46 #[.agg #[.int .i64 pages, cv, lv, .int .i64 fuse, .bool down, .int .i64 done], .int .i64 at_] w fun e w' => ∃ u, e = .returned u ∧ BAt w' u (rlookL (plainL lo) at_ (rsafe (plainC cs) at_)) ∧ Below w.heap.size w w' := by
  obtain ⟨lp, lcap, rfl, l2, l3, _⟩ := hL.each
  obtain ⟨cp, ccap, rfl, _, _, _⟩ := hC.each
  unfold maxLen at l3
  have HL : Hid (LooseAt w (.slice lp lo.length lcap) lo) := hL
  have HC : Hid (CellsAt (w.alloc (.cells #[.int .i64 pages, .slice cp cs.length ccap, .slice lp lo.length lcap, .int .i64 fuse, .bool down, .int .i64 done] 33)) (.slice cp cs.length ccap) cs) := hC.below (by go_grown)
  have HX : Hid ((w.alloc (.cells #[.int .i64 pages, .slice cp cs.length ccap, .slice lp lo.length lcap, .int .i64 fuse, .bool down, .int .i64 done] 33)).heap[w.heap.size]? = some (.cells #[.int .i64 pages, .slice cp cs.length ccap, .slice lp lo.length lcap, .int .i64 fuse, .bool down, .int .i64 done] 33 (0, 0))) := heap_alloc_last w _
  have hmk := Tryd.make46
  clear hC hL
  go_enter Tryd.func46, Tryd.ntmps46
  go_wp2_with (go_at_call 53; refine (safe_any HC.out _).mono ?_; rintro e w2 ⟨u, rfl, hu, hb2⟩)
  have HX2 : Hid (w2.heap[w.heap.size]? = some (.cells #[.int .i64 pages, .slice cp cs.length ccap, .slice lp lo.length lcap, .int .i64 fuse, .bool down, .int .i64 done] 33 (0, 0))) := heap_stays HX.out hb2
  have HB2 : Hid (Below w.heap.size w w2) := Below.trans (by go_grown) (hb2.mono (by simp))
  have HU : Hid (BAt w2 u (rsafe (plainC cs) at_)) := hu
  clear hb2 hu
  go_loopw [5, 6] (fun o i wr => ∃ k : Nat, i = .int .i64 (k : Int) ∧ k ≤ lo.length ∧ BAt wr o (rlookL (plainL (lo.take k)) at_ (rsafe (plainC cs) at_)) ∧ wr.heap[w.heap.size]? = some (.cells #[.int .i64 pages, .slice cp cs.length ccap, .slice lp lo.length lcap, .int .i64 fuse, .bool down, .int .i64 done] 33 (0, 0)) ∧ Below w.heap.size w wr) (fun _ i _ => lo.length - (intOf i).toNat)
  case atStart => exact ⟨0, rfl, Nat.zero_le _, HU.out, HX2.out, HB2.out⟩
  case round =>
    obtain ⟨k, rfl, hk, ho, hx, hb⟩ := hrel
    obtain ⟨⟨c0, c1, c2, c3, c4, c5⟩, _⟩ := six' hx
    have hsz : w.heap.size < wr.heap.size := (Array.getElem?_eq_some_iff.1 hx).1
    have HO : Hid (BAt wr u5 (rlookL (plainL (lo.take k)) at_ (rsafe (plainC cs) at_))) := ho
    have HXR : Hid (wr.heap[w.heap.size]? = some (.cells #[.int .i64 pages, .slice cp cs.length ccap, .slice lp lo.length lcap, .int .i64 fuse, .bool down, .int .i64 done] 33 (0, 0))) := hx
    have HBR : Hid (Below w.heap.size w wr) := hb
    clear hx ho hb
    by_cases hlt : k < lo.length
    · obtain ⟨x, hxk⟩ : ∃ x, lo[k]? = some x := ⟨_, List.getElem?_eq_getElem hlt⟩
      obtain ⟨p', cap', hpe, _, _, hel⟩ := (HL.out.below HBR.out).each
      cases hpe
      obtain ⟨bb, off, rfl, hbb, a0, a1, a2, hba⟩ := hel k x hxk
      have hki : (k : Int) < (lo.length : Int) := by omega
      have HXK : Hid (lo[k]? = some x) := hxk
      have HBA : Hid (BAt wr x.2 x.1.p) := hba
      clear hel hxk hba
      by_cases h0 : x.1.at_ = at_
      · have hbq : (x.1.at_ == at_) = true := by simpa using h0
        have H0 : Hid (x.1.at_ = at_) := h0
        clear h0
        cases ht : x.1.trim
        · rw [ht] at a2
          have HT : Hid (x.1.trim = false) := ht
          clear ht
          go_wp2_with fail
          go_roundw
          case rel => exact ⟨k + 1, by go_num, by omega, by rw [rlookL_take HXK.out, if_pos H0.out, HT.out]; exact HBA.out, HXR.out, HBR.out⟩
          case measure => simp [intOf]; omega
        · rw [ht] at a2
          have HT : Hid (x.1.trim = true) := ht
          clear ht
          go_wp2_with fail
          go_roundw
          case rel => exact ⟨k + 1, by go_num, by omega, by rw [rlookL_take HXK.out, if_pos H0.out, HT.out]; exact zeros_row (heap_alloc_last _ _), heap_alloc_old HXR.out _, HBR.out.alloc HBR.out.size _⟩
          case measure => simp [intOf]; omega
      · have hbq : (x.1.at_ == at_) = false := by simpa using h0
        have H0 : Hid (¬ x.1.at_ = at_) := h0
        clear h0
        go_wp2_with fail
        go_roundw
        case rel => exact ⟨k + 1, by go_num, by omega, by rw [rlookL_take HXK.out, if_neg H0.out]; exact HO.out, HXR.out, HBR.out⟩
        case measure => simp [intOf]; omega
    · have hki : ¬ ((k : Int) < (lo.length : Int)) := by omega
      have HK : Hid (lo.take k = lo) := List.take_of_length_le (by omega)
      go_wp2
      go_ret
      exact ⟨_, rfl, by have := HO.out; rw [HK.out] at this; exact this, HBR.out⟩
end Go.Proofs.YtfogocappakbdaaDoor
