/-
  The program's bucket: pieces of a row, a row in new memory, an insertion.
-/
import Derived.Test.YtgmghekgelmmcaaDoorQRem
import Derived.Test.YtgmghekgelmmcaaDoorQIChk
namespace Go.Proofs.YtgmghekgelmmcaaDoor
open Go.RowKit
open Ite (Ent zeroE checkE sizeE Fine EsAt)

/-! ### Pieces -/
theorem EsAt.take {w : World} {p : Option Addr} {cap : Nat} {L : List Ent} (h : EsAt w (.slice p L.length cap) L) {k : Nat} (hk : k ≤ L.length) : EsAt w (.slice p k cap) (L.take k) := by
  obtain ⟨p', cap', e, h2, h3, h4⟩ := h
  cases e
  refine ⟨p, cap, by rw [List.length_take, Nat.min_eq_left hk], by rw [List.length_take]; omega, h3, fun j x hj => ?_⟩
  rw [List.getElem?_take] at hj
  split at hj
  · exact h4 j x hj
  · cases hj
theorem EsAt.drop {w : World} {b off cap : Nat} {L : List Ent} (h : EsAt w (.slice (some ⟨b, off, none⟩) L.length cap) L) {k : Nat} (hk : k ≤ L.length) : EsAt w (.slice (some ⟨b, if cap = k then off else off + k * 5, none⟩) (L.length - k) (cap - k)) (L.drop k) := by
  obtain ⟨p', cap', e, h2, h3, h4⟩ := h
  cases e
  refine ⟨_, _, by rw [List.length_drop], by rw [List.length_drop]; omega, by omega, fun j x hj => ?_⟩
  rw [List.getElem?_drop] at hj
  have hlt := (List.getElem?_eq_some_iff.1 hj).1
  obtain ⟨b', off', q, c, e1, e2, a0, a1, a2, a3, a4, a5⟩ := h4 (k + j) x hj
  cases e1
  rw [if_neg (show ¬ cap = k by omega)]
  rw [show off + (k + j) * 5 = off + k * 5 + j * 5 by omega] at a0 a1 a2 a3 a4
  exact ⟨b, off + k * 5, q, c, rfl, e2, a0, a1, a2, a3, a4, a5⟩
theorem EsAt.none {w : World} {m cap : Nat} {L : List Ent} (h : EsAt w (.slice none m cap) L) : L = [] := by
  obtain ⟨p', cap', e, h2, h3, h4⟩ := h
  cases e
  cases L with
  | nil => rfl
  | cons x r =>
    obtain ⟨_, _, _, _, e, _⟩ := h4 0 x rfl
    cases e
theorem EsAt.news {w : World} {ad : Addr} {m cap B : Nat} {L : List Ent} (h : EsAt w (.slice (some ad) m cap) L) (hB : w.heap.size ≤ B) : ∃ cs, EQ w B L cs ∧ ∀ j u, cs[j]? = some u → ad.block < w.heap.size ∧ w.cell? (ad.add j) = some u := by
  by_cases hL : L = []
  · subst hL
    exact ⟨[], rfl, fun j u hj => by simp at hj⟩
  · obtain ⟨bl, off, cs, e, hlt, hq, hc⟩ := EsAt.row h hB hL
    cases e
    exact ⟨cs, hq, fun j u hj => ⟨hlt, by rw [Ite.add_off]; exact hc j u hj⟩⟩
theorem eqlIn_nil (d : Nat) (a : Option Addr) (l c : Nat) (w : World) : (Op.equalIn (d + 1) 23 (.slice a l c) (.slice none 0 0)).run Tryd.prog w = .ok a.isNone w := by
  cases a <;> simp [Op.equalIn, run_underlying Tryd.underlying23]
theorem equal_nil (a : Option Addr) (l c : Nat) (w : World) : (Op.equal 23 (.slice a l c) (.slice none 0 0)).run Tryd.prog w = .ok a.isNone w := eqlIn_nil 9999 a l c w
theorem eql_nil (a : Option Addr) (l c : Nat) (w : World) : (binOp .eql 23 (.slice a l c) (.slice none 0 0)).run Tryd.prog w = .ok (.bool a.isNone) w := by
  simp [binOp, equal_nil]
set_option maxHeartbeats 1000000 in
set_option maxRecDepth 10000 in
theorem eclone_any {w : World} {p : Option Addr} {m cap : Nat} {L : List Ent} (h : EsAt w (.slice p m cap) L) (hl : L.length ≤ 50000) :
    Calls Tryd.prog 39 #[.slice p m cap] w fun e w' => ∃ p' c', e = .returned (.slice p' L.length c') ∧ EsAt w' (.slice p' L.length c') L ∧ (p' = none → c' = 0) ∧ Below w.heap.size w w' := by
  have hnil := eql_nil
  cases p with
  | none =>
    obtain rfl := EsAt.none h
    clear h
    go_enter Tryd.func39, Tryd.ntmps39
    go_wp2
    go_ret
    exact ⟨none, 0, rfl, EsAt.nil _, fun _ => rfl, Below.refl _ _⟩
  | some a =>
    obtain ⟨p', cap', e, h2, h3⟩ := h.form
    cases e
    unfold maxLen at h3
    obtain ⟨i0, hi, hz0, hz1, hz2⟩ := info_parts info_en
    obtain ⟨cs, hq, hc⟩ := EsAt.news h (Nat.le_refl _)
    have hb0 : Below w.heap.size w (w.alloc (.cells #[] 39)) := by go_grown
    have hown0 : (w.alloc (.cells #[] 39)).ownsRow w.heap.size 39 5 (.slice (some ⟨w.heap.size, 0, none⟩) 0 0) 0 [] := World.ownsRow_made w #[] 0 (Nat.le_refl _) (Nat.zero_le _) rfl
    have hc0 : ∀ j u, cs[j]? = some u → (w.alloc (.cells #[] 39)).cell? (a.add j) = some u := fun j u hj => by
      obtain ⟨h1, h2⟩ := hc j u hj
      rw [hb0.cell (p := a.add j) (by unfold Addr.add; split <;> exact h1)]
      exact h2
    have HO := hid2 hown0
    have HC := hid2 hc0
    have HQ := hid2 (hq.stays hb0)
    have HB := hid2 hb0
    have hlen := hq.length
    have HONE := hid2 hq.one
    clear h hown0 hc0 hq hb0 hc
    go_enter Tryd.func39, Tryd.ntmps39
    go_wp2_with (at_builtin; refine wpList_append_own _ rfl (.tmp 5) (.tmp 6) 23 rfl w.heap.size 39 i0 (.agg #[.string ⟨#[]⟩, .int .i64 0, .int .i64 0, .int .i64 0, .slice none 0 0]) 5 64 Tryd.underlying23 hi hz0 hz1 hz2 rfl (by decide) _ _ _ rfl HO.out a L.length cap cs rfl hlen HC.out HONE.out (by unfold maxLen; omega) (by omega) HB.out.size ?_; intro v1 w1 hown1 hgrow1 _)
    go_ret
    rw [Nat.zero_add, List.nil_append] at hown1
    have G := row_grown HO.out hgrow1 (Nat.le_refl _)
    obtain ⟨p1, c1, rfl⟩ := own_form5 hown1
    refine ⟨p1, c1, rfl, EsAt.own hown1 rfl (HQ.out.fr G), fun e => ?_, HB.out.grown hgrow1 HB.out.size (fun k hk => (HO.out.lt k hk).1)⟩
    subst e
    rcases hown1.2 with ⟨e, _⟩ | ⟨_, _, _, e, _⟩
    · exact (Value.slice.inj e).2.2
    · cases e
end Go.Proofs.YtgmghekgelmmcaaDoor
