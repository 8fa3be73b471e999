/-
  Eight and End of the document's reader.
-/
import Derived.Test.YtjjafiibbbhnkaaRefTxt
namespace Go.Proofs.Ytjjafiibbbhnkaa
open Go.RowKit

set_option maxHeartbeats 2000000 in
set_option maxRecDepth 10000 in
theorem reight_any {w : World} {b : Nat} {p : Option Addr} {cap a : Nat} {bs : List Int} {code : Int} (h : SlAt w b (.slice p bs.length cap) (U bs)) (hby : Byt bs) (ha : a ≤ bs.length) (hl : bs.length ≤ 5000) :
    Calls Try.prog 25 #[.agg #[.slice p bs.length cap, .int .i64 a, .int .i64 code]] w fun e w' =>
      e = .returned (.tuple #[.agg #[.slice p bs.length cap, .int .i64 (rdWord bs a code).2.1, .int .i64 (rdWord bs a code).2.2], .int .u64 (rdWord bs a code).1]) ∧ Below w.heap.size w w' := by
  obtain ⟨p', cap', hu, hc1, hc2, hel⟩ := h.each
  simp only [Value.slice.injEq] at hu
  obtain ⟨rfl, hx, rfl⟩ := hu
  clear hx
  rw [U_length] at hc1
  unfold maxLen at hc2
  have EL : Hid (∀ (k : Nat) (x : Int), bs[k]? = some x → ∃ off, p = some ⟨b, off, none⟩ ∧ b < w.heap.size ∧ w.cell? ⟨b, off + k, none⟩ = some (.int .u8 x)) := fun k x hx => hel k _ (U_at hx)
  have BY : Hid (Byt bs) := hby
  clear hel h hby
  by_cases hz : code = 0
  · subst hz
    by_cases h8 : bs.length < a + 8
    · have e : rdWord bs a 0 = (0, a, 6) := by unfold rdWord; rw [if_pos rfl, if_pos h8]
      rw [e]; clear e
      go_enter Try.func25, Try.ntmps25
      go_wp2_with (go_at_call 36; refine (rfail_zero _ _ _ _ _ _).mono ?_; rintro e w2 ⟨rfl, hb2⟩; obtain ⟨hc, hf⟩ := bcell hb2)
      refine bodyPost_ret (v := .tuple #[.agg #[.slice p bs.length cap, .int .i64 a, .int .i64 6], .int .u64 0]) (by simp [results, Try.results25, go_sem, hc]) rfl ⟨rfl, ?_⟩
      exact below_store3 (Below.trans (by go_grown) (hb2.mono (by simp; omega))) (by omega) _ _ _
    · have e : rdWord bs a 0 = (wfold 0 ((bs.drop a).take 8), a + 8, 0) := by unfold rdWord; rw [if_pos rfl, if_neg h8]
      rw [e]; clear e
      obtain ⟨x0, hx0⟩ : ∃ x, bs[a]? = some x := ⟨bs[a], List.getElem?_eq_getElem (by omega)⟩
      obtain ⟨off, rfl, hcl, _⟩ := EL.out a x0 hx0
      clear hx0
      have EL2 : Hid (∀ (k : Nat) (x : Int), bs[k]? = some x → w.cell? ⟨b, off + k, none⟩ = some (.int .u8 x)) := fun k x hx => by
        obtain ⟨off', e, _, e2⟩ := EL.out k x hx
        simp only [Option.some.injEq, Addr.mk.injEq, true_and, and_true] at e
        subst e
        exact e2
      clear EL
      go_enter Try.func25, Try.ntmps25
      go_wp2_with fail
      go_loop [4, 5] (fun m i => ∃ k : Nat, k ≤ 8 ∧ i = .int .i64 k ∧ m = .int .u64 (wfold 0 ((bs.drop a).take k))) (fun _ i => 8 - (intOf i).toNat)
      case atStart => exact ⟨0, Nat.zero_le _, rfl, rfl⟩
      case round =>
        obtain ⟨k, hk, rfl, rfl⟩ := hrel
        by_cases hlt : k < 8
        · obtain ⟨x, hx⟩ : ∃ x, bs[a + k]? = some x := ⟨bs[a + k], List.getElem?_eq_getElem (by omega)⟩
          have hce := EL2.out (a + k) x hx
          obtain ⟨hx0, hx1⟩ := BY.out.at hx
          have hd : (bs.drop a)[k]? = some x := by rw [List.getElem?_drop]; exact hx
          have hlen : ((bs.drop a).take k).length = k := by rw [List.length_take, List.length_drop]; omega
          have hb7 := wfold_7 _ ((BY.out.drop a).take k) k hlen (by omega)
          have HS : Hid (wfold 0 ((bs.drop a).take (k + 1)) = wfold 0 ((bs.drop a).take k) * 256 + x) := by unfold Hid; rw [take_snoc hd, wfold_snoc]
          generalize wfold 0 ((bs.drop a).take k) = q at *
          obtain ⟨hq0, hq1⟩ := hb7
          clear hx hd hlen
          go_wp2
          go_round
          case rel => exact ⟨k + 1, by omega, by go_num, by rw [HS.out]⟩
          case measure => simp [intOf]; omega
        · have hk8 : k = 8 := by omega
          subst hk8
          go_wp2
          refine bodyPost_ret (v := .tuple #[.agg #[.slice (some ⟨b, off, none⟩) bs.length cap, .int .i64 ((a + 8 : Nat) : Int), .int .i64 0], .int .u64 (wfold 0 ((bs.drop a).take 8))]) (by simp [results, Try.results25, go_sem]) rfl ⟨rfl, ?_⟩
          go_grown
  · have e : rdWord bs a code = (0, a, code) := by unfold rdWord; rw [if_neg hz]
    rw [e]; clear e
    go_enter Try.func25, Try.ntmps25
    go_wp2
    refine bodyPost_ret (v := .tuple #[.agg #[.slice p bs.length cap, .int .i64 a, .int .i64 code], .int .u64 0]) (by simp [results, Try.results25, go_sem]) rfl ⟨rfl, ?_⟩
    go_grown

set_option maxHeartbeats 1000000 in
theorem rend_any (w : World) (p : Option Addr) (cap a : Nat) (bs : List Int) (code : Int) (ha : a ≤ bs.length) (_hl : bs.length ≤ 5000) :
    Calls Try.prog 32 #[.agg #[.slice p bs.length cap, .int .i64 a, .int .i64 code]] w fun e w' => e = .returned (.int .i64 (endC bs a code)) ∧ Below w.heap.size w w' := by
  by_cases hz : code = 0
  · subst hz
    by_cases hlt : a < bs.length
    · have e : endC bs a 0 = 5 := by unfold endC; rw [if_pos ⟨rfl, hlt⟩]
      rw [e]; clear e
      go_enter Try.func32, Try.ntmps32
      go_wp2
      go_ret
      exact ⟨rfl, by go_grown⟩
    · have e : endC bs a 0 = 0 := by unfold endC; rw [if_neg (by omega)]
      rw [e]; clear e
      go_enter Try.func32, Try.ntmps32
      go_wp2
      go_ret
      exact ⟨rfl, by go_grown⟩
  · have e : endC bs a code = code := by unfold endC; rw [if_neg (by omega)]
    rw [e]; clear e
    go_enter Try.func32, Try.ntmps32
    go_wp2
    go_ret
    exact ⟨rfl, by go_grown⟩
end Go.Proofs.Ytjjafiibbbhnkaa
