/-
  A reader as the document's answer has it: fail, Number.
-/
import Derived.Test.YtgmghekgelmmcaaDoorQIRdBytes
namespace Go.Proofs.YtgmghekgelmmcaaDoor.Ite
open Go.RowKit



theorem below_store3 {B blk : Nat} {a w : World} (h : Below B a w) (hb : B ≤ blk) (x y z : Value) : Below B a (((w.setCell ⟨blk, 0, none⟩ x).setCell ⟨blk, 1, none⟩ y).setCell ⟨blk, 2, none⟩ z) :=
  ((h.setCell hb x).setCell hb y).setCell hb z

set_option maxHeartbeats 1000000 in
theorem rfail_zero (w : World) (p : Option Addr) (len cap : Nat) (a c : Int) :
    Calls Tryd.prog 83 #[.agg #[.slice p len cap, .int .i64 a, .int .i64 0], .int .i64 c] w fun e w' => e = .returned (.agg #[.slice p len cap, .int .i64 a, .int .i64 c]) ∧ Below w.heap.size w w' := by
  go_enter Tryd.func83, Tryd.ntmps83
  go_wp2
  refine bodyPost_ret (v := .agg #[.slice p len cap, .int .i64 a, .int .i64 c]) (by simp [results, Tryd.results83, go_sem]) rfl ⟨rfl, ?_⟩
  go_grown

set_option maxHeartbeats 2000000 in
set_option maxRecDepth 10000 in
theorem rnumber_any {w : World} {b : Nat} {p : Option Addr} {cap a : Nat} {bs : List Int} {code : Int} (most : Int) (h0 : 0 ≤ most) (h1 : most ≤ 9223372036854775807) (h : SlAt w b (.slice p bs.length cap) (U bs)) (hby : Byt bs) (ha : a ≤ bs.length) (_hl : bs.length ≤ 30000) :
    Calls Tryd.prog 76 #[.agg #[.slice p bs.length cap, .int .i64 a, .int .i64 code], .int .i64 most] w fun e w' =>
      e = .returned (.tuple #[.agg #[.slice p bs.length cap, .int .i64 (rdNum bs a code most).2.1, .int .i64 (rdNum bs a code most).2.2], .int .i64 (rdNum bs a code most).1]) ∧ Below w.heap.size w w' := by
  by_cases hz : code = 0
  · subst hz
    obtain ⟨p', cap', hu, hc1, hc2, hel⟩ := h.each
    simp only [Value.slice.injEq] at hu
    obtain ⟨rfl, hx, rfl⟩ := hu
    clear hx
    rw [U_length] at hc1
    unfold maxLen at hc2
    have EL : Hid (∀ (k : Nat) (x : Int), bs[k]? = some x → ∃ off, p = some ⟨b, off, none⟩ ∧ b < w.heap.size ∧ w.cell? ⟨b, off + k, none⟩ = some (.int .u8 x)) := fun k x hx => hel k _ (U_at hx)
    have BY : Hid (Byt bs) := hby
    obtain ⟨n, s, c, hR⟩ : ∃ n s c, numG most 0 0 (bs.drop a) = (n, s, c) := ⟨_, _, _, rfl⟩
    have hN : rdNum bs a 0 most = if c = 0 then (n, a + s, 0) else (0, a, c) := by
      unfold rdNum
      rw [if_pos rfl, hR]
    rw [hN]
    have HR : Hid (numG most 0 0 (bs.drop a) = (n, s, c)) := hR
    clear hel h hby hR hN
    go_enter Tryd.func76, Tryd.ntmps76
    go_wp2_with fail
    go_loop [6, 7] (fun m i => ∃ (k : Nat) (q : Int), a + k ≤ bs.length ∧ i = .int .i64 ((a : Int) + k) ∧ m = .int .i64 q ∧ 0 ≤ q ∧ q ≤ 9223372036854775807 ∧ (k = 0 → q = 0) ∧ (n, s, c) = numG most q k (bs.drop (a + k))) (fun _ i => bs.length - (intOf i).toNat)
    case atStart => exact ⟨0, 0, ha, by simp, rfl, by omega, by omega, fun _ => rfl, HR.out.symm⟩
    case round =>
      obtain ⟨k, q, hk, rfl, rfl, hq0, hq1, hqz, hr⟩ := hrel
      by_cases hlt : a + k < bs.length
      · obtain ⟨x, hx⟩ : ∃ x, bs[a + k]? = some x := ⟨bs[a + k], List.getElem?_eq_getElem hlt⟩
        obtain ⟨off, rfl, hcl, hce⟩ := EL.out (a + k) x hx
        obtain ⟨hx0, hx1⟩ := BY.out.at hx
        rw [drop_cons hx, numG_cons] at hr
        clear hx HR
        by_cases c1 : k = 0 ∧ x = 128
        · rw [if_pos c1] at hr
          obtain ⟨rfl, rfl⟩ := c1
          simp only [Prod.mk.injEq] at hr
          obtain ⟨rfl, rfl, rfl⟩ := hr
          rw [Nat.add_zero] at hce
          clear hqz
          go_wp2_with (go_at_call 83; refine (rfail_zero _ _ _ _ _ _).mono ?_; rintro e w2 ⟨rfl, hb2⟩; obtain ⟨hc, hf⟩ := bcell hb2)
          refine bodyPost_ret (v := .tuple #[.agg #[.slice (some ⟨b, off, none⟩) bs.length cap, .int .i64 a, .int .i64 5], .int .i64 0]) (by simp [results, Tryd.results76, go_sem, hc]) rfl ⟨rfl, ?_⟩
          exact below_store3 (Below.trans (by go_grown) (hb2.mono (by simp; omega))) (by omega) _ _ _
        rw [if_neg c1] at hr
        by_cases c2 : most / 128 < q
        · rw [if_pos c2] at hr
          simp only [Prod.mk.injEq] at hr
          obtain ⟨rfl, rfl, rfl⟩ := hr
          clear hqz
          by_cases k0 : k = 0
          · subst k0
            rw [Nat.add_zero] at hce
            have hx8 : ¬ x = 128 := fun e => c1 ⟨rfl, e⟩
            clear c1
            go_wp2_with (go_at_call 83; refine (rfail_zero _ _ _ _ _ _).mono ?_; rintro e w2 ⟨rfl, hb2⟩; obtain ⟨hc, hf⟩ := bcell hb2)
            refine bodyPost_ret (v := .tuple #[.agg #[.slice (some ⟨b, off, none⟩) bs.length cap, .int .i64 a, .int .i64 2], .int .i64 0]) (by simp [results, Tryd.results76, go_sem, hc]) rfl ⟨rfl, ?_⟩
            exact below_store3 (Below.trans (by go_grown) (hb2.mono (by simp; omega))) (by omega) _ _ _
          · clear c1
            have hk1 : 1 ≤ k := by omega
            by_cases hx8 : x = 128
            · subst hx8
              go_wp2_with (go_at_call 83; refine (rfail_zero _ _ _ _ _ _).mono ?_; rintro e w2 ⟨rfl, hb2⟩; obtain ⟨hc, hf⟩ := bcell hb2)
              refine bodyPost_ret (v := .tuple #[.agg #[.slice (some ⟨b, off, none⟩) bs.length cap, .int .i64 a, .int .i64 2], .int .i64 0]) (by simp [results, Tryd.results76, go_sem, hc]) rfl ⟨rfl, ?_⟩
              exact below_store3 (Below.trans (by go_grown) (hb2.mono (by simp; omega))) (by omega) _ _ _
            · go_wp2_with (go_at_call 83; refine (rfail_zero _ _ _ _ _ _).mono ?_; rintro e w2 ⟨rfl, hb2⟩; obtain ⟨hc, hf⟩ := bcell hb2)
              refine bodyPost_ret (v := .tuple #[.agg #[.slice (some ⟨b, off, none⟩) bs.length cap, .int .i64 a, .int .i64 2], .int .i64 0]) (by simp [results, Tryd.results76, go_sem, hc]) rfl ⟨rfl, ?_⟩
              exact below_store3 (Below.trans (by go_grown) (hb2.mono (by simp; omega))) (by omega) _ _ _
        rw [if_neg c2] at hr
        by_cases c3 : 128 ≤ x
        · rw [if_pos c3] at hr
          have RR : Hid ((n, s, c) = numG most (q * 128 + x % 128) (k + 1) (bs.drop (a + k + 1))) := hr
          clear hr hqz
          by_cases k0 : k = 0
          · subst k0
            rw [Nat.add_zero] at hce
            have hx8 : ¬ x = 128 := fun e => c1 ⟨rfl, e⟩
            clear c1
            go_wp2_with (go_at_call 83; fail)
            go_round
            case rel => exact ⟨0 + 1, q * 128 + x % 128, by omega, by go_num, rfl, by omega, by omega, by omega, RR.out⟩
            case measure => simp [intOf]; omega
          · clear c1
            have hk1 : 1 ≤ k := by omega
            by_cases hx8 : x = 128
            · subst hx8
              go_wp2_with (go_at_call 83; fail)
              go_round
              case rel => exact ⟨k + 1, q * 128 + 128 % 128, by omega, by go_num, by simp, by omega, by omega, by omega, RR.out⟩
              case measure => simp [intOf]; omega
            · go_wp2_with (go_at_call 83; fail)
              go_round
              case rel => exact ⟨k + 1, q * 128 + x % 128, by omega, by go_num, rfl, by omega, by omega, by omega, RR.out⟩
              case measure => simp [intOf]; omega
        rw [if_neg c3] at hr
        by_cases c4 : most < q * 128 + x % 128
        · rw [if_pos c4] at hr
          have hxm : x % 128 = x := by omega
          rw [hxm] at c4
          clear hxm
          simp only [Prod.mk.injEq] at hr
          obtain ⟨rfl, rfl, rfl⟩ := hr
          clear hqz
          have hx8 : ¬ x = 128 := by omega
          clear c1
          by_cases k0 : k = 0
          · subst k0
            rw [Nat.add_zero] at hce
            go_wp2_with (go_at_call 83; refine (rfail_zero _ _ _ _ _ _).mono ?_; rintro e w2 ⟨rfl, hb2⟩; obtain ⟨hc, hf⟩ := bcell hb2)
            refine bodyPost_ret (v := .tuple #[.agg #[.slice (some ⟨b, off, none⟩) bs.length cap, .int .i64 a, .int .i64 2], .int .i64 0]) (by simp [results, Tryd.results76, go_sem, hc]) rfl ⟨rfl, ?_⟩
            exact below_store3 (Below.trans (by go_grown) (hb2.mono (by simp; omega))) (by omega) _ _ _
          · have hk1 : 1 ≤ k := by omega
            go_wp2_with (go_at_call 83; refine (rfail_zero _ _ _ _ _ _).mono ?_; rintro e w2 ⟨rfl, hb2⟩; obtain ⟨hc, hf⟩ := bcell hb2)
            refine bodyPost_ret (v := .tuple #[.agg #[.slice (some ⟨b, off, none⟩) bs.length cap, .int .i64 a, .int .i64 2], .int .i64 0]) (by simp [results, Tryd.results76, go_sem, hc]) rfl ⟨rfl, ?_⟩
            exact below_store3 (Below.trans (by go_grown) (hb2.mono (by simp; omega))) (by omega) _ _ _
        · rw [if_neg c4] at hr
          have hxm : x % 128 = x := by omega
          rw [hxm] at c4 hr
          clear hxm
          simp only [Prod.mk.injEq] at hr
          obtain ⟨rfl, rfl, rfl⟩ := hr
          clear hqz
          have hx8 : ¬ x = 128 := by omega
          clear c1
          by_cases k0 : k = 0
          · subst k0
            rw [Nat.add_zero] at hce
            go_wp2_with (go_at_call 83; fail)
            refine bodyPost_ret (v := .tuple #[.agg #[.slice (some ⟨b, off, none⟩) bs.length cap, .int .i64 ((a + (0 + 1) : Nat) : Int), .int .i64 0], .int .i64 (q * 128 + x)]) (by simp [results, Tryd.results76, go_sem]; try omega) rfl ⟨rfl, ?_⟩
            go_grown
          · have hk1 : 1 ≤ k := by omega
            go_wp2_with (go_at_call 83; fail)
            refine bodyPost_ret (v := .tuple #[.agg #[.slice (some ⟨b, off, none⟩) bs.length cap, .int .i64 ((a + (k + 1) : Nat) : Int), .int .i64 0], .int .i64 (q * 128 + x)]) (by simp [results, Tryd.results76, go_sem]; try omega) rfl ⟨rfl, ?_⟩
            go_grown
      · rw [List.drop_of_length_le (by omega : bs.length ≤ a + k)] at hr
        simp only [numG, Prod.mk.injEq] at hr
        obtain ⟨rfl, rfl, rfl⟩ := hr
        clear hqz HR
        go_wp2_with (go_at_call 83; refine (rfail_zero _ _ _ _ _ _).mono ?_; rintro e w2 ⟨rfl, hb2⟩; obtain ⟨hc, hf⟩ := bcell hb2)
        refine bodyPost_ret (v := .tuple #[.agg #[.slice p bs.length cap, .int .i64 a, .int .i64 6], .int .i64 0]) (by simp [results, Tryd.results76, go_sem, hc]) rfl ⟨rfl, ?_⟩
        exact below_store3 (Below.trans (by go_grown) (hb2.mono (by simp; omega))) (by omega) _ _ _
  · have e : rdNum bs a code most = (0, a, code) := by unfold rdNum; rw [if_neg hz]
    rw [e]; clear e
    go_enter Tryd.func76, Tryd.ntmps76
    go_wp2
    refine bodyPost_ret (v := .tuple #[.agg #[.slice p bs.length cap, .int .i64 a, .int .i64 code], .int .i64 0]) (by simp [results, Tryd.results76, go_sem]) rfl ⟨rfl, ?_⟩
    go_grown
end Go.Proofs.YtgmghekgelmmcaaDoor.Ite
