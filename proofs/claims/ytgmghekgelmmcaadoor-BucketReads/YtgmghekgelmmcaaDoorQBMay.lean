/-
  May of the program: whether all three bits of a hash are set.
-/
import Derived.Test.YtgmghekgelmmcaaDoorQBPlc
namespace Go.Proofs.YtgmghekgelmmcaaDoor.Blo
open Go.RowKit

/-- The two cells of a filter in a block. -/
theorem two33 {w : World} {g : Nat} {x0 x1 : Value} (h : w.heap[g]? = some (.cells #[x0, x1] 52 (0, 0))) :
    (w.cell? ⟨g, 0, none⟩ = some x0 ∧ w.cell? ⟨g, 1, none⟩ = some x1) ∧ ∀ o, w.frozen? ⟨g, o, none⟩ = false := by
  refine ⟨⟨?_, ?_⟩, ?_⟩ <;> simp [World.cell?, World.frozen?, h]

/-- A thing of three. -/
theorem idx45 (w : World) (a b c : Int) : (Instr.index 82 (.agg #[.int .u64 a, .int .u64 b, .int .u64 c]) (.int .i64 0)).run Tryd.prog w = .ok (.int .u64 a) w ∧ (Instr.index 82 (.agg #[.int .u64 a, .int .u64 b, .int .u64 c]) (.int .i64 1)).run Tryd.prog w = .ok (.int .u64 b) w ∧ (Instr.index 82 (.agg #[.int .u64 a, .int .u64 b, .int .u64 c]) (.int .i64 2)).run Tryd.prog w = .ok (.int .u64 c) w := by
  have z22 := Tryd.sizeOf46
  refine ⟨?_, ?_, ?_⟩ <;> simp [Instr.index, run_underlying Tryd.underlying82, asIntOf, go_sem]

/-- One bit of a number, as the program reads it. -/
def bit (n p : Nat) : Int := if n.testBit p then 1 else 0
theorem bit_eq (n p : Nat) (hn : n < 18446744073709551616) : bits .and .u64 ((n : Int) / 2 ^ p) 1 = bit n p := by
  have e : (n : Int) / 2 ^ p = ((n / 2 ^ p : Nat) : Int) := by rw [Int.natCast_ediv, Int.natCast_pow]; rfl
  have hl : n / 2 ^ p < 18446744073709551616 := Nat.lt_of_le_of_lt (Nat.div_le_self _ _) hn
  have := and_u64 (n / 2 ^ p) 1 hl (by decide)
  rw [e]
  rw [show ((1 : Nat) : Int) = 1 from rfl] at this
  rw [this, Nat.and_one_is_mod]
  unfold bit
  rw [Nat.testBit_eq_decide_div_mod_eq]
  by_cases h : n / 2 ^ p % 2 = 1
  · simp [h]
  · simp [h]; omega

/-- All of three places. -/
def may3 (f g a b c : Nat) : Bool := bitF (f, g) a && (bitF (f, g) b && bitF (f, g) c)
theorem may3_eq (f g h : Nat) : may3 f g (h % 128) (h / 2097152 % 128) (h / 4398046511104 % 128) = mayF (f, g) h := by
  simp [may3, mayF, places]

/-- From the k-th place on. -/
def restB (f g a b c : Nat) : Nat → Bool
  | 0 => bitF (f, g) a && (bitF (f, g) b && bitF (f, g) c)
  | 1 => bitF (f, g) b && bitF (f, g) c
  | 2 => bitF (f, g) c
  | _ => true

theorem bit_yes {n p : Nat} (hn : n < 18446744073709551616) (h : n.testBit p = true) : bits .and .u64 ((n : Int) / 2 ^ p) 1 = 1 := by rw [bit_eq n p hn]; simp [bit, h]
theorem bit_no {n p : Nat} (hn : n < 18446744073709551616) (h : n.testBit p = false) : bits .and .u64 ((n : Int) / 2 ^ p) 1 = 0 := by rw [bit_eq n p hn]; simp [bit, h]
/-- The number in which a place is. -/
theorem word_at {w : World} {gb f g : Nat} (hf : f < 18446744073709551616) (hg : g < 18446744073709551616) (q0 : w.cell? ⟨gb, 0, none⟩ = some (.int .u64 (f : Int))) (q1 : w.cell? ⟨gb, 1, none⟩ = some (.int .u64 (g : Int))) {p : Nat} (hp : p < 128) :
    ∃ n : Nat, n < 18446744073709551616 ∧ w.cell? ⟨gb, p / 64, none⟩ = some (.int .u64 (n : Int)) ∧ bitF (f, g) p = n.testBit (p % 64) := by
  by_cases h : p < 64
  · refine ⟨f, hf, ?_, ?_⟩
    · rw [show p / 64 = 0 by omega]; exact q0
    · rw [show p % 64 = p by omega]; simp [bitF, h]
  · refine ⟨g, hg, ?_, ?_⟩
    · rw [show p / 64 = 1 by omega]; exact q1
    · rw [show p % 64 = p - 64 by omega]; simp [bitF, h]

set_option maxHeartbeats 2000000 in
set_option maxRecDepth 10000 in
theorem may_any (w : World) (f g n : Nat) (hf : f < 18446744073709551616) (hg : g < 18446744073709551616) (hn : n < 18446744073709551616) :
    Calls Tryd.prog 24 #[.agg #[.int .u64 (f : Int), .int .u64 (g : Int)], .int .u64 (n : Int)] w fun e w' => e = .returned (.bool (mayF (f, g) n)) ∧ Below w.heap.size w w' := by
  have h1 := heap_alloc_new w (.cells #[.int .u64 (f : Int), .int .u64 (g : Int)] 52)
  have B1 : Below w.heap.size w (w.alloc (.cells #[.int .u64 (f : Int), .int .u64 (g : Int)] 52)) := by go_grown
  have HM : Hid (may3 f g (n % 128) (n / 2097152 % 128) (n / 4398046511104 % 128) = mayF (f, g) n) := may3_eq f g n
  have HP := hid2 (places_any (w.alloc (.cells #[.int .u64 (f : Int), .int .u64 (g : Int)] 52)) n hn)
  obtain ⟨a, ha⟩ : ∃ a, a = n % 128 := ⟨_, rfl⟩
  obtain ⟨b, hb⟩ : ∃ b, b = n / 2097152 % 128 := ⟨_, rfl⟩
  obtain ⟨c, hc⟩ : ∃ c, c = n / 4398046511104 % 128 := ⟨_, rfl⟩
  rw [← ha, ← hb, ← hc] at HM HP
  have la : a < 128 := by omega
  have lb : b < 128 := by omega
  have lc : c < 128 := by omega
  clear ha hb hc
  have HB : Hid (Below w.heap.size w (w.alloc (.cells #[.int .u64 (f : Int), .int .u64 (g : Int)] 52))) := B1
  have H1 := hid2 h1
  clear h1 B1
  go_enter Tryd.func24, Tryd.ntmps24
  go_wp2_with fail
  refine (show Calls _ _ _ _ _ from HP).mono ?_
  rintro e w1 ⟨rfl, B2⟩
  have h2 := heap_stays H1.out B2
  obtain ⟨⟨q0, q1⟩, _⟩ := two33 h2
  have hlt := lt_of_block h2
  have HB2 : Hid (Below w.heap.size w w1) := HB.out.trans (B2.mono HB.out.size)
  have b0 := fun p => bit_eq f p hf
  have b1 := fun p => bit_eq g p hg
  clear h2 B2 H1 HP
  obtain ⟨gb, hgb⟩ : ∃ gb, gb = w.heap.size := ⟨_, rfl⟩
  rw [← hgb] at q0 q1 hlt ⊢
  rw [hgb] at hgb
  clear hgb
  go_wp2_with fail
  go_loop [9] (fun i => ∃ k : Nat, k ≤ 3 ∧ i = .int .i64 k ∧ restB f g a b c k = may3 f g a b c) (fun i => 3 - (intOf i).toNat)
  case atStart => exact ⟨0, by omega, rfl, rfl⟩
  case round =>
    obtain ⟨k, hk, rfl, hr⟩ := hrel
    have HR := hid2 hr
    clear hr
    have i3 := idx45 w1 (a : Int) (b : Int) (c : Int)
    obtain ⟨i0, i1, i2⟩ := i3
    rcases (by omega : k = 0 ∨ k = 1 ∨ k = 2 ∨ k = 3) with rfl | rfl | rfl | rfl
    · obtain ⟨m, hm, hc, hb⟩ := word_at hf hg q0 q1 la
      have HB1 := hid2 hb
      clear hb
      cases ht : m.testBit (a % 64)
      · have hbn := bit_no hm ht
        have HT : Hid (bitF (f, g) a = false) := HB1.out.trans ht
        clear ht
        go_wp2
        go_ret
        rw [← HM.out, ← HR.out]
        exact ⟨by simp [restB, HT.out], HB2.out⟩
      · have hbn := bit_yes hm ht
        have HT : Hid (bitF (f, g) a = true) := HB1.out.trans ht
        clear ht
        go_wp2
        go_round
        case rel => exact ⟨1, by omega, rfl, by rw [← HR.out]; simp [restB, HT.out]⟩
        case measure => simp [intOf]
    · obtain ⟨m, hm, hc, hb⟩ := word_at hf hg q0 q1 lb
      have HB1 := hid2 hb
      clear hb
      cases ht : m.testBit (b % 64)
      · have hbn := bit_no hm ht
        have HT : Hid (bitF (f, g) b = false) := HB1.out.trans ht
        clear ht
        go_wp2
        go_ret
        rw [← HM.out, ← HR.out]
        exact ⟨by simp [restB, HT.out], HB2.out⟩
      · have hbn := bit_yes hm ht
        have HT : Hid (bitF (f, g) b = true) := HB1.out.trans ht
        clear ht
        go_wp2
        go_round
        case rel => exact ⟨2, by omega, rfl, by rw [← HR.out]; simp [restB, HT.out]⟩
        case measure => simp [intOf]
    · obtain ⟨m, hm, hc, hb⟩ := word_at hf hg q0 q1 lc
      have HB1 := hid2 hb
      clear hb
      cases ht : m.testBit (c % 64)
      · have hbn := bit_no hm ht
        have HT : Hid (bitF (f, g) c = false) := HB1.out.trans ht
        clear ht
        go_wp2
        go_ret
        rw [← HM.out, ← HR.out]
        exact ⟨by simp [restB, HT.out], HB2.out⟩
      · have hbn := bit_yes hm ht
        have HT : Hid (bitF (f, g) c = true) := HB1.out.trans ht
        clear ht
        go_wp2
        go_round
        case rel => exact ⟨3, by omega, rfl, by rw [← HR.out]; simp [restB, HT.out]⟩
        case measure => simp [intOf]
    · go_wp2
      go_ret
      rw [← HM.out, ← HR.out]
      exact ⟨rfl, HB2.out⟩
end Go.Proofs.YtgmghekgelmmcaaDoor.Blo
