/-
  The walk of the law ChecksumSums: whatever the bytes and the number, the call answers true.
-/
import Derived.Test.YtinmipokhpefjaaWorks
namespace Go.Proofs.Ytinmipokhpefjaa
open Go.RowKit

theorem four_whole {n a b c d : Nat} (hn : n < 4294967296) (h : four n = [a, b, c, d]) : a < 256 ∧ b < 256 ∧ c < 256 ∧ d < 256 ∧ (a : Int) + b * 256 + c * 65536 + d * 16777216 = n := by
  simp only [four, List.cons.injEq] at h
  omega

theorem cells4_new (w : World) (a b c d : Nat) : ∀ (k : Nat) (u : Value), (U [a, b, c, d])[k]? = some u → (w.alloc (.cells #[.int .u8 (a : Int), .int .u8 (b : Int), .int .u8 (c : Int), .int .u8 (d : Int)] 25)).cell? ⟨w.heap.size, k, none⟩ = some u := by
  intro k u hk
  have := (sl_four_new w a b c d).elem (by simp [U])
  obtain ⟨off, cap, e, _, _, _, h⟩ := this
  simp only [Value.slice.injEq, Option.some.injEq, Addr.mk.injEq] at e
  obtain ⟨⟨_, rfl, _⟩, _, _⟩ := e
  simpa using h k u hk

set_option maxHeartbeats 4000000 in
set_option maxRecDepth 10000 in
theorem lawSums_any {w : World} {b : Nat} {v : Value} {l : List Nat} (n : Nat) (h : SlAt w b v (U l)) (hby : Byt l) (hn : n < 4294967296) :
    Calls Try.prog 3 #[v, .int .u32 (n : Int)] w fun e w' => e = .returned (.bool true) ∧ Below w.heap.size w w' := by
  obtain ⟨p, cap, hu, hc1, hc2⟩ := h.form
  rw [U_length] at hu hc1
  unfold maxLen at hc2
  subst hu
  by_cases hl : l.length ≤ 1000
  · obtain ⟨x0, x1, x2, x3, hf⟩ := four_split n
    obtain ⟨hx0, hx1, hx2, hx3, hx⟩ := four_whole hn hf
    have HF : Hid (four n = [x0, x1, x2, x3]) := hf
    have HX : Hid ((x0 : Int) + x1 * 256 + x2 * 65536 + x3 * 16777216 = n) := hx
    clear hf hx
    go_enter Try.func3, Try.ntmps3
    go_wp2_with fail
    refine (four_any _ n _ _ _ _ hn HF.out).mono ?_
    rintro e w1 ⟨rfl, hb1⟩
    have hC := cells4_new w1 x0 x1 x2 x3
    have hB2 : Below w.heap.size w (w1.alloc (.cells #[.int .u8 (x0 : Int), .int .u8 (x1 : Int), .int .u8 (x2 : Int), .int .u8 (x3 : Int)] 25)) := hb1.alloc hb1.size _
    have hlt2 : w1.heap.size < (w1.alloc (.cells #[.int .u8 (x0 : Int), .int .u8 (x1 : Int), .int .u8 (x2 : Int), .int .u8 (x3 : Int)] 25)).heap.size := by simp
    obtain ⟨w2, hw2⟩ : ∃ w2, w2 = w1.alloc (.cells #[.int .u8 (x0 : Int), .int .u8 (x1 : Int), .int .u8 (x2 : Int), .int .u8 (x3 : Int)] 25) := ⟨_, rfl⟩
    rw [← hw2] at hC hB2 hlt2
    go_wp2_with fail
    rw [← hw2]
    clear hw2
    refine (sum_any (h.stays hB2) hby).mono ?_
    rintro e w3 ⟨rfl, hw⟩
    have hw := hw.symm
    subst hw
    go_wp2_with fail
    refine (rsum_any (h.stays hB2) hby).mono ?_
    rintro e w3 ⟨rfl, hw⟩
    have hw := hw.symm
    subst hw
    go_wp2_with fail
    refine (seal_any (h.stays hB2) hby (by omega)).mono ?_
    rintro e w3 ⟨s3, rfl, hown3, hb3⟩
    have hB3 := hB2.trans (hb3.mono hB2.size)
    go_wp2_with fail
    refine (rseal_any (h.stays hB3) hby (by omega)).mono ?_
    rintro e w4 ⟨s4, rfl, hown4, hb4⟩
    have hB4 := hB3.trans (hb4.mono hB3.size)
    obtain ⟨b3, _, hs3⟩ := own_sl hown3
    obtain ⟨b4, _, hs4⟩ := own_sl hown4
    go_wp2_with fail
    refine (same_eq (hs3.stays hb4) hs4 (sealL_byt hby)).mono ?_
    rintro e w5 ⟨rfl, hb5⟩
    have hB5 := hB4.trans (hb5.mono hB4.size)
    clear hown3 hown4 hs3 hs4
    go_wp2_with fail
    refine (fits_any (h.stays hB5) hby).mono ?_
    rintro e w6 ⟨rfl, hb6⟩
    have hB6 := hB5.trans (hb6.mono hB5.size)
    go_wp2_with fail
    refine (rfits_any (h.stays hB6) hby (by omega)).mono ?_
    rintro e w7 ⟨rfl, hb7⟩
    have hB7 := hB6.trans (hb7.mono hB6.size)
    have hC7 : ∀ (k : Nat) (u : Value), (U [x0, x1, x2, x3])[k]? = some u → w7.cell? ⟨w1.heap.size, k, none⟩ = some u := by
      intro k u hk
      have e3 := hb3.cell (p := ⟨w1.heap.size, k, none⟩) hlt2
      have e4 := hb4.cell (p := ⟨w1.heap.size, k, none⟩) (Nat.lt_of_lt_of_le hlt2 hb3.size)
      have e5 := hb5.cell (p := ⟨w1.heap.size, k, none⟩) (Nat.lt_of_lt_of_le (Nat.lt_of_lt_of_le hlt2 hb3.size) hb4.size)
      have e6 := hb6.cell (p := ⟨w1.heap.size, k, none⟩) (Nat.lt_of_lt_of_le (Nat.lt_of_lt_of_le (Nat.lt_of_lt_of_le hlt2 hb3.size) hb4.size) hb5.size)
      have e7 := hb7.cell (p := ⟨w1.heap.size, k, none⟩) (Nat.lt_of_lt_of_le (Nat.lt_of_lt_of_le (Nat.lt_of_lt_of_le (Nat.lt_of_lt_of_le hlt2 hb3.size) hb4.size) hb5.size) hb6.size)
      rw [e7, e6, e5, e4, e3]
      exact hC k u hk
    have r0 := hC7 0 _ rfl
    have r1 := hC7 1 _ rfl
    have r2 := hC7 2 _ rfl
    have r3 := hC7 3 _ rfl
    clear hC7 hC
    have hx := HX.out
    go_wp2_with fail
    refine (works_any _).mono ?_
    rintro e w8 ⟨rfl, hb8⟩
    go_wp2
    go_ret
    exact ⟨rfl, hB7.trans (hb8.mono hB7.size)⟩
  · go_enter Try.func3, Try.ntmps3
    go_wp2_with (go_at_call 7; refine (works_any _).mono ?_; rintro e w1 ⟨rfl, hb1⟩)
    go_ret
    exact ⟨rfl, hb1⟩
end Go.Proofs.Ytinmipokhpefjaa
