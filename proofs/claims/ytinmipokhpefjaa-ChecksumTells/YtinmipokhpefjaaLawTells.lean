/-
  The walk of the law ChecksumTells: whatever the bytes, and whichever bits within 32 side by side are turned, the call answers true.
-/
import Derived.Test.YtinmipokhpefjaaWorks
import Derived.Laws.Closers25b
namespace Go.Proofs.Ytinmipokhpefjaa
open Go.RowKit

/-- A sealed row with bits turned does not fit. -/
theorem told_fits {l s : List Nat} {k x r : Nat} (hx : x < 2 ^ 32) (h0 : x ≠ 0) (hk : k + 32 + r = 8 * (l.length + 4)) (hs : bitsL s = zipX (bitsL (sealL l)) (burst k x r)) : fitsB s = false :=
  fitsB_not (told l s k x r hx h0 hk hs _)

/-- The row behind the first i bits. -/
def Turned (l s : List Nat) (k x i : Nat) : Prop := s.length = l.length + 4 ∧ Byt s ∧ bitsL s = zipX (bitsL (sealL l)) (part k x i (8 * (l.length + 4) - k - 32))

theorem Turned.zero {l : List Nat} (h : Byt l) (k x : Nat) (hk : k + 32 ≤ 8 * (l.length + 4)) : Turned l (sealL l) k x 0 := by
  refine ⟨sealL_length l, sealL_byt h, ?_⟩
  have e := zipX_zeros (bitsL (sealL l)) (bitsL_bit _)
  rw [bitsL_length, sealL_length] at e
  rw [part_zero, show k + 32 + (8 * (l.length + 4) - k - 32) = 8 * (l.length + 4) by omega, e]

theorem Turned.skip {l s : List Nat} {k x i : Nat} (h : Turned l s k x i) (hi : i < 32) (hb : x / 2 ^ i % 2 = 0) : Turned l s k x (i + 1) := by
  refine ⟨h.1, h.2.1, ?_⟩
  rw [part_skip k x i _ hi hb]
  exact h.2.2

theorem pow_byte (j : Nat) (h : j < 8) : 2 ^ j < 256 := by
  have := Nat.pow_lt_pow_right (a := 2) (by decide) h
  exact this

theorem Turned.take {l s : List Nat} {k x i y : Nat} (h : Turned l s k x i) (hk : k + 32 ≤ 8 * (l.length + 4)) (hi : i < 32) (hb : x / 2 ^ i % 2 = 1) (hy : s[(k + i) / 8]? = some y) : Turned l (s.set ((k + i) / 8) (y ^^^ 2 ^ ((k + i) % 8))) k x (i + 1) := by
  obtain ⟨hm, rfl⟩ := List.getElem?_eq_some_iff.1 hy
  refine ⟨by rw [List.length_set]; exact h.1, ?_, ?_⟩
  · intro z hz
    rcases List.mem_or_eq_of_mem_set hz with hz | rfl
    · exact h.2.1 z hz
    · exact Nat.xor_lt_two_pow (n := 8) (h.2.1 _ (List.getElem_mem hm)) (pow_byte _ (by omega))
  · rw [bitsL_flip s _ _ hm (by omega), h.2.2, zipX_assoc, show 8 * ((k + i) / 8) + (k + i) % 8 = k + i by omega, part_take k x i _ hi hb, h.1, show k + 32 + (8 * (l.length + 4) - k - 32) = 8 * (l.length + 4) by omega]

theorem Turned.full {l s : List Nat} {k x : Nat} (h : Turned l s k x 32) (hk : k + 32 ≤ 8 * (l.length + 4)) (hx : x < 2 ^ 32) (h0 : x ≠ 0) : fitsB s = false := by
  refine told_fits (l := l) (k := k) (r := 8 * (l.length + 4) - k - 32) hx h0 (by omega) ?_
  rw [← part_full]
  exact h.2.2
theorem U_set (s : List Nat) (m y : Nat) : U (s.set m y) = (U s).set m (.int .u8 (y : Int)) := by simp [U, List.map_set]

theorem and1_shr (x j : Nat) (hx : x < 4294967296) : bits .and .u32 ((x : Int) / 2 ^ j) 1 = ((x / 2 ^ j % 2 : Nat) : Int) := by
  have e : ((x : Int) / 2 ^ j) = ((x / 2 ^ j : Nat) : Int) := by rw [Int.natCast_ediv, Int.natCast_pow]; rfl
  rw [e]
  exact and1_u32 _ (Nat.lt_of_le_of_lt (Nat.div_le_self _ _) hx)

theorem shl_u8 (r : Nat) (h : r < 8) : IntKind.u8.wrap (2 ^ r) = ((2 ^ r : Nat) : Int) := by
  have : r = 0 ∨ r = 1 ∨ r = 2 ∨ r = 3 ∨ r = 4 ∨ r = 5 ∨ r = 6 ∨ r = 7 := by omega
  rcases this with rfl | rfl | rfl | rfl | rfl | rfl | rfl | rfl <;> decide

theorem own_form {w : World} {B : Nat} {e : TypeId} {v : Value} {n : Nat} {xs : List Value} (h : w.ownsRow B e 1 v n xs) (hn : 0 < n) : ∃ g cap, v = .slice (some ⟨g, 0, none⟩) n cap ∧ B ≤ g ∧ g < w.heap.size ∧ n ≤ cap ∧ cap ≤ maxLen := by
  rcases h.2 with ⟨_, h0⟩ | ⟨g, cap, cur, h1, h2, h3, h4, h5, _⟩
  · omega
  · exact ⟨g, cap, h1, h2, (Array.getElem?_eq_some_iff.1 h3).1, h4, h5⟩

set_option maxHeartbeats 4000000 in
set_option maxRecDepth 10000 in
theorem lawTells_any {w : World} {b : Nat} {v : Value} {l : List Nat} (at_ x : Nat) (h : SlAt w b v (U l)) (hby : Byt l) (ha : at_ < 65536) (hx : x < 4294967296) :
    Calls Try.prog 5 #[v, .int .u16 (at_ : Int), .int .u32 (x : Int)] w fun e w' => e = .returned (.bool true) ∧ Below w.heap.size w w' := by
  obtain ⟨p, cap, hu, hc1, hc2⟩ := h.form
  rw [U_length] at hu hc1
  unfold maxLen at hc2
  subst hu
  by_cases hl : l.length ≤ 1000
  · by_cases hx0 : x = 0
    · subst hx0
      go_enter Try.func5, Try.ntmps5
      go_wp2_with (go_at_call 7; refine (works_any _).mono ?_; rintro e w1 ⟨rfl, hb1⟩)
      go_ret
      exact ⟨rfl, hb1⟩
    · obtain ⟨k, hk⟩ : ∃ k, k = at_ % (8 * (l.length + 4) - 31) := ⟨_, rfl⟩
      have hkl : k + 32 ≤ 8 * (l.length + 4) := by have := Nat.mod_lt at_ (show 0 < 8 * (l.length + 4) - 31 by omega); omega
      have hki : (at_ : Int) % (8 * ((l.length : Int) + 4) - 31) = (k : Int) := by rw [hk, Int.natCast_emod]; congr 1; omega
      clear hk
      have hxe : ((x : Int) == 0) = false := by simpa using hx0
      go_enter Try.func5, Try.ntmps5
      go_wp2_with (go_at_call 12; refine (seal_any h hby (by omega)).mono ?_; rintro e w1 ⟨sv, rfl, hown, hB1⟩; obtain ⟨g, cap2, hsv, hg, hgl, hc3, hc4⟩ := own_form hown (by omega); unfold maxLen at hc4; subst hsv)
      rw [hki]
      clear hki
      have hT := Turned.zero hby k x hkl
      go_loopg [9] 32 (fun gk i wr => ∃ (j : Nat) (s : List Nat), j ≤ 32 ∧ gk = 32 - j ∧ i = .int .i64 j ∧ wr.ownsRow w.heap.size 5 1 (.slice (some ⟨g, 0, none⟩) (l.length + 4) cap2) (l.length + 4) (U s) ∧ Turned l s k x j ∧ Below w.heap.size w wr)
      case atStart => exact ⟨0, sealL l, by omega, rfl, rfl, hown, hT, hB1⟩
      case round =>
        clear hT hown hB1
        obtain ⟨j, s, hj, hg0, rfl, ho, ht, hbr⟩ := hrel
        have HG : Hid (gk = 32 - j) := hg0
        have HT : Hid (Turned l s k x j) := ht
        have hsl : s.length = l.length + 4 := ht.1
        have HS : Hid (s.length = l.length + 4) := hsl
        clear hg0 ht
        by_cases hlt : j < 32
        · have hand := and1_shr x j hx
          have hlt' : (j : Int) < 32 := by omega
          by_cases hb1 : x / 2 ^ j % 2 = 1
          · rw [hb1] at hand
            obtain ⟨m, hm⟩ : ∃ m, m = (k + j) / 8 := ⟨_, rfl⟩
            obtain ⟨r, hr⟩ : ∃ r, r = (k + j) % 8 := ⟨_, rfl⟩
            have hml : m < s.length := by omega
            obtain ⟨y, hy⟩ : ∃ y, s[m]? = some y := ⟨s[m], List.getElem?_eq_getElem hml⟩
            have hyl := HT.out.2.1.at hy
            have HT2 : Hid (Turned l (s.set m (y ^^^ 2 ^ r)) k x (j + 1)) := by
              have := HT.out.take hkl hlt hb1 (y := y) (by rw [← hm]; exact hy)
              rw [← hm, ← hr] at this
              exact this
            have hmi : ((k : Int) + j) / 8 = (m : Int) := by omega
            have hri : ((k : Int) + j) % 8 = (r : Int) := by omega
            have hr8 : r < 8 := by omega
            have hce := (ho.cellAt m (by omega)).trans (U_at hy)
            have hfr := ho.frozenAt m
            have hsh := shl_u8 r hr8
            have hxor : bits .xor .u8 (y : Int) (2 ^ r) = ((y ^^^ 2 ^ r : Nat) : Int) := by
              have := xor_u8 y (2 ^ r) hyl (pow_byte r hr8)
              rw [Int.natCast_pow] at this
              exact this
            have hw1 : IntKind.i64.wrap ((k : Int) + j) = (k : Int) + j := by rw [IntKind.wrap_i64]; omega
            have hw2 : IntKind.i64.wrap (((k : Int) + j).tdiv 8) = (m : Int) := by rw [Int.tdiv_eq_ediv_of_nonneg (by omega), hmi, IntKind.wrap_i64]; omega
            have hw3 : ((k : Int) + j).tmod 8 = (r : Int) := by rw [Int.tmod_eq_emod_of_nonneg (by omega), hri]
            have hmi2 : (m : Int) < (l.length : Int) + 4 := by omega
            clear hm hr hy hsl
            go_upto_region 11 with fail
            refine wp_region_any (by kernel_rfl) ?_
            change wpAny _ _ _ _ _ _ _ (World.drew _)
            refine wpAny_take (i := 0) (v := .slice (some ⟨g, 0, none⟩) (l.length + 4) cap2) rfl (by kernel_rfl) (by kernel_rfl) (by kernel_rfl) (fun _ _ _ h => h) (Or.inl ⟨by kernel_rfl, ?_⟩) ?_
            · intro w; go_simp
            change wpAny _ _ _ _ _ _ (Act.put _ (some 42) _) _
            simp only [Act.put, List.setIfInBounds_toArray, List.set_cons_succ, List.set_cons_zero]
            refine wpAny_take (i := 1) (v := .int .i64 k) rfl (by kernel_rfl) (by kernel_rfl) (by kernel_rfl) (fun _ _ _ h => h) (Or.inl ⟨by kernel_rfl, ?_⟩) ?_
            · intro w; go_simp
            change wpAny _ _ _ _ _ _ (Act.put _ (some 43) _) _
            simp only [Act.put, List.setIfInBounds_toArray, List.set_cons_succ, List.set_cons_zero]
            refine wpAny_take (i := 2) (v := .int .i64 j) rfl (by kernel_rfl) (by kernel_rfl) (by kernel_rfl) (fun _ _ _ h => h) (Or.inl ⟨by kernel_rfl, ?_⟩) ?_
            · intro w; go_simp
            change wpAny _ _ _ _ _ _ (Act.put _ (some 44) _) _
            simp only [Act.put, List.setIfInBounds_toArray, List.set_cons_succ, List.set_cons_zero]
            refine wpAny_take (i := 3) (v := .int .i64 ((k : Int) + j)) rfl (by kernel_rfl) (by kernel_rfl) (by kernel_rfl) (fun _ _ _ h => h) (Or.inl ⟨by kernel_rfl, ?_⟩) ?_
            · intro w; go_simp
            change wpAny _ _ _ _ _ _ (Act.put _ (some 45) _) _
            simp only [Act.put, List.setIfInBounds_toArray, List.set_cons_succ, List.set_cons_zero]
            refine wpAny_take (i := 4) (v := .int .i64 (m : Int)) rfl (by kernel_rfl) (by kernel_rfl) (by kernel_rfl) (fun _ _ _ h => h) (Or.inl ⟨by kernel_rfl, ?_⟩) ?_
            · intro w; go_simp
            change wpAny _ _ _ _ _ _ (Act.put _ (some 46) _) _
            simp only [Act.put, List.setIfInBounds_toArray, List.set_cons_succ, List.set_cons_zero]
            refine wpAny_take (i := 5) (v := .slice (some ⟨g, 0, none⟩) (l.length + 4) cap2) rfl (by kernel_rfl) (by kernel_rfl) (by kernel_rfl) (fun _ _ _ h => h) (Or.inl ⟨by kernel_rfl, ?_⟩) ?_
            · intro w; go_simp
            change wpAny _ _ _ _ _ _ (Act.put _ (some 47) _) _
            simp only [Act.put, List.setIfInBounds_toArray, List.set_cons_succ, List.set_cons_zero]
            refine wpAny_take (i := 6) (v := .int .i64 k) rfl (by kernel_rfl) (by kernel_rfl) (by kernel_rfl) (fun _ _ _ h => h) (Or.inl ⟨by kernel_rfl, ?_⟩) ?_
            · intro w; go_simp
            change wpAny _ _ _ _ _ _ (Act.put _ (some 48) _) _
            simp only [Act.put, List.setIfInBounds_toArray, List.set_cons_succ, List.set_cons_zero]
            refine wpAny_take (i := 7) (v := .int .i64 j) rfl (by kernel_rfl) (by kernel_rfl) (by kernel_rfl) (fun _ _ _ h => h) (Or.inl ⟨by kernel_rfl, ?_⟩) ?_
            · intro w; go_simp
            change wpAny _ _ _ _ _ _ (Act.put _ (some 49) _) _
            simp only [Act.put, List.setIfInBounds_toArray, List.set_cons_succ, List.set_cons_zero]
            refine wpAny_take (i := 8) (v := .int .i64 ((k : Int) + j)) rfl (by kernel_rfl) (by kernel_rfl) (by kernel_rfl) (fun _ _ _ h => h) (Or.inl ⟨by kernel_rfl, ?_⟩) ?_
            · intro w; go_simp
            change wpAny _ _ _ _ _ _ (Act.put _ (some 50) _) _
            simp only [Act.put, List.setIfInBounds_toArray, List.set_cons_succ, List.set_cons_zero]
            refine wpAny_take (i := 9) (v := .int .i64 (m : Int)) rfl (by kernel_rfl) (by kernel_rfl) (by kernel_rfl) (fun _ _ _ h => h) (Or.inl ⟨by kernel_rfl, ?_⟩) ?_
            · intro w; go_simp
            change wpAny _ _ _ _ _ _ (Act.put _ (some 51) _) _
            simp only [Act.put, List.setIfInBounds_toArray, List.set_cons_succ, List.set_cons_zero]
            refine wpAny_take (i := 10) (v := .pointer (some ⟨g, m, none⟩)) rfl (by kernel_rfl) (by kernel_rfl) (by kernel_rfl) (fun _ _ _ h => h) (Or.inl ⟨by kernel_rfl, ?_⟩) ?_
            · intro w; go_simp
            change wpAny _ _ _ _ _ _ (Act.put _ (some 52) _) _
            simp only [Act.put, List.setIfInBounds_toArray, List.set_cons_succ, List.set_cons_zero]
            refine wpAny_take (i := 12) (v := .int .i64 k) rfl (by kernel_rfl) (by kernel_rfl) (by kernel_rfl) (fun _ _ _ h => h) (Or.inl ⟨by kernel_rfl, ?_⟩) ?_
            · intro w; go_simp
            change wpAny _ _ _ _ _ _ (Act.put _ (some 54) _) _
            simp only [Act.put, List.setIfInBounds_toArray, List.set_cons_succ, List.set_cons_zero]
            refine wpAny_take (i := 13) (v := .int .i64 j) rfl (by kernel_rfl) (by kernel_rfl) (by kernel_rfl) (fun _ _ _ h => h) (Or.inl ⟨by kernel_rfl, ?_⟩) ?_
            · intro w; go_simp
            change wpAny _ _ _ _ _ _ (Act.put _ (some 55) _) _
            simp only [Act.put, List.setIfInBounds_toArray, List.set_cons_succ, List.set_cons_zero]
            refine wpAny_take (i := 14) (v := .int .i64 ((k : Int) + j)) rfl (by kernel_rfl) (by kernel_rfl) (by kernel_rfl) (fun _ _ _ h => h) (Or.inl ⟨by kernel_rfl, ?_⟩) ?_
            · intro w; go_simp
            change wpAny _ _ _ _ _ _ (Act.put _ (some 56) _) _
            simp only [Act.put, List.setIfInBounds_toArray, List.set_cons_succ, List.set_cons_zero]
            refine wpAny_take (i := 15) (v := .int .i64 (r : Int)) rfl (by kernel_rfl) (by kernel_rfl) (by kernel_rfl) (fun _ _ _ h => h) (Or.inl ⟨by kernel_rfl, ?_⟩) ?_
            · intro w; go_simp
            change wpAny _ _ _ _ _ _ (Act.put _ (some 57) _) _
            simp only [Act.put, List.setIfInBounds_toArray, List.set_cons_succ, List.set_cons_zero]
            refine wpAny_take (i := 16) (v := .int .u8 (2 ^ r)) rfl (by kernel_rfl) (by kernel_rfl) (by kernel_rfl) (fun _ _ _ h => h) (Or.inl ⟨by kernel_rfl, ?_⟩) ?_
            · intro w; go_simp
            change wpAny _ _ _ _ _ _ (Act.put _ (some 58) _) _
            simp only [Act.put, List.setIfInBounds_toArray, List.set_cons_succ, List.set_cons_zero]
            refine wpAny_ready (rs := [11]) (by kernel_rfl) (by simp) ?_
            refine AllReady.cons rfl (fun K hK => ?_) AllReady.nil
            go_simp
            go_wp2_with (fail)
            refine wpAny_take (i := 17) (v := .int .u8 (y ^^^ 2 ^ r : Nat)) rfl (by kernel_rfl) (by kernel_rfl) (by kernel_rfl) (fun _ _ _ h => h) (Or.inl ⟨by kernel_rfl, ?_⟩) ?_
            · intro w; go_simp
            change wpAny _ _ _ _ _ _ (Act.put _ (some 59) _) _
            simp only [Act.put, List.setIfInBounds_toArray, List.set_cons_succ, List.set_cons_zero]
            refine wpAny_take (i := 18) (v := .pointer (some ⟨g, m, none⟩)) rfl (by kernel_rfl) (by kernel_rfl) (by kernel_rfl) (fun _ _ _ h => h) (Or.inl ⟨by kernel_rfl, ?_⟩) ?_
            · intro w; go_simp
            change wpAny _ _ _ _ _ _ (Act.put _ (some 60) _) _
            simp only [Act.put, List.setIfInBounds_toArray, List.set_cons_succ, List.set_cons_zero]
            refine wpAny_ready (rs := [19]) (by kernel_rfl) (by simp) ?_
            refine AllReady.cons rfl (fun K hK => ?_) AllReady.nil
            go_simp
            go_wp2_with (fail)
            refine wpAny_done (by kernel_rfl) ?_ _
            go_wp2_with fail
            go_roundg (32 - (j + 1))
            case measure => rw [HG.out]; omega
            case rel =>
              have hst := ho.stored m (.int .u8 ((y ^^^ 2 ^ r : Nat) : Int))
              refine ⟨j + 1, s.set m (y ^^^ 2 ^ r), by omega, rfl, by go_num, ?_, HT2.out, ?_⟩
              · rw [U_set]; exact hst.1
              · exact (hbr.grown hst.2 hbr.size (by simp; omega)).trans (below_drewN _ 1 _)
          · have hb0 : x / 2 ^ j % 2 = 0 := by omega
            rw [hb0] at hand
            have HT2 : Hid (Turned l s k x (j + 1)) := HT.out.skip hlt hb0
            clear hsl
            go_wp2_with fail
            go_roundg (32 - (j + 1))
            case measure => rw [HG.out]; omega
            case rel => exact ⟨j + 1, s, by omega, rfl, by go_num, ho, HT2.out, hbr⟩
        · have : j = 32 := by omega
          subst this
          have hff := HT.out.full hkl hx hx0
          have hbs := HT.out.2.1
          obtain ⟨bb, _, hss⟩ := own_sl ho
          have C14 := fits_any hss hbs
          rw [hff] at C14
          have K14 : Hid (Calls Try.prog 14 #[.slice (some ⟨g, 0, none⟩) (l.length + 4) cap2] wr fun e w' => e = .returned (.bool false) ∧ Below wr.heap.size wr w') := C14
          clear C14 hss hbs hff hsl
          go_wp2_with (go_at_call 14; refine (show Calls _ _ _ _ _ from K14).mono ?_; rintro e w2 ⟨rfl, hb2⟩)
          have hB2 := hbr.trans (hb2.mono hbr.size)
          refine (works_any _).mono ?_
          rintro e w3 ⟨rfl, hb3⟩
          go_wp2
          go_ret
          exact ⟨rfl, hB2.trans (hb3.mono hB2.size)⟩
  · go_enter Try.func5, Try.ntmps5
    go_wp2_with (go_at_call 7; refine (works_any _).mono ?_; rintro e w1 ⟨rfl, hb1⟩)
    go_ret
    exact ⟨rfl, hb1⟩
end Go.Proofs.Ytinmipokhpefjaa
