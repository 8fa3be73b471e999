/-
  The walk of the law OctetsPuts: whatever the bytes, the numbers, the text, the word and the key, the call answers true.
-/
import Derived.Test.YtjjafiibbbhnkaaWorks
namespace Go.Proofs.Ytjjafiibbbhnkaa
open Go.RowKit

theorem few_true {w : World} {b : Nat} {v : Value} {l : List Int} (h : SlAt w b v (I l)) (hf : fewB l = true) :
    Calls Try.prog 7 #[v] w fun e w' => e = .returned (.bool true) ∧ w' = w := by
  have := few_any h
  rwa [hf] at this

theorem few_false {w : World} {b : Nat} {v : Value} {l : List Int} (h : SlAt w b v (I l)) (hf : fewB l = false) :
    Calls Try.prog 7 #[v] w fun e w' => e = .returned (.bool false) ∧ w' = w := by
  have := few_any h
  rwa [hf] at this

theorem own_empty_new (w : World) : (w.alloc (.cells #[] 5)).ownsRow w.heap.size 5 1 (.slice (some ⟨w.heap.size, 0, none⟩) 0 0) 0 [] :=
  World.ownsRow_made w #[] 0 (Nat.le_refl _) (by unfold maxLen; omega) rfl

set_option maxHeartbeats 4000000 in
set_option maxRecDepth 10000 in
theorem lawPuts_any {w : World} {b c d : Nat} {v u t : Value} {bs ns ts : List Int} (n : Int) (s : ByteArray) (hv : SlAt w b v (U bs)) (hu : SlAt w c u (I ns)) (ht : SlAt w d t (U ts)) (hb : Byt bs) (hn : ∀ x ∈ ns, x ≤ 9223372036854775807) (htb : Byt ts) (h0 : 0 ≤ n) (h1 : n ≤ 18446744073709551615) (hs : s.size ≤ maxLen) :
    Calls Try.prog 3 #[v, u, t, .int .u64 n, .string s] w fun e w' => e = .returned (.bool true) ∧ Below w.heap.size w w' := by
  obtain ⟨pv, capv, ev, v5, v6⟩ := hv.form
  obtain ⟨pu, capu, eu, u5, u6, hel⟩ := hu.each
  obtain ⟨pt, capt, et, t5, t6⟩ := ht.form
  rw [U_length] at ev v5 et t5
  rw [I_length] at eu u5
  have hs' := hs
  unfold maxLen at v6 u6 t6 hs'
  subst ev eu et
  have EL : Hid (∀ (k : Nat) (x : Int), ns[k]? = some x → ∃ off, pu = some ⟨c, off, none⟩ ∧ c < w.heap.size ∧ w.cell? ⟨c, off + k, none⟩ = some (.int .i64 x)) := fun k x hx => hel k _ (I_at hx)
  clear hel
  by_cases hf : fewB ns = true
  · have C7 := few_true hu hf
    obtain ⟨hns, hn0⟩ := fewB_true hf
    have hN : Nat63 ns := fun x hx => ⟨hn0 x hx, hn x hx⟩
    have K7 : Hid (Calls Try.prog 7 #[.slice pu ns.length capu] w fun e w' => e = .returned (.bool true) ∧ w' = w) := C7
    clear C7 hf hn0 hn
    by_cases hlb : bs.length ≤ 1000
    · by_cases hlt : ts.length ≤ 1000
      · by_cases hls : s.size ≤ 1000
        · go_enter Try.func3, Try.ntmps3
          go_wp2_with (first
            | (go_at_call 7; refine (show Calls _ _ _ _ _ from K7).mono ?_; rintro e w' ⟨rfl, hw⟩; have hw := hw.symm; subst hw)
            | (at_builtin; refine wpList_append_sl _ rfl _ _ rfl w.heap.size (.slice (some ⟨w.heap.size, 0, none⟩) 0 0) 0 [] rfl (own_empty_new w) b _ bs rfl (hv.keeps (by simp) (fun hlt => Below.heap_alloc _ _ _ hlt)) (by omega) (by simp) ?_; intro v0 w0 hown0 hgrow0))
          have hB0 : Below w.heap.size w w0 := ((Below.refl _ _).alloc (Nat.le_refl _) _).grown hgrow0 (by simp) (by simp [Value.ownBlock])
          rw [Nat.zero_add, List.nil_append] at hown0
          obtain ⟨bo, hbo, hso⟩ := own_sl hown0
          obtain ⟨po, capo, eo, o5, o6⟩ := hso.form
          unfold maxLen at o6
          rw [U_length] at eo o5
          subst eo
          clear hgrow0
          refine (put_any (hv.stays hB0) (hu.stays hB0) hN hns (by omega)).mono ?_
          rintro e w1 ⟨s1, rfl, hown1, hb1⟩
          have hB1 := hB0.trans (hb1.mono hB0.size)
          go_wp2_with fail
          refine (rput_any (hso.stays hb1) (hu.stays hB1) hN hns (by omega)).mono ?_
          rintro e w2 ⟨s2, rfl, hown2, hb2⟩
          have hB2 := hB1.trans (hb2.mono hB1.size)
          obtain ⟨b1, _, hs1⟩ := own_sl hown1
          obtain ⟨b2, _, hs2⟩ := own_sl hown2
          go_wp2_with fail
          refine (same_eq (hs1.stays hb2) hs2 (hb.append (puts_byt ns))).mono ?_
          rintro e w3 ⟨rfl, hb3⟩
          have hB3 := hB2.trans (hb3.mono hB2.size)
          have hso3 := ((hso.stays hb1).stays hb2).stays hb3
          clear hown1 hown2 hs1 hs2 hown0 hso
          go_wp2_with fail
          refine (bytes_any (hv.stays hB3) (ht.stays hB3) hlt (by omega)).mono ?_
          rintro e w4 ⟨s4, rfl, hown4, hb4⟩
          have hB4 := hB3.trans (hb4.mono hB3.size)
          go_wp2_with fail
          refine (rbytes_any (hso3.stays hb4) (ht.stays hB4) hlt (by omega)).mono ?_
          rintro e w5 ⟨s5, rfl, hown5, hb5⟩
          have hB5 := hB4.trans (hb5.mono hB4.size)
          obtain ⟨b4, _, hs4⟩ := own_sl hown4
          obtain ⟨b5, _, hs5⟩ := own_sl hown5
          go_wp2_with fail
          refine (same_eq (hs4.stays hb5) hs5 ((hb.append (dg_byt _ _)).append htb)).mono ?_
          rintro e w6 ⟨rfl, hb6⟩
          have hB6 := hB5.trans (hb6.mono hB5.size)
          have hso6 := ((hso3.stays hb4).stays hb5).stays hb6
          clear hown4 hown5 hs4 hs5 hso3
          go_wp2_with fail
          refine (word_any n h0 h1 (hv.stays hB6) (by omega)).mono ?_
          rintro e w7 ⟨s7, rfl, hown7, hb7⟩
          have hB7 := hB6.trans (hb7.mono hB6.size)
          go_wp2_with fail
          refine (rword_any n h0 h1 (hso6.stays hb7) (by omega)).mono ?_
          rintro e w8 ⟨s8, rfl, hown8, hb8⟩
          have hB8 := hB7.trans (hb8.mono hB7.size)
          obtain ⟨b7, _, hs7⟩ := own_sl hown7
          obtain ⟨b8, _, hs8⟩ := own_sl hown8
          go_wp2_with fail
          refine (same_eq (hs7.stays hb8) hs8 (hb.append (wd_byt _ _))).mono ?_
          rintro e w9 ⟨rfl, hb9⟩
          have hB9 := hB8.trans (hb9.mono hB8.size)
          have hso9 := ((hso6.stays hb7).stays hb8).stays hb9
          clear hown7 hown8 hs7 hs8 hso6
          go_wp2_with fail
          go_loopg [12] ns.length (fun g i wr => ∃ k : Nat, k ≤ ns.length ∧ g = ns.length - k ∧ i = .int .i64 k ∧ Below w9.heap.size w9 wr)
          case atStart => exact ⟨0, Nat.zero_le _, rfl, rfl, Below.refl _ _⟩
          case round =>
            obtain ⟨k, hk, hg, rfl, hbr⟩ := hrel
            have HG : Hid (gk = ns.length - k) := hg
            clear hg
            have hBr := hB9.trans (hbr.mono hB9.size)
            by_cases hkl : k < ns.length
            · obtain ⟨x, hx⟩ : ∃ x, ns[k]? = some x := ⟨ns[k], List.getElem?_eq_getElem hkl⟩
              obtain ⟨off, rfl, hcl, hce⟩ := EL.out k x hx
              obtain ⟨hx0, hx1⟩ := hN.at hx
              have hx9 := lenN_bd x
              have hce' := (hBr.cell (p := ⟨c, off + k, none⟩) hcl).trans hce
              have hki : (k : Int) < (ns.length : Int) := by omega
              clear hx hce
              go_wp2_with fail
              go_quiet (first
                | (go_at_call 16; exact Calls.quiet_of_same (len_any x _ hx0))
                | (go_at_call 17; exact Calls.quiet_of_same (rlen_any x _ hx0 hx1)))
              go_wp2
              go_roundg (ns.length - (k + 1))
              case measure => rw [HG.out]; omega
              case rel => exact ⟨k + 1, by omega, rfl, by go_num, hbr.trans (below_drewN _ _ _)⟩
            · go_wp2_with fail
              refine (same_eq (hv.stays hBr) (hso9.stays hbr) hb).mono ?_
              rintro e w10 ⟨rfl, hb10⟩
              have hB10 := hBr.trans (hb10.mono hBr.size)
              go_wp2_with fail
              refine (key_any s _ hs).mono ?_
              rintro e w11 ⟨rfl, hw⟩
              have hw := hw.symm
              subst hw
              go_wp2_with fail
              refine (rkey_any s _ hs).mono ?_
              rintro e w11 ⟨rfl, hw⟩
              have hw := hw.symm
              subst hw
              go_wp2_with fail
              refine (works_any _).mono ?_
              rintro e w12 ⟨rfl, hb12⟩
              go_wp2
              go_ret
              exact ⟨rfl, hB10.trans (hb12.mono hB10.size)⟩
        · go_enter Try.func3, Try.ntmps3
          go_wp2_with (first
            | (go_at_call 7; refine (show Calls _ _ _ _ _ from K7).mono ?_; rintro e w' ⟨rfl, hw⟩; have hw := hw.symm; subst hw)
            | (go_at_call 8; refine (works_any _).mono ?_; rintro e w1 ⟨rfl, hb1⟩))
          go_ret
          exact ⟨rfl, hb1⟩
      · go_enter Try.func3, Try.ntmps3
        go_wp2_with (first
          | (go_at_call 7; refine (show Calls _ _ _ _ _ from K7).mono ?_; rintro e w' ⟨rfl, hw⟩; have hw := hw.symm; subst hw)
          | (go_at_call 8; refine (works_any _).mono ?_; rintro e w1 ⟨rfl, hb1⟩))
        go_ret
        exact ⟨rfl, hb1⟩
    · go_enter Try.func3, Try.ntmps3
      go_wp2_with (first
        | (go_at_call 7; refine (show Calls _ _ _ _ _ from K7).mono ?_; rintro e w' ⟨rfl, hw⟩; have hw := hw.symm; subst hw)
        | (go_at_call 8; refine (works_any _).mono ?_; rintro e w1 ⟨rfl, hb1⟩))
      go_ret
      exact ⟨rfl, hb1⟩
  · have C7 := few_false hu (by simpa using hf)
    have K7 : Hid (Calls Try.prog 7 #[.slice pu ns.length capu] w fun e w' => e = .returned (.bool false) ∧ w' = w) := C7
    clear C7 hf hn
    go_enter Try.func3, Try.ntmps3
    go_wp2_with (first
      | (go_at_call 7; refine (show Calls _ _ _ _ _ from K7).mono ?_; rintro e w' ⟨rfl, hw⟩; have hw := hw.symm; subst hw)
      | (go_at_call 8; refine (works_any _).mono ?_; rintro e w1 ⟨rfl, hb1⟩))
    go_ret
    exact ⟨rfl, hb1⟩
end Go.Proofs.Ytjjafiibbbhnkaa
