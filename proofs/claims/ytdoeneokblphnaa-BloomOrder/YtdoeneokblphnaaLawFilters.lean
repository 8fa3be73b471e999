/-
  The walk of the law BloomFilters.
-/
import Derived.Test.YtdoeneokblphnaaWorks
namespace Go.Proofs.Ytdoeneokblphnaa
open Go.RowKit

theorem own_empty (w : World) : (w.alloc (.cells #[] 22)).ownsRow w.heap.size 22 1 (.slice (some ⟨w.heap.size, 0, none⟩) 0 0) 0 [] :=
  ⟨rfl, .inr ⟨w.heap.size, 0, #[], rfl, Nat.le_refl _, heap_alloc_new w _, Nat.le_refl _, by unfold maxLen; omega, rfl, rfl⟩⟩
theorem hs_lt {l : List ByteArray} : ∀ x ∈ hs l, x < 18446744073709551616 := by
  intro x hx
  obtain ⟨s, _, rfl⟩ := List.mem_map.1 hx
  exact hash_lt _
theorem hs_length (l : List ByteArray) : (hs l).length = l.length := by simp [hs]
theorem made_below {w w' : World} {o : Obj} (h : (w.alloc o).grownBy w' (some w.heap.size)) : Below w.heap.size w w' :=
  ((Below.refl _ _).alloc (Nat.le_refl _) _).grown h (by simp) (fun k hk => by cases hk; exact Nat.le_refl _)

theorem heap_row {w w' : World} {b : Nat} {o : Obj} {row : Option Nat} (h : w.heap[b]? = some o) (hg : w.grownBy w' row) (hne : ∀ k, row = some k → b ≠ k) : w'.heap[b]? = some o := by
  rw [hg.block b (lt_of_block h) (fun e => hne b e.symm rfl)]; exact h

set_option maxHeartbeats 4000000 in
set_option maxRecDepth 10000 in
theorem filters_any {w : World} {bl0 bm : Nat} {v u : Value} {l m : List ByteArray} (n : Nat) (hn : n < 18446744073709551616) (hl : SlAt w bl0 v (S l)) (hlk : ∀ k ∈ l, k.size ≤ maxLen) (hm : SlAt w bm u (S m)) (hmk : ∀ k ∈ m, k.size ≤ maxLen) :
    Calls Try.prog 4 #[v, u, .int .u64 (n : Int)] w fun e w' => e = .returned (.bool true) ∧ Below w.heap.size w w' := by
  have KW := hid2 (works_any w)
  have S1 := hid2 (short_any hl hlk)
  have S2 := hid2 (short_any hm hmk)
  cases h1 : shortB l
  · rw [h1] at S1
    clear h1
    go_enter Try.func4, Try.ntmps4
    go_wp2_with fail
    refine (show Calls _ _ _ _ _ from S1.out).mono ?_
    rintro e w1 ⟨rfl, hw⟩
    cases hw
    go_wp2_with fail
    refine (show Calls _ _ _ _ _ from KW.out).mono ?_
    rintro e w1 ⟨rfl, hw⟩
    go_wp2
    go_ret
    exact ⟨rfl, hw⟩
  · cases h2 : shortB m
    · rw [h1] at S1
      rw [h2] at S2
      clear h1 h2
      go_enter Try.func4, Try.ntmps4
      go_wp2_with fail
      refine (show Calls _ _ _ _ _ from S1.out).mono ?_
      rintro e w1 ⟨rfl, hw⟩
      cases hw
      go_wp2_with fail
      refine (show Calls _ _ _ _ _ from S2.out).mono ?_
      rintro e w1 ⟨rfl, hw⟩
      cases hw
      go_wp2_with fail
      refine (show Calls _ _ _ _ _ from KW.out).mono ?_
      rintro e w1 ⟨rfl, hw⟩
      go_wp2
      go_ret
      exact ⟨rfl, hw⟩
    · have l60 := short_len h1
      have m60 := short_len h2
      have lk : Hid (∀ k ∈ l, k.size ≤ 200) := fun k hk => by
        obtain ⟨i, hi⟩ := List.mem_iff_getElem?.1 hk
        exact short_key h1 hi
      have mk : Hid (∀ k ∈ m, k.size ≤ 200) := fun k hk => by
        obtain ⟨i, hi⟩ := List.mem_iff_getElem?.1 hk
        exact short_key h2 hi
      rw [h1] at S1
      rw [h2] at S2
      obtain ⟨fx, fy, hf⟩ := pair_split (ofF (hs l))
      obtain ⟨gx, gy, hg⟩ := pair_split (ofF (hs m))
      have wf := wide_ofF (hs l)
      have wg := wide_ofF (hs m)
      have hb := both_ofF (hs l) (hs m)
      have cf := count_ofF (hs l)
      have cx := count_ofF (hs l ++ hs m)
      have mf := mayB_ofF (hs l) n
      have mx := mayB_ofF (hs l ++ hs m) n
      rw [← hb] at cx mx
      rw [hf] at wf hb cf mf cx mx
      rw [hg] at wg hb cx mx
      have HF := hid2 hf
      have HG := hid2 hg
      have HL := hid2 hl
      have HM := hid2 hm
      clear h1 h2 hf hg hl hm KW hlk hmk
      go_enter Try.func4, Try.ntmps4
      go_wp2_with fail
      refine (show Calls _ _ _ _ _ from S1.out).mono ?_
      rintro e w1 ⟨rfl, hw⟩
      cases hw
      go_wp2_with fail
      refine (show Calls _ _ _ _ _ from S2.out).mono ?_
      rintro e w1 ⟨rfl, hw⟩
      cases hw
      go_wp2_with fail
      refine (rkeys_any HL.out lk.out (by omega)).mono ?_
      rintro e w1 ⟨sa, rfl, oa, B1⟩
      go_wp2_with fail
      refine (rkeys_any (HM.out.stays B1) mk.out (by omega)).mono ?_
      rintro e w2 ⟨sb, rfl, ob, B2⟩
      have D2 := B1.trans (B2.mono B1.size)
      have oa2 := own_below oa B2
      clear S1 S2 oa
      go_wp2_with fail
      refine (of_any (HL.out.stays D2) lk.out (by omega) HF.out).mono ?_
      rintro e w3 ⟨rfl, B3⟩
      have D3 := D2.trans (B3.mono D2.size)
      go_wp2_with fail
      refine (of_any (HM.out.stays D3) mk.out (by omega) HG.out).mono ?_
      rintro e w4 ⟨rfl, B4⟩
      have D4 := D3.trans (B4.mono D3.size)
      have oa4 := own_below (own_below oa2 B3) B4
      have ob4 := own_below (own_below ob B3) B4
      clear oa2 ob
      obtain ⟨ba, _, ha4⟩ := own_sl oa4
      obtain ⟨bb, _, hb4⟩ := own_sl ob4
      have A5 : Below w4.heap.size w4 (((w4.alloc (.cells #[.int .u64 (fx : Int), .int .u64 (fy : Int)] 33)).alloc (.cells #[.int .u64 (gx : Int), .int .u64 (gy : Int)] 33)).alloc (.cells #[] 22)) := by go_grown
      have hE := own_empty ((w4.alloc (.cells #[.int .u64 (fx : Int), .int .u64 (fy : Int)] 33)).alloc (.cells #[.int .u64 (gx : Int), .int .u64 (gy : Int)] 33))
      rw [show ((w4.alloc (.cells #[.int .u64 (fx : Int), .int .u64 (fy : Int)] 33)).alloc (.cells #[.int .u64 (gx : Int), .int .u64 (gy : Int)] 33)).heap.size = w4.heap.size + 1 + 1 by simp] at hE
      have z1 : (((w4.alloc (.cells #[.int .u64 (fx : Int), .int .u64 (fy : Int)] 33)).alloc (.cells #[.int .u64 (gx : Int), .int .u64 (gy : Int)] 33)).alloc (.cells #[] 22)).heap[w4.heap.size]? = some (.cells #[.int .u64 (fx : Int), .int .u64 (fy : Int)] 33 (0, 0)) := by
        rw [Below.heap_alloc _ _ _ (by simp; omega), Below.heap_alloc _ _ _ (by simp)]; exact heap_alloc_new w4 _
      have z2 : (((w4.alloc (.cells #[.int .u64 (fx : Int), .int .u64 (fy : Int)] 33)).alloc (.cells #[.int .u64 (gx : Int), .int .u64 (gy : Int)] 33)).alloc (.cells #[] 22)).heap[w4.heap.size + 1]? = some (.cells #[.int .u64 (gx : Int), .int .u64 (gy : Int)] 33 (0, 0)) := by
        rw [Below.heap_alloc _ _ _ (by simp)]
        have := heap_alloc_new (w4.alloc (.cells #[.int .u64 (fx : Int), .int .u64 (fy : Int)] 33)) (.cells #[.int .u64 (gx : Int), .int .u64 (gy : Int)] 33)
        rw [show (w4.alloc (.cells #[.int .u64 (fx : Int), .int .u64 (fy : Int)] 33)).heap.size = w4.heap.size + 1 by simp] at this
        exact this
      have hsz5 : (((w4.alloc (.cells #[.int .u64 (fx : Int), .int .u64 (fy : Int)] 33)).alloc (.cells #[.int .u64 (gx : Int), .int .u64 (gy : Int)] 33)).alloc (.cells #[] 22)).heap.size = w4.heap.size + 3 := by simp
      have HA4 := hid2 ha4
      have HB4 := hid2 hb4
      have ha5 := ha4.stays A5
      have hb5 := hb4.stays A5
      have hll := hs_length l
      have hml := hs_length m
      have HA5 := hid2 A5
      clear oa4 ob4 ha4 hb4 A5
      obtain ⟨pa, ca, ea, _, _⟩ := ha5.form
      obtain ⟨pb, cb, eb, _, _⟩ := hb5.form
      rw [U_length, hll] at ea
      rw [U_length, hml] at eb
      subst ea
      subst eb
      go_wp2_with (first
        | (at_builtin; refine wpList_append_gen Try.underlying30 elem22 rfl (by decide) _ rfl _ _ rfl (w4.heap.size + 1 + 1) (.slice (some ⟨w4.heap.size + 1 + 1, 0, none⟩) 0 0) 0 [] rfl hE ba _ (U (hs l)) (U_one _) rfl ha5 (by rw [U_length, hll]; omega) (by rw [hsz5]; omega) ?_; intro v6 w6 hown6 hgrow6
           have hlo6 : ∀ k, (Value.slice (some ⟨w4.heap.size + 1 + 1, 0, none⟩) 0 0).ownBlock = some k → w4.heap.size + 1 + 1 ≤ k := (fun k hk => (hE.lt k hk).1)
           have y16 := heap_row z1 hgrow6 (fun k hk => by have := hlo6 k hk; omega)
           have y26 := heap_row z2 hgrow6 (fun k hk => by have := hlo6 k hk; omega)
           have B6 : Below w4.heap.size w4 w6 := HA5.out.grown hgrow6 HA5.out.size (fun k hk => by have := hlo6 k hk; omega)
           have hb6 := HB4.out.stays B6
           have hs6 : w4.heap.size + 1 + 1 ≤ w6.heap.size := Nat.le_trans (by rw [hsz5]; omega) hgrow6.size
           rw [List.nil_append, Nat.zero_add, U_length, hll] at hown6
           clear z1 z2 hE ha5 hb5 hsz5 hlo6 hgrow6)
        | (at_builtin; refine wpList_append_gen Try.underlying30 elem22 rfl (by decide) _ rfl _ _ rfl (w4.heap.size + 1 + 1) v6 l.length (U (hs l)) rfl hown6 bb _ (U (hs m)) (U_one _) rfl hb6 (by rw [U_length, hml]; omega) hs6 ?_; intro v7 w7 hown7 hgrow7
           have hlo7 : ∀ k, v6.ownBlock = some k → w4.heap.size + 1 + 1 ≤ k := (fun k hk => (hown6.lt k hk).1)
           have y17 := heap_row y16 hgrow7 (fun k hk => by have := hlo7 k hk; omega)
           have y27 := heap_row y26 hgrow7 (fun k hk => by have := hlo7 k hk; omega)
           have B7 : Below w4.heap.size w4 w7 := B6.grown hgrow7 B6.size (fun k hk => by have := hlo7 k hk; omega)
           rw [U_length, hml] at hown7
           obtain ⟨⟨q0, q1⟩, _⟩ := two33 y17
           obtain ⟨⟨q2, q3⟩, _⟩ := two33 y27
           have hl1 := lt_of_block y17
           have hl2 := lt_of_block y27
           clear y16 y26 hown6 hlo7 hgrow7 hb6 hs6 B6))
      have hw8 := wide_both wf wg
      have HX1 : Hid (bothF (fx, fy) (gx, gy) = (fx ||| gx, fy ||| gy)) := rfl
      rw [HX1.out] at hw8 hb cx mx
      have KB := hid2 (both_any w7 fx fy gx gy wf.1 wf.2 wg.1 wg.2)
      clear HX1
      generalize fx ||| gx = x1 at *
      generalize fy ||| gy = y1 at *
      have wf1 : fx < 18446744073709551616 := wf.1
      have wf2 : fy < 18446744073709551616 := wf.2
      have wx1 : x1 < 18446744073709551616 := hw8.1
      have wx2 : y1 < 18446744073709551616 := hw8.2
      obtain ⟨bx, _, hx7⟩ := own_sl hown7
      rw [← U_append] at hx7
      have HX7 := hid2 hx7
      have hlx : (hs l ++ hs m).length ≤ 200 := by rw [List.length_append, hll, hml]; omega
      have HXL : Hid (∀ z ∈ hs l ++ hs m, z < 18446744073709551616) := fun z hz => (List.mem_append.1 hz).elim (hs_lt z) (hs_lt z)
      have cf' : pop fx + pop fy = (setL (hs l)).length := cf
      have cx' : pop x1 + pop y1 = (setL (hs l ++ hs m)).length := cx
      have KC := hid2 (fun W => count_any W fx fy wf1 wf2)
      have KD := hid2 (fun W => count_any W x1 y1 wx1 wx2)
      rw [cf'] at KC
      rw [cx'] at KD
      have KM := hid2 (fun W => may_any W fx fy n wf1 wf2 hn)
      have KN := hid2 (fun W => may_any W x1 y1 n wx1 wx2 hn)
      rw [mf] at KM
      rw [mx] at KN
      have RM := hid2 (fun W (h : SlAt W ba (.slice pa l.length ca) (U (hs l))) => rmay_any n hn h (by rw [hll]; omega) hs_lt)
      have RN := hid2 (fun W (h : SlAt W bx v7 (U (hs l ++ hs m))) => rmay_any n hn h hlx HXL.out)
      have RS := hid2 (fun W (h : SlAt W ba (.slice pa l.length ca) (U (hs l))) => set_any h (by rw [hll]; omega) hs_lt)
      have RT := hid2 (fun W (h : SlAt W bx v7 (U (hs l ++ hs m))) => set_any h hlx HXL.out)
      have lf : (setL (hs l)).length ≤ 128 := by rw [← cf']; have := pop_le fx; have := pop_le fy; omega
      have lx : (setL (hs l ++ hs m)).length ≤ 128 := by rw [← cx']; have := pop_le x1; have := pop_le y1; omega
      generalize mayB (hs l) n = ma at *
      generalize mayB (hs l ++ hs m) n = mb at *
      generalize setL (hs l) = Sa at *
      generalize setL (hs l ++ hs m) = Sb at *
      have ema : (ma == ma) = true := by simp
      have emb : (mb == mb) = true := by simp
      have HY := hid2 y17
      have HB7 := hid2 B7
      have HA7 := hid2 (HA4.out.stays B7)
      have HD4 := hid2 D4
      clear hw8 hb cx mx cf mf wf wg cf' cx' hx7 hown7 y17 y27 B7 D4 q0 q1 q2 q3 hl1 hl2 HA4 HB4 HA5 HXL hll hml HF HG HL HM B1 B2 D2 B3 D3 B4
      refine (show Calls _ _ _ _ _ from KB.out).mono ?_
      rintro e w8 ⟨rfl, B8⟩
      have y18 := heap_stays HY.out B8
      obtain ⟨⟨q0, q1⟩, _⟩ := two33 y18
      have hl1 := lt_of_block y18
      have HY8 := hid2 y18
      have A8 : Below w8.heap.size w8 (w8.alloc (.cells #[.int .u64 (x1 : Int), .int .u64 (y1 : Int)] 33)) := by go_grown
      have X9 := hid2 (heap_alloc_new w8 (.cells #[.int .u64 (x1 : Int), .int .u64 (y1 : Int)] 33))
      have D9 : Below w7.heap.size w7 (w8.alloc (.cells #[.int .u64 (x1 : Int), .int .u64 (y1 : Int)] 33)) := B8.trans (A8.mono B8.size)
      have HA8 := hid2 A8
      clear KB y18 A8
      go_wp2_with fail
      obtain ⟨w9, hw9⟩ : ∃ w9, w9 = w8.alloc (.cells #[.int .u64 (x1 : Int), .int .u64 (y1 : Int)] 33) := ⟨_, rfl⟩
      rw [← hw9] at D9 HA8 X9 ⊢
      have HY9 := hid2 (heap_stays HY8.out HA8.out)
      obtain ⟨tb, htb⟩ : ∃ tb, tb = w4.heap.size := ⟨_, rfl⟩
      obtain ⟨xb, hxb⟩ : ∃ xb, xb = w8.heap.size := ⟨_, rfl⟩
      rw [← htb] at HY9
      rw [← hxb] at X9
      rw [← htb, ← hxb]
      clear hw9 htb hxb q0 q1 hl1 HY8 HA8 B8
      have C9 : Below w9.heap.size w9 w9 := Below.refl _ _
      refine (show Calls _ _ _ _ _ from KM.out _).mono ?_
      rintro e w10 ⟨rfl, B10⟩
      have D10 := D9.trans (B10.mono D9.size)
      have C10 := C9.trans (B10.mono C9.size)
      go_wp2_with fail
      refine (show Calls _ _ _ _ _ from RM.out _ (HA7.out.stays D10)).mono ?_
      rintro e w11 ⟨rfl, B11⟩
      have D11 := D10.trans (B11.mono D10.size)
      have C11 := C10.trans (B11.mono C10.size)
      have z11 := heap_stays HY9.out C11
      obtain ⟨⟨q0, q1⟩, _⟩ := two33 z11
      have hl1 := lt_of_block z11
      go_wp2_with fail
      clear q0 q1 hl1 z11
      refine (show Calls _ _ _ _ _ from KC.out _).mono ?_
      rintro e w12 ⟨rfl, B12⟩
      have D12 := D11.trans (B12.mono D11.size)
      have C12 := C11.trans (B12.mono C11.size)
      go_wp2_with fail
      refine (show Calls _ _ _ _ _ from RS.out _ (HA7.out.stays D12)).mono ?_
      rintro e w13 ⟨sv13, rfl, ow13, B13⟩
      have D13 := D12.trans (B13.mono D12.size)
      have C13 := C12.trans (B13.mono C12.size)
      obtain ⟨b13, _, s13⟩ := own_sl ow13
      obtain ⟨p13, c13, e13, _, _⟩ := s13.form
      rw [I_length] at e13
      subst e13
      clear ow13 s13
      have z13 := heap_stays X9.out C13
      obtain ⟨⟨q0, q1⟩, _⟩ := two33 z13
      have hl1 := lt_of_block z13
      go_wp2_with fail
      clear q0 q1 hl1 z13
      refine (show Calls _ _ _ _ _ from KN.out _).mono ?_
      rintro e w14 ⟨rfl, B14⟩
      have D14 := D13.trans (B14.mono D13.size)
      have C14 := C13.trans (B14.mono C13.size)
      go_wp2_with fail
      refine (show Calls _ _ _ _ _ from RN.out _ (HX7.out.stays D14)).mono ?_
      rintro e w15 ⟨rfl, B15⟩
      have D15 := D14.trans (B15.mono D14.size)
      have C15 := C14.trans (B15.mono C14.size)
      have z15 := heap_stays X9.out C15
      obtain ⟨⟨q0, q1⟩, _⟩ := two33 z15
      have hl1 := lt_of_block z15
      go_wp2_with fail
      clear q0 q1 hl1 z15
      refine (show Calls _ _ _ _ _ from KD.out _).mono ?_
      rintro e w16 ⟨rfl, B16⟩
      have D16 := D15.trans (B16.mono D15.size)
      have C16 := C15.trans (B16.mono C15.size)
      go_wp2_with fail
      refine (show Calls _ _ _ _ _ from RT.out _ (HX7.out.stays D16)).mono ?_
      rintro e w17 ⟨sv17, rfl, ow17, B17⟩
      have D17 := D16.trans (B17.mono D16.size)
      have C17 := C16.trans (B17.mono C16.size)
      obtain ⟨b17, _, s17⟩ := own_sl ow17
      obtain ⟨p17, c17, e17, _, _⟩ := s17.form
      rw [I_length] at e17
      subst e17
      clear ow17 s17
      go_wp2_with fail
      refine (works_any w17).mono ?_
      rintro e w18 ⟨rfl, B18⟩
      go_wp2
      go_ret
      have D18 := HB7.out.trans ((D17.trans (B18.mono D17.size)).mono HB7.out.size)
      exact ⟨rfl, HD4.out.trans (D18.mono HD4.out.size)⟩
end Go.Proofs.Ytdoeneokblphnaa
