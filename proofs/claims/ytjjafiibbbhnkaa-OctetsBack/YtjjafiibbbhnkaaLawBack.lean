/-
  The walk of the law OctetsBack: whatever the numbers, the bytes, the word and what stands behind, the call answers true.
-/
import Derived.Test.YtjjafiibbbhnkaaBack
import Derived.Test.YtjjafiibbbhnkaaLawPuts
namespace Go.Proofs.Ytjjafiibbbhnkaa
open Go.RowKit

set_option maxHeartbeats 8000000 in
set_option maxRecDepth 10000 in
theorem lawBack_any {w : World} {c d f : Nat} {u t q : Value} {ns ts ms : List Int} (n : Int) (hu : SlAt w c u (I ns)) (ht : SlAt w d t (U ts)) (hq : SlAt w f q (U ms)) (hn : ∀ x ∈ ns, x ≤ 9223372036854775807) (htb : Byt ts) (hmb : Byt ms) (h0 : 0 ≤ n) (h1 : n ≤ 18446744073709551615) :
    Calls Try.prog 5 #[u, t, .int .u64 n, q] w fun e w' => e = .returned (.bool true) ∧ Below w.heap.size w w' := by
  obtain ⟨pu, capu, eu, u5, u6, hel⟩ := hu.each
  obtain ⟨pt, capt, et, t5, t6⟩ := ht.form
  obtain ⟨pq, capq, eq, q5, q6⟩ := hq.form
  rw [U_length] at et t5 eq q5
  rw [I_length] at eu u5
  unfold maxLen at u6 t6 q6
  subst eu et eq
  have EL : Hid (∀ (k : Nat) (x : Int), ns[k]? = some x → ∃ off, pu = some ⟨c, off, none⟩ ∧ c < w.heap.size ∧ w.cell? ⟨c, off + k, none⟩ = some (.int .i64 x)) := fun k x hx => hel k _ (I_at hx)
  clear hel
  by_cases hf : fewB ns = true
  · have C7 := few_true hu hf
    obtain ⟨hns, hn0⟩ := fewB_true hf
    have hN : Nat63 ns := fun x hx => ⟨hn0 x hx, hn x hx⟩
    have K7 : Hid (Calls Try.prog 7 #[.slice pu ns.length capu] w fun e w' => e = .returned (.bool true) ∧ w' = w) := C7
    clear C7 hf hn0 hn
    by_cases hlt : ts.length ≤ 1000
    · by_cases hlm : ms.length ≤ 1000
      · have hp9 := puts_length ns
        have hl9 := lenN_bd ts.length
        go_enter Try.func5, Try.ntmps5
        go_wp2_with (go_at_call 7; refine (show Calls _ _ _ _ _ from K7).mono ?_; rintro e w' ⟨rfl, hw⟩; have hw := hw.symm; subst hw)
        refine (put_any (bs := []) (SlAt.nil _ 0) hu hN hns (by simp)).mono ?_
        rw [List.nil_append]
        rintro e w1 ⟨s1, rfl, hown1, hB1⟩
        obtain ⟨b1, _, hs1⟩ := own_sl hown1
        clear hown1
        go_wp2_with fail
        refine (bytes_any hs1 (ht.stays hB1) hlt (by omega)).mono ?_
        rintro e w2 ⟨s2, rfl, hown2, hb2⟩
        obtain ⟨b2, _, hs2⟩ := own_sl hown2
        have hB2 := hB1.trans (hb2.mono hB1.size)
        clear hown2 hs1 hb2
        go_wp2_with fail
        refine (word_any n h0 h1 hs2 (by simp [dg_length]; omega)).mono ?_
        rintro e w3 ⟨s3, rfl, hown3, hb3⟩
        obtain ⟨b3, _, hs3⟩ := own_sl hown3
        have hB3 := hB2.trans (hb3.mono hB2.size)
        have hl3 : (puts ns ++ dg ts.length (lenN ts.length) ++ ts ++ wd n 8).length ≤ 2000 := by simp [dg_length, wd_length]; omega
        have BL : Hid (puts ns ++ dg ts.length (lenN ts.length) ++ ts ++ wd n 8 ++ ms = backL ns ts n ms) := rfl
        generalize puts ns ++ dg ts.length (lenN ts.length) ++ ts ++ wd n 8 = l3 at hs3 hl3 BL
        clear hown3 hs2 hb3
        go_wp2_with (first
          | (at_builtin; refine wpList_append_sl _ rfl _ _ rfl w3.heap.size (.slice (some ⟨w3.heap.size, 0, none⟩) 0 0) 0 [] rfl (own_empty_new w3) b3 _ l3 rfl (hs3.keeps (by simp) (fun hlt => Below.heap_alloc _ _ _ hlt)) (by omega) (by simp) ?_; intro v4 w4 hown4 hgrow4; have hB4 : Below w.heap.size w w4 := (hB3.alloc hB3.size _).grown hgrow4 (by simp; have := hB3.size; omega) (by simp [Value.ownBlock]; exact hB3.size))
          | (at_builtin; refine wpList_append_sl _ rfl _ _ rfl w3.heap.size v4 (0 + l3.length) ([] ++ U l3) rfl hown4 f _ ms rfl (hq.stays hB4) (by omega) (by have := hgrow4.size; simp at this; omega) ?_; intro v5 w5 hown5 hgrow5)
          | (go_at_call 20; fail))
        have hB5 : Below w.heap.size w w5 := hB4.grown hgrow5 hB4.size (fun k hk => Nat.le_trans hB3.size (hown4.lt k hk).1)
        obtain ⟨b5, _, hs5⟩ := own_sl hown5
        rw [List.nil_append, ← U_append, BL.out] at hs5
        have hfl := backL_len ns ts n ms
        have hfb := backL_byt ns ts n ms htb hmb
        have hF5 : (backL ns ts n ms).length ≤ 5000 := by omega
        have HF : Hid ((backL ns ts n ms).length = (puts ns).length + lenN ts.length + ts.length + 8 + ms.length) := hfl
        clear hown4 hown5 hgrow4 hgrow5 hs3 hB4 hB1 hB2 hB3 hfl
        refine (read_any hs5 hF5).mono ?_
        rintro e w6 ⟨g, rfl, hg, hrd6, hb6⟩
        have hB6 := hB5.trans (hb6.mono hB5.size)
        have hgw : w.heap.size ≤ g := Nat.le_trans hB5.size hg
        have KN : Hid (∀ (k : Nat) (x : Int), ns[k]? = some x → 0 ≤ x → x ≤ 4611686018427387904 → ∀ W, Rd W g (backL ns ts n ms) (puts (ns.take k)).length 0 → Calls Try.prog 22 #[.pointer (some ⟨g, 0, none⟩), .int .i64 4611686018427387904] W fun e w' => e = .returned (.int .i64 x) ∧ Rd w' g (backL ns ts n ms) (puts (ns.take (k + 1))).length 0 ∧ W.grownBy w' (some g)) := by
          intro k x hx hx0 hx1 W hW
          have := rdnumber_any 4611686018427387904 (by omega) (by omega) hW hfb hF5
          rwa [back_num hx hx0 hx1] at this
        have KM : Hid (∀ (a : Nat) (x : Int), 4611686018427387904 < x → ∀ W, Rd W g (backL ns ts n ms) a 0 → Calls Try.prog 22 #[.pointer (some ⟨g, 0, none⟩), .int .i64 4611686018427387904] W fun e w' => (∃ m, e = .returned (.int .i64 m) ∧ ¬ m = x) ∧ (∃ a c, Rd w' g (backL ns ts n ms) a c) ∧ W.grownBy w' (some g)) := by
          intro a x hx W hW
          refine (rdnumber_any 4611686018427387904 (by omega) (by omega) hW hfb hF5).mono ?_
          rintro e w' ⟨rfl, r1, r2⟩
          have := rdNum_le (backL ns ts n ms) a 0 4611686018427387904 (by omega) (by omega) hfb
          exact ⟨⟨_, rfl, by omega⟩, ⟨_, _, r1⟩, r2⟩
        clear hb6 hs5
        go_wp2_with fail
        go_loopg [11] ns.length (fun gg i wr => ∃ k : Nat, k ≤ ns.length ∧ gg = ns.length - k ∧ i = .int .i64 k ∧ Rd wr g (backL ns ts n ms) (puts (ns.take k)).length 0 ∧ Below w.heap.size w wr)
        case atStart => exact ⟨0, Nat.zero_le _, rfl, rfl, hrd6, hB6⟩
        case round =>
          clear hrd6 hB6
          obtain ⟨k, hk, hgg, rfl, hrd, hbr⟩ := hrel
          have HG : Hid (gk = ns.length - k) := hgg
          have hsz := hbr.size
          clear hgg
          by_cases hkl : k < ns.length
          · obtain ⟨x, hx⟩ : ∃ x, ns[k]? = some x := ⟨ns[k], List.getElem?_eq_getElem hkl⟩
            obtain ⟨off, rfl, hcl, hce⟩ := EL.out k x hx
            obtain ⟨hx0, hx1⟩ := hN.at hx
            have hcer := (hbr.cell (p := ⟨c, off + k, none⟩) hcl).trans hce
            have hced : wr.drew.cell? ⟨c, off + k, none⟩ = some (.int .i64 x) := hcer
            have hRdd : Rd wr.drew g (backL ns ts n ms) (puts (ns.take k)).length 0 := hrd.keeps ((Below.refl _ _).drew)
            have hki : (k : Int) < (ns.length : Int) := by omega
            have hk0 : (0 : Int) ≤ (k : Int) := by omega
            clear hce
            by_cases h62 : x ≤ 4611686018427387904
            · have KN : Hid (∀ W, Rd W g (backL ns ts n ms) (puts (ns.take k)).length 0 → Calls Try.prog 22 #[.pointer (some ⟨g, 0, none⟩), .int .i64 4611686018427387904] W fun e w' => e = .returned (.int .i64 x) ∧ Rd w' g (backL ns ts n ms) (puts (ns.take (k + 1))).length 0 ∧ W.grownBy w' (some g)) := KN.out k x hx hx0 h62
              have HX : Hid (ns[k]? = some x) := hx
              clear hx KM
              go_upto_region 10 with fail
              go_cut [61] (fun z wx => z = .bool false ∧ Rd wx g (backL ns ts n ms) (puts (ns.take (k + 1))).length 0 ∧ Below w.heap.size w wx)
              case first =>
                refine wp_region_any (by kernel_rfl) ?_
                change wpAny _ _ _ _ _ _ _ (World.drew _)
                refine wpAny_take (i := 0) (v := .pointer (some ⟨g, 0, none⟩)) rfl (by kernel_rfl) (by kernel_rfl) (by kernel_rfl) (fun _ _ _ h => h) (Or.inl ⟨by kernel_rfl, ?_⟩) ?_
                · intro w; go_simp
                change wpAny _ _ _ _ _ _ (Act.put _ (some 48) _) _
                simp only [Act.put, List.setIfInBounds_toArray, List.set_cons_succ, List.set_cons_zero]
                refine wpAny_take (i := 2) (v := .slice (some ⟨c, off, none⟩) ns.length capu) rfl (by kernel_rfl) (by kernel_rfl) (by kernel_rfl) (fun _ _ _ h => h) (Or.inl ⟨by kernel_rfl, ?_⟩) ?_
                · intro w; go_simp
                change wpAny _ _ _ _ _ _ (Act.put _ (some 50) _) _
                simp only [Act.put, List.setIfInBounds_toArray, List.set_cons_succ, List.set_cons_zero]
                refine wpAny_take (i := 3) (v := .int .i64 k) rfl (by kernel_rfl) (by kernel_rfl) (by kernel_rfl) (fun _ _ _ h => h) (Or.inl ⟨by kernel_rfl, ?_⟩) ?_
                · intro w; go_simp
                change wpAny _ _ _ _ _ _ (Act.put _ (some 51) _) _
                simp only [Act.put, List.setIfInBounds_toArray, List.set_cons_succ, List.set_cons_zero]
                refine wpAny_take (i := 4) (v := .pointer (some ⟨c, off + k, none⟩)) rfl (by kernel_rfl) (by kernel_rfl) (by kernel_rfl) (fun _ _ _ h => h) (Or.inl ⟨by kernel_rfl, ?_⟩) ?_
                · intro w; go_simp
                change wpAny _ _ _ _ _ _ (Act.put _ (some 52) _) _
                simp only [Act.put, List.setIfInBounds_toArray, List.set_cons_succ, List.set_cons_zero]
                refine wpAny_ready (rs := [1, 5]) (by kernel_rfl) (by simp) ?_
                refine AllReady.cons rfl (fun K hK => ?_) (AllReady.cons rfl (fun K hK => ?_) AllReady.nil)
                · go_simp
                  go_wp2_with (go_at_call 22; refine (KN.out _ hRdd).mono ?_; rintro e w2 ⟨rfl, hrd2, hg2⟩; have hce2 := hg2.cell hced (by simp; omega))
                  refine wpAny_ready (rs := [5]) (by kernel_rfl) (by simp) ?_
                  refine AllReady.cons rfl (fun K hK => ?_) AllReady.nil
                  go_simp
                  go_wp2_with (fail)
                  refine wpAny_take (i := 6) (v := .bool false) rfl (by kernel_rfl) (by kernel_rfl) (by kernel_rfl) (fun _ _ _ h => h) (Or.inl ⟨by kernel_rfl, ?_⟩) ?_
                  · intro w; go_simp
                  change wpAny _ _ _ _ _ _ (Act.put _ (some 54) _) _
                  simp only [Act.put, List.setIfInBounds_toArray, List.set_cons_succ, List.set_cons_zero]
                  refine wpAny_take (i := 7) (v := .bool false) rfl (by kernel_rfl) (by kernel_rfl) (by kernel_rfl) (fun _ _ _ h => h) (Or.inl ⟨by kernel_rfl, ?_⟩) ?_
                  · intro w; go_simp
                  change wpAny _ _ _ _ _ _ (Act.put _ (some 55) _) _
                  simp only [Act.put, List.setIfInBounds_toArray, List.set_cons_succ, List.set_cons_zero]
                  refine wpAny_take (i := 8) (v := undef) rfl (by kernel_rfl) (by kernel_rfl) (by kernel_rfl) (fun _ _ _ h => h) (Or.inr ⟨by kernel_rfl, rfl⟩) ?_
                  change wpAny _ _ _ _ _ _ (Act.put _ (some 56) _) _
                  simp only [Act.put, List.setIfInBounds_toArray, List.set_cons_succ, List.set_cons_zero]
                  refine wpAny_take (i := 9) (v := undef) rfl (by kernel_rfl) (by kernel_rfl) (by kernel_rfl) (fun _ _ _ h => h) (Or.inr ⟨by kernel_rfl, rfl⟩) ?_
                  change wpAny _ _ _ _ _ _ (Act.put _ (some 57) _) _
                  simp only [Act.put, List.setIfInBounds_toArray, List.set_cons_succ, List.set_cons_zero]
                  refine wpAny_take (i := 10) (v := undef) rfl (by kernel_rfl) (by kernel_rfl) (by kernel_rfl) (fun _ _ _ h => h) (Or.inr ⟨by kernel_rfl, rfl⟩) ?_
                  change wpAny _ _ _ _ _ _ (Act.put _ (some 58) _) _
                  simp only [Act.put, List.setIfInBounds_toArray, List.set_cons_succ, List.set_cons_zero]
                  refine wpAny_take (i := 11) (v := undef) rfl (by kernel_rfl) (by kernel_rfl) (by kernel_rfl) (fun _ _ _ h => h) (Or.inr ⟨by kernel_rfl, rfl⟩) ?_
                  change wpAny _ _ _ _ _ _ (Act.put _ (some 59) _) _
                  simp only [Act.put, List.setIfInBounds_toArray, List.set_cons_succ, List.set_cons_zero]
                  refine wpAny_take (i := 12) (v := undef) rfl (by kernel_rfl) (by kernel_rfl) (by kernel_rfl) (fun _ _ _ h => h) (Or.inr ⟨by kernel_rfl, rfl⟩) ?_
                  change wpAny _ _ _ _ _ _ (Act.put _ (some 60) _) _
                  simp only [Act.put, List.setIfInBounds_toArray, List.set_cons_succ, List.set_cons_zero]
                  refine wpAny_take (i := 13) (v := .bool false) rfl (by kernel_rfl) (by kernel_rfl) (by kernel_rfl) (fun _ _ _ h => h) (Or.inl ⟨by kernel_rfl, ?_⟩) ?_
                  · intro w; go_simp
                  change wpAny _ _ _ _ _ _ (Act.put _ (some 61) _) _
                  simp only [Act.put, List.setIfInBounds_toArray, List.set_cons_succ, List.set_cons_zero]
                  refine wpAny_done (by kernel_rfl) ?_ _
                  go_wp2_with fail
                  go_meet
                  exact ⟨rfl, hrd2, (hbr.drew).grown hg2 hsz (by simp; omega)⟩
                · go_simp
                  go_wp2_with (fail)
                  refine wpAny_ready (rs := [1]) (by kernel_rfl) (by simp) ?_
                  refine AllReady.cons rfl (fun K hK => ?_) AllReady.nil
                  go_simp
                  go_wp2_with (go_at_call 22; refine (KN.out _ hRdd).mono ?_; rintro e w2 ⟨rfl, hrd2, hg2⟩; have hce2 := hg2.cell hced (by simp; omega))
                  refine wpAny_take (i := 6) (v := .bool false) rfl (by kernel_rfl) (by kernel_rfl) (by kernel_rfl) (fun _ _ _ h => h) (Or.inl ⟨by kernel_rfl, ?_⟩) ?_
                  · intro w; go_simp
                  change wpAny _ _ _ _ _ _ (Act.put _ (some 54) _) _
                  simp only [Act.put, List.setIfInBounds_toArray, List.set_cons_succ, List.set_cons_zero]
                  refine wpAny_take (i := 7) (v := .bool false) rfl (by kernel_rfl) (by kernel_rfl) (by kernel_rfl) (fun _ _ _ h => h) (Or.inl ⟨by kernel_rfl, ?_⟩) ?_
                  · intro w; go_simp
                  change wpAny _ _ _ _ _ _ (Act.put _ (some 55) _) _
                  simp only [Act.put, List.setIfInBounds_toArray, List.set_cons_succ, List.set_cons_zero]
                  refine wpAny_take (i := 8) (v := undef) rfl (by kernel_rfl) (by kernel_rfl) (by kernel_rfl) (fun _ _ _ h => h) (Or.inr ⟨by kernel_rfl, rfl⟩) ?_
                  change wpAny _ _ _ _ _ _ (Act.put _ (some 56) _) _
                  simp only [Act.put, List.setIfInBounds_toArray, List.set_cons_succ, List.set_cons_zero]
                  refine wpAny_take (i := 9) (v := undef) rfl (by kernel_rfl) (by kernel_rfl) (by kernel_rfl) (fun _ _ _ h => h) (Or.inr ⟨by kernel_rfl, rfl⟩) ?_
                  change wpAny _ _ _ _ _ _ (Act.put _ (some 57) _) _
                  simp only [Act.put, List.setIfInBounds_toArray, List.set_cons_succ, List.set_cons_zero]
                  refine wpAny_take (i := 10) (v := undef) rfl (by kernel_rfl) (by kernel_rfl) (by kernel_rfl) (fun _ _ _ h => h) (Or.inr ⟨by kernel_rfl, rfl⟩) ?_
                  change wpAny _ _ _ _ _ _ (Act.put _ (some 58) _) _
                  simp only [Act.put, List.setIfInBounds_toArray, List.set_cons_succ, List.set_cons_zero]
                  refine wpAny_take (i := 11) (v := undef) rfl (by kernel_rfl) (by kernel_rfl) (by kernel_rfl) (fun _ _ _ h => h) (Or.inr ⟨by kernel_rfl, rfl⟩) ?_
                  change wpAny _ _ _ _ _ _ (Act.put _ (some 59) _) _
                  simp only [Act.put, List.setIfInBounds_toArray, List.set_cons_succ, List.set_cons_zero]
                  refine wpAny_take (i := 12) (v := undef) rfl (by kernel_rfl) (by kernel_rfl) (by kernel_rfl) (fun _ _ _ h => h) (Or.inr ⟨by kernel_rfl, rfl⟩) ?_
                  change wpAny _ _ _ _ _ _ (Act.put _ (some 60) _) _
                  simp only [Act.put, List.setIfInBounds_toArray, List.set_cons_succ, List.set_cons_zero]
                  refine wpAny_take (i := 13) (v := .bool false) rfl (by kernel_rfl) (by kernel_rfl) (by kernel_rfl) (fun _ _ _ h => h) (Or.inl ⟨by kernel_rfl, ?_⟩) ?_
                  · intro w; go_simp
                  change wpAny _ _ _ _ _ _ (Act.put _ (some 61) _) _
                  simp only [Act.put, List.setIfInBounds_toArray, List.set_cons_succ, List.set_cons_zero]
                  refine wpAny_done (by kernel_rfl) ?_ _
                  go_wp2_with fail
                  go_meet
                  exact ⟨rfl, hrd2, (hbr.drew).grown hg2 hsz (by simp; omega)⟩
              case rest =>
                obtain ⟨rfl, hrd3, hb3⟩ := hcut
                have hce3 := (hb3.cell (p := ⟨c, off + k, none⟩) hcl).trans ((hbr.cell (p := ⟨c, off + k, none⟩) hcl).symm.trans hcer)
                clear hced hcer hRdd
                go_wp2
                go_roundg (ns.length - (k + 1))
                case measure => rw [HG.out]; omega
                case rel => exact ⟨k + 1, by omega, rfl, by go_num, hrd3, hb3⟩
            · have KM : Hid (∀ W, Rd W g (backL ns ts n ms) (puts (ns.take k)).length 0 → Calls Try.prog 22 #[.pointer (some ⟨g, 0, none⟩), .int .i64 4611686018427387904] W fun e w' => (∃ m, e = .returned (.int .i64 m) ∧ ¬ m = x) ∧ (∃ a c, Rd w' g (backL ns ts n ms) a c) ∧ W.grownBy w' (some g)) := KM.out _ x (by omega)
              clear hx KN
              go_upto_region 10 with fail
              go_cut [61] (fun z wx => z = .bool false ∧ Below w.heap.size w wx)
              case first =>
                refine wp_region_any (by kernel_rfl) ?_
                change wpAny _ _ _ _ _ _ _ (World.drew _)
                refine wpAny_take (i := 0) (v := .pointer (some ⟨g, 0, none⟩)) rfl (by kernel_rfl) (by kernel_rfl) (by kernel_rfl) (fun _ _ _ h => h) (Or.inl ⟨by kernel_rfl, ?_⟩) ?_
                · intro w; go_simp
                change wpAny _ _ _ _ _ _ (Act.put _ (some 48) _) _
                simp only [Act.put, List.setIfInBounds_toArray, List.set_cons_succ, List.set_cons_zero]
                refine wpAny_take (i := 2) (v := .slice (some ⟨c, off, none⟩) ns.length capu) rfl (by kernel_rfl) (by kernel_rfl) (by kernel_rfl) (fun _ _ _ h => h) (Or.inl ⟨by kernel_rfl, ?_⟩) ?_
                · intro w; go_simp
                change wpAny _ _ _ _ _ _ (Act.put _ (some 50) _) _
                simp only [Act.put, List.setIfInBounds_toArray, List.set_cons_succ, List.set_cons_zero]
                refine wpAny_take (i := 3) (v := .int .i64 k) rfl (by kernel_rfl) (by kernel_rfl) (by kernel_rfl) (fun _ _ _ h => h) (Or.inl ⟨by kernel_rfl, ?_⟩) ?_
                · intro w; go_simp
                change wpAny _ _ _ _ _ _ (Act.put _ (some 51) _) _
                simp only [Act.put, List.setIfInBounds_toArray, List.set_cons_succ, List.set_cons_zero]
                refine wpAny_take (i := 4) (v := .pointer (some ⟨c, off + k, none⟩)) rfl (by kernel_rfl) (by kernel_rfl) (by kernel_rfl) (fun _ _ _ h => h) (Or.inl ⟨by kernel_rfl, ?_⟩) ?_
                · intro w; go_simp
                change wpAny _ _ _ _ _ _ (Act.put _ (some 52) _) _
                simp only [Act.put, List.setIfInBounds_toArray, List.set_cons_succ, List.set_cons_zero]
                refine wpAny_ready (rs := [1, 5]) (by kernel_rfl) (by simp) ?_
                refine AllReady.cons rfl (fun K hK => ?_) (AllReady.cons rfl (fun K hK => ?_) AllReady.nil)
                · go_simp
                  go_wp2_with (go_at_call 22; refine (KM.out _ hRdd).mono ?_; rintro e w2 ⟨⟨m, rfl, hne⟩, hrd2, hg2⟩; have hce2 := hg2.cell hced (by simp; omega))
                  refine wpAny_ready (rs := [5]) (by kernel_rfl) (by simp) ?_
                  refine AllReady.cons rfl (fun K hK => ?_) AllReady.nil
                  go_simp
                  go_wp2_with (fail)
                  refine wpAny_take (i := 6) (v := .bool true) rfl (by kernel_rfl) (by kernel_rfl) (by kernel_rfl) (fun _ _ _ h => h) (Or.inl ⟨by kernel_rfl, ?_⟩) ?_
                  · intro w; go_simp
                  change wpAny _ _ _ _ _ _ (Act.put _ (some 54) _) _
                  simp only [Act.put, List.setIfInBounds_toArray, List.set_cons_succ, List.set_cons_zero]
                  refine wpAny_take (i := 7) (v := .bool true) rfl (by kernel_rfl) (by kernel_rfl) (by kernel_rfl) (fun _ _ _ h => h) (Or.inl ⟨by kernel_rfl, ?_⟩) ?_
                  · intro w; go_simp
                  change wpAny _ _ _ _ _ _ (Act.put _ (some 55) _) _
                  simp only [Act.put, List.setIfInBounds_toArray, List.set_cons_succ, List.set_cons_zero]
                  refine wpAny_take (i := 8) (v := .slice (some ⟨c, off, none⟩) ns.length capu) rfl (by kernel_rfl) (by kernel_rfl) (by kernel_rfl) (fun _ _ _ h => h) (Or.inl ⟨by kernel_rfl, ?_⟩) ?_
                  · intro w; go_simp
                  change wpAny _ _ _ _ _ _ (Act.put _ (some 56) _) _
                  simp only [Act.put, List.setIfInBounds_toArray, List.set_cons_succ, List.set_cons_zero]
                  refine wpAny_take (i := 9) (v := .int .i64 k) rfl (by kernel_rfl) (by kernel_rfl) (by kernel_rfl) (fun _ _ _ h => h) (Or.inl ⟨by kernel_rfl, ?_⟩) ?_
                  · intro w; go_simp
                  change wpAny _ _ _ _ _ _ (Act.put _ (some 57) _) _
                  simp only [Act.put, List.setIfInBounds_toArray, List.set_cons_succ, List.set_cons_zero]
                  refine wpAny_take (i := 10) (v := .pointer (some ⟨c, off + k, none⟩)) rfl (by kernel_rfl) (by kernel_rfl) (by kernel_rfl) (fun _ _ _ h => h) (Or.inl ⟨by kernel_rfl, ?_⟩) ?_
                  · intro w; go_simp
                  change wpAny _ _ _ _ _ _ (Act.put _ (some 58) _) _
                  simp only [Act.put, List.setIfInBounds_toArray, List.set_cons_succ, List.set_cons_zero]
                  refine wpAny_ready (rs := [11]) (by kernel_rfl) (by simp) ?_
                  refine AllReady.cons rfl (fun K hK => ?_) AllReady.nil
                  go_simp
                  go_wp2_with (fail)
                  refine wpAny_take (i := 12) (v := .bool false) rfl (by kernel_rfl) (by kernel_rfl) (by kernel_rfl) (fun _ _ _ h => h) (Or.inl ⟨by kernel_rfl, ?_⟩) ?_
                  · intro w; go_simp
                  change wpAny _ _ _ _ _ _ (Act.put _ (some 60) _) _
                  simp only [Act.put, List.setIfInBounds_toArray, List.set_cons_succ, List.set_cons_zero]
                  refine wpAny_take (i := 13) (v := .bool false) rfl (by kernel_rfl) (by kernel_rfl) (by kernel_rfl) (fun _ _ _ h => h) (Or.inl ⟨by kernel_rfl, ?_⟩) ?_
                  · intro w; go_simp
                  change wpAny _ _ _ _ _ _ (Act.put _ (some 61) _) _
                  simp only [Act.put, List.setIfInBounds_toArray, List.set_cons_succ, List.set_cons_zero]
                  refine wpAny_done (by kernel_rfl) ?_ _
                  go_wp2_with fail
                  go_meet
                  exact ⟨rfl, (hbr.drew).grown hg2 hsz (by simp; omega)⟩
                · go_simp
                  go_wp2_with (fail)
                  refine wpAny_ready (rs := [1]) (by kernel_rfl) (by simp) ?_
                  refine AllReady.cons rfl (fun K hK => ?_) AllReady.nil
                  go_simp
                  go_wp2_with (go_at_call 22; refine (KM.out _ hRdd).mono ?_; rintro e w2 ⟨⟨m, rfl, hne⟩, hrd2, hg2⟩; have hce2 := hg2.cell hced (by simp; omega))
                  refine wpAny_take (i := 6) (v := .bool true) rfl (by kernel_rfl) (by kernel_rfl) (by kernel_rfl) (fun _ _ _ h => h) (Or.inl ⟨by kernel_rfl, ?_⟩) ?_
                  · intro w; go_simp
                  change wpAny _ _ _ _ _ _ (Act.put _ (some 54) _) _
                  simp only [Act.put, List.setIfInBounds_toArray, List.set_cons_succ, List.set_cons_zero]
                  refine wpAny_take (i := 7) (v := .bool true) rfl (by kernel_rfl) (by kernel_rfl) (by kernel_rfl) (fun _ _ _ h => h) (Or.inl ⟨by kernel_rfl, ?_⟩) ?_
                  · intro w; go_simp
                  change wpAny _ _ _ _ _ _ (Act.put _ (some 55) _) _
                  simp only [Act.put, List.setIfInBounds_toArray, List.set_cons_succ, List.set_cons_zero]
                  refine wpAny_take (i := 8) (v := .slice (some ⟨c, off, none⟩) ns.length capu) rfl (by kernel_rfl) (by kernel_rfl) (by kernel_rfl) (fun _ _ _ h => h) (Or.inl ⟨by kernel_rfl, ?_⟩) ?_
                  · intro w; go_simp
                  change wpAny _ _ _ _ _ _ (Act.put _ (some 56) _) _
                  simp only [Act.put, List.setIfInBounds_toArray, List.set_cons_succ, List.set_cons_zero]
                  refine wpAny_take (i := 9) (v := .int .i64 k) rfl (by kernel_rfl) (by kernel_rfl) (by kernel_rfl) (fun _ _ _ h => h) (Or.inl ⟨by kernel_rfl, ?_⟩) ?_
                  · intro w; go_simp
                  change wpAny _ _ _ _ _ _ (Act.put _ (some 57) _) _
                  simp only [Act.put, List.setIfInBounds_toArray, List.set_cons_succ, List.set_cons_zero]
                  refine wpAny_take (i := 10) (v := .pointer (some ⟨c, off + k, none⟩)) rfl (by kernel_rfl) (by kernel_rfl) (by kernel_rfl) (fun _ _ _ h => h) (Or.inl ⟨by kernel_rfl, ?_⟩) ?_
                  · intro w; go_simp
                  change wpAny _ _ _ _ _ _ (Act.put _ (some 58) _) _
                  simp only [Act.put, List.setIfInBounds_toArray, List.set_cons_succ, List.set_cons_zero]
                  refine wpAny_ready (rs := [11]) (by kernel_rfl) (by simp) ?_
                  refine AllReady.cons rfl (fun K hK => ?_) AllReady.nil
                  go_simp
                  go_wp2_with (fail)
                  refine wpAny_take (i := 12) (v := .bool false) rfl (by kernel_rfl) (by kernel_rfl) (by kernel_rfl) (fun _ _ _ h => h) (Or.inl ⟨by kernel_rfl, ?_⟩) ?_
                  · intro w; go_simp
                  change wpAny _ _ _ _ _ _ (Act.put _ (some 60) _) _
                  simp only [Act.put, List.setIfInBounds_toArray, List.set_cons_succ, List.set_cons_zero]
                  refine wpAny_take (i := 13) (v := .bool false) rfl (by kernel_rfl) (by kernel_rfl) (by kernel_rfl) (fun _ _ _ h => h) (Or.inl ⟨by kernel_rfl, ?_⟩) ?_
                  · intro w; go_simp
                  change wpAny _ _ _ _ _ _ (Act.put _ (some 61) _) _
                  simp only [Act.put, List.setIfInBounds_toArray, List.set_cons_succ, List.set_cons_zero]
                  refine wpAny_done (by kernel_rfl) ?_ _
                  go_wp2_with fail
                  go_meet
                  exact ⟨rfl, (hbr.drew).grown hg2 hsz (by simp; omega)⟩
              case rest =>
                obtain ⟨rfl, hb3⟩ := hcut
                have hce3 := (hb3.cell (p := ⟨c, off + k, none⟩) hcl).trans ((hbr.cell (p := ⟨c, off + k, none⟩) hcl).symm.trans hcer)
                clear hced hcer hRdd
                go_wp2_with (go_at_call 8; refine (works_any _).mono ?_; rintro e w4 ⟨rfl, hb4⟩)
                go_ret
                exact ⟨rfl, hb3.trans (hb4.mono hb3.size)⟩
          · rw [List.take_of_length_le (by omega : ns.length ≤ k)] at hrd
            clear KN KM
            go_wp2_with fail
            refine (rdbytes_any 1073741824 (by omega) (by omega) hrd hfb hF5).mono ?_
            rw [back_txt hlt]
            rintro e w7 ⟨s7, tb, rfl, hst, htb7, hrd7, hg7⟩
            have hB7 : Below w.heap.size w w7 := hbr.grown hg7 hsz (by simp; omega)
            go_wp2_with fail
            refine (rdword_any hrd7 hfb hF5).mono ?_
            rw [back_word h0 h1]
            rintro e w8 ⟨rfl, hrd8, hg8⟩
            have hB8 : Below w.heap.size w w8 := hB7.grown hg8 hB7.size (by simp; omega)
            have hst8 := hst.grown hg8 htb7
            go_wp2_with fail
            refine (same_eq hst8 (ht.stays hB8) htb).mono ?_
            rintro e w9 ⟨rfl, hb9⟩
            have hB9 := hB8.trans (hb9.mono hB8.size)
            have hrd9 := hrd8.keeps hb9
            go_wp2_with fail
            refine (code_any hrd9).mono ?_
            rintro e w10 ⟨rfl, hw⟩
            have hw := hw.symm
            subst hw
            go_wp2_with fail
            refine (left_any hrd9).mono ?_
            have hleft : ((backL ns ts n ms).length : Int) - (((puts ns).length + lenN ts.length + ts.length + 8 : Nat) : Int) = (ms.length : Int) := by have := HF.out; omega
            rw [hleft]
            rintro e w10 ⟨rfl, n10, rfl⟩
            go_wp2_with fail
            refine (works_any _).mono ?_
            rintro e w11 ⟨rfl, hb11⟩
            go_wp2
            go_ret
            have hB10 := hB9.trans (below_drewN w9 n10 w.heap.size)
            exact ⟨rfl, hB10.trans (hb11.mono hB10.size)⟩
      · go_enter Try.func5, Try.ntmps5
        go_wp2_with (first
          | (go_at_call 7; refine (show Calls _ _ _ _ _ from K7).mono ?_; rintro e w' ⟨rfl, hw⟩; have hw := hw.symm; subst hw)
          | (go_at_call 8; refine (works_any _).mono ?_; rintro e w1 ⟨rfl, hb1⟩))
        go_ret
        exact ⟨rfl, hb1⟩
    · go_enter Try.func5, Try.ntmps5
      go_wp2_with (first
        | (go_at_call 7; refine (show Calls _ _ _ _ _ from K7).mono ?_; rintro e w' ⟨rfl, hw⟩; have hw := hw.symm; subst hw)
        | (go_at_call 8; refine (works_any _).mono ?_; rintro e w1 ⟨rfl, hb1⟩))
      go_ret
      exact ⟨rfl, hb1⟩
  · have C7 := few_false hu (by simpa using hf)
    have K7 : Hid (Calls Try.prog 7 #[.slice pu ns.length capu] w fun e w' => e = .returned (.bool false) ∧ w' = w) := C7
    clear C7 hf hn
    go_enter Try.func5, Try.ntmps5
    go_wp2_with (first
      | (go_at_call 7; refine (show Calls _ _ _ _ _ from K7).mono ?_; rintro e w' ⟨rfl, hw⟩; have hw := hw.symm; subst hw)
      | (go_at_call 8; refine (works_any _).mono ?_; rintro e w1 ⟨rfl, hb1⟩))
    go_ret
    exact ⟨rfl, hb1⟩
end Go.Proofs.Ytjjafiibbbhnkaa
