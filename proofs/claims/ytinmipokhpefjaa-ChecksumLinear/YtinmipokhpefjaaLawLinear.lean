/-
  The walk of the law ChecksumLinear: whatever the three rows of bytes, the call answers true.
-/
import Derived.Test.YtinmipokhpefjaaWorks
import Derived.Deep.RegionHeld3
import Derived.Deep.AppendLies
namespace Go.Proofs.Ytinmipokhpefjaa
open Go.RowKit

theorem xorL_length (a b : List Nat) (h : a.length = b.length) : (xorL a b).length = a.length := by simp [xorL, h]
theorem xorL_at {a b : List Nat} {k x y : Nat} (ha : a[k]? = some x) (hb : b[k]? = some y) : (xorL a b)[k]? = some (x ^^^ y) := by
  simp [xorL, List.getElem?_zipWith, ha, hb]
theorem xorL_byt {a b : List Nat} (ha : Byt a) (hb : Byt b) : Byt (xorL a b) := by
  intro x hx
  obtain ⟨k, hk⟩ := List.getElem?_of_mem hx
  simp only [xorL, List.getElem?_zipWith] at hk
  split at hk
  · rename_i p q hp hq
    simp at hk
    subst hk
    exact Nat.xor_lt_two_pow (n := 8) (ha.at hp) (hb.at hq)
  · cases hk

/-- A call that only reckons. -/
def Sums (w0 : World) (v : Value) (s : Nat) : Prop := ∀ w : World, Below w0.heap.size w0 w → Calls Try.prog 9 #[v] w fun e w' => e = .returned (.int .u32 (s : Int)) ∧ w' = w

set_option maxHeartbeats 8000000 in
set_option maxRecDepth 100000 in
theorem lawLinear_any {w : World} {ba bb bc : Nat} {va vb vc : Value} {l m n : List Nat} (ha : SlAt w ba va (U l)) (hby : Byt l) (hb : SlAt w bb vb (U m)) (hmy : Byt m) (hc : SlAt w bc vc (U n)) (hny : Byt n) :
    Calls Try.prog 6 #[va, vb, vc] w fun e w' => e = .returned (.bool true) ∧ Below w.heap.size w w' := by
  obtain ⟨i0, hi, hz0, hz1, hz2⟩ := Try.info5
  obtain ⟨pa, capa, ea, a5, a6, ael⟩ := ha.each
  obtain ⟨pb, capb, eb, b5, b6, bel⟩ := hb.each
  obtain ⟨pc, capc, ec, c5, c6, cel⟩ := hc.each
  rw [U_length] at ea a5 eb b5 ec c5
  unfold maxLen at a6 b6 c6
  subst ea eb ec
  have EA : Hid (∀ (k x : Nat), l[k]? = some x → ∃ off, pa = some ⟨ba, off, none⟩ ∧ ba < w.heap.size ∧ w.cell? ⟨ba, off + k, none⟩ = some (.int .u8 (x : Int))) := fun k x hx => ael k _ (U_at hx)
  have EB : Hid (∀ (k x : Nat), m[k]? = some x → ∃ off, pb = some ⟨bb, off, none⟩ ∧ bb < w.heap.size ∧ w.cell? ⟨bb, off + k, none⟩ = some (.int .u8 (x : Int))) := fun k x hx => bel k _ (U_at hx)
  have EC : Hid (∀ (k x : Nat), n[k]? = some x → ∃ off, pc = some ⟨bc, off, none⟩ ∧ bc < w.heap.size ∧ w.cell? ⟨bc, off + k, none⟩ = some (.int .u8 (x : Int))) := fun k x hx => cel k _ (U_at hx)
  clear ael bel cel
  by_cases hl : l.length ≤ 1000
  · by_cases hm : l.length ≤ m.length
    · by_cases hn : l.length ≤ n.length
      · have hmt : (m.take l.length).length = l.length := by rw [List.length_take]; omega
        have hnt : (n.take l.length).length = l.length := by rw [List.length_take]; omega
        have hsum := sum_linear l (m.take l.length) (n.take l.length) hmt.symm (by omega)
        have hxl : (xorL (xorL l (m.take l.length)) (n.take l.length)).length = l.length := by rw [xorL_length _ _ (by rw [xorL_length _ _ hmt.symm, hnt]), xorL_length _ _ hmt.symm]
        have hxb := xorL_byt (xorL_byt hby (hmy.take l.length)) (hny.take l.length)
        have hfb := hb.first l.length hm
        have hfc := hc.first l.length hn
        have hat : ∀ k x y z, k < l.length → l[k]? = some x → m[k]? = some y → n[k]? = some z → (xorL (xorL l (m.take l.length)) (n.take l.length))[k]? = some (x ^^^ y ^^^ z) := by
          intro k x y z hk h1 h2 h3
          exact xorL_at (xorL_at h1 (by rw [List.getElem?_take, if_pos hk]; exact h2)) (by rw [List.getElem?_take, if_pos hk]; exact h3)
        have HSA : Hid (Sums w (.slice pa l.length capa) (sum32 l)) := fun w1 h1 => sum_any (ha.stays h1) hby
        have HSB : Hid (Sums w (.slice pb l.length capb) (sum32 (m.take l.length))) := fun w1 h1 => sum_any (hfb.stays h1) (hmy.take _)
        have HSC : Hid (Sums w (.slice pc l.length capc) (sum32 (n.take l.length))) := fun w1 h1 => sum_any (hfc.stays h1) (hny.take _)
        generalize xorL (xorL l (m.take l.length)) (n.take l.length) = X at *
        have hs1 := sum32_lt l
        have hs2 := sum32_lt (m.take l.length)
        have hs3 := sum32_lt (n.take l.length)
        have hx12 := xor_u32 _ _ hs1 hs2
        have hx123 := xor_u32 (sum32 l ^^^ sum32 (m.take l.length)) _ (Nat.xor_lt_two_pow (n := 32) hs1 hs2) hs3
        rw [hsum] at hx123
        have HX12 : Hid (_ = _) := hx12
        have HX123 : Hid (_ = _) := hx123
        have HXA : Hid (∀ k x y z, k < l.length → l[k]? = some x → m[k]? = some y → n[k]? = some z → X[k]? = some (x ^^^ y ^^^ z)) := hat
        have HXL : Hid (X.length = l.length) := hxl
        have BA : Hid (Byt l) := hby
        have BB : Hid (Byt m) := hmy
        have BC : Hid (Byt n) := hny
        have BX : Hid (Byt X) := hxb
        have hmi : ¬ ((m.length : Int) < (l.length : Int)) := by omega
        have hni : ¬ ((n.length : Int) < (l.length : Int)) := by omega
        generalize sum32 l = sa at *
        generalize sum32 (m.take l.length) = sb at *
        generalize sum32 (n.take l.length) = sc at *
        clear hsum hx12 hx123 hat hxl hby hmy hny hxb hmt hnt hfb hfc ha hb hc
        go_enter Try.func6, Try.ntmps6
        go_wp2_with fail
        go_loopg [7, 8] l.length (fun g out i wr => ∃ k : Nat, k ≤ l.length ∧ g = l.length - k ∧ i = .int .i64 k ∧ wr.ownsRow w.heap.size 5 1 out k (U (X.take k)) ∧ Below w.heap.size w wr)
        case atStart => exact ⟨0, Nat.zero_le _, rfl, rfl, by simpa [U] using World.ownsRow_nil w w.heap.size 5 1, Below.refl _ _⟩
        case round =>
          obtain ⟨k, hk, hg, rfl, ho, hbr⟩ := hrel
          have HG : Hid (gk = l.length - k) := hg
          clear hg
          have hsz := hbr.size
          by_cases hlt : k < l.length
          · obtain ⟨x, hx⟩ : ∃ x, l[k]? = some x := ⟨l[k], List.getElem?_eq_getElem hlt⟩
            obtain ⟨y, hy⟩ : ∃ y, m[k]? = some y := ⟨m[k]'(by omega), List.getElem?_eq_getElem _⟩
            obtain ⟨z, hz⟩ : ∃ z, n[k]? = some z := ⟨n[k]'(by omega), List.getElem?_eq_getElem _⟩
            obtain ⟨oa, rfl, la, qa⟩ := EA.out k x hx
            obtain ⟨ob, rfl, lb, qb⟩ := EB.out k y hy
            obtain ⟨oc, rfl, lc, qc⟩ := EC.out k z hz
            have ra := (hbr.cell (p := ⟨ba, oa + k, none⟩) la).trans qa
            have rb := (hbr.cell (p := ⟨bb, ob + k, none⟩) lb).trans qb
            have rc := (hbr.cell (p := ⟨bc, oc + k, none⟩) lc).trans qc
            have HXK : Hid (X[k]? = some (x ^^^ y ^^^ z)) := HXA.out k x y z hlt hx hy hz
            have hx8 := BA.out.at hx
            have hy8 := BB.out.at hy
            have hz8 := BC.out.at hz
            have u1 := xor_u8 x y hx8 hy8
            have u2 := xor_u8 (x ^^^ y) z (Nat.xor_lt_two_pow (n := 8) hx8 hy8) hz8
            generalize x ^^^ y = xy at *
            generalize xy ^^^ z = xyz at *
            have i1 : (0 : Int) ≤ (k : Int) := by omega
            have i2 : (k : Int) < (l.length : Int) := by omega
            have i3 : (k : Int) < (m.length : Int) := by omega
            have i4 : (k : Int) < (n.length : Int) := by omega
            have na : u7.ownBlock ≠ some ba := fun e => by have := (ho.lt _ e).1; omega
            have nb : u7.ownBlock ≠ some bb := fun e => by have := (ho.lt _ e).1; omega
            have nc : u7.ownBlock ≠ some bc := fun e => by have := (ho.lt _ e).1; omega
            have la' : ba < wr.heap.size := by omega
            have lb' : bb < wr.heap.size := by omega
            have lc' : bc < wr.heap.size := by omega
            clear hx hy hz qa qb qc
            go_wp2_with fail
            go_region_held3 (fun w' => w'.cell? ⟨ba, oa + k, none⟩ = some (.int .u8 (x : Int)) ∧ w'.cell? ⟨bb, ob + k, none⟩ = some (.int .u8 (y : Int)) ∧ w'.cell? ⟨bc, oc + k, none⟩ = some (.int .u8 (z : Int)))
              (first
                | go_keep
                | (go_split_ands
                   refine ⟨?_, ?_, ?_⟩
                   · (rw [hgrow.cell_far _ (by simp; omega) (Ne.symm na)]; assumption)
                   · (rw [hgrow.cell_far _ (by simp; omega) (Ne.symm nb)]; assumption)
                   · (rw [hgrow.cell_far _ (by simp; omega) (Ne.symm nc)]; assumption)))
              ((refine step_append_lies _ (by rfl) _ _ _ (by rfl) w.heap.size 5 i0 _ 1 1 Try.underlying22 hi hz0 hz1 hz2 rfl (by omega) u7 k (U (X.take k)) (by rfl) ((ho.alloc _).drew)
                  ⟨wr.heap.size, 0, none⟩ 1 1 [.int .u8 (xyz : Int)] (by rfl) (by rfl) (World.news_of_block (cs := #[.int .u8 (xyz : Int)]) (t := 5) (fr := (0, 0)) (heap_alloc_new wr _)) (by simp [Value.oneCell'])
                  (by omega) (by unfold maxLen; omega) (by omega) (by simp; omega) (wr.heap.size + 1) (by simp) ?_; intro gg cap w1 hown1 hgrow hat hlt1))
            go_wp2
            go_roundg (l.length - (k + 1))
            case measure => rw [HG.out]; omega
            case rel =>
              refine ⟨k + 1, by omega, rfl, by go_num, ?_, ?_⟩
              · rw [take_snoc HXK.out, U_append]
                exact hown1
              · exact ((hbr.alloc hsz _).trans (below_drewN _ 1 _)).grown hgrow (by simp; omega) (fun k hk => (ho.lt k hk).1)
          · rw [List.take_of_length_le (by rw [HXL.out]; omega : X.length ≤ k)] at ho
            have hkl : k = l.length := by omega
            subst hkl
            obtain ⟨bo, _, hso⟩ := own_sl ho
            have hbd : Below w.heap.size w wr.drew := hbr.trans (below_drewN _ 1 _)
            have KA : Hid (Calls Try.prog 9 #[.slice pa l.length capa] wr.drew fun e w' => e = .returned (.int .u32 (sa : Int)) ∧ w' = wr.drew) := HSA.out _ hbd
            have KB : Hid (Calls Try.prog 9 #[.slice pb l.length capb] wr.drew fun e w' => e = .returned (.int .u32 (sb : Int)) ∧ w' = wr.drew) := HSB.out _ hbd
            have KC : Hid (Calls Try.prog 9 #[.slice pc l.length capc] wr.drew fun e w' => e = .returned (.int .u32 (sc : Int)) ∧ w' = wr.drew) := HSC.out _ hbd
            have KO : Hid (Calls Try.prog 9 #[u7] wr.drew fun e w' => e = .returned (.int .u32 (sum32 X : Nat)) ∧ w' = wr.drew) := sum_any (hso.stays (below_drewN _ 1 _)) BX.out
            obtain ⟨so, hso'⟩ : ∃ so, so = sum32 X := ⟨_, rfl⟩
            have h12 := HX12.out
            have h123 := HX123.out
            rw [← hso'] at KO h123
            clear hso' hso
            have j1 : (l.length : Int) ≤ (capb : Int) := by omega
            have j2 : (l.length : Int) ≤ (capc : Int) := by omega
            have j3 : ¬ capb < l.length := by omega
            have j4 : ¬ capc < l.length := by omega
            have j5 : (0 : Int) ≤ (l.length : Int) := by omega
            go_wp2_with fail
            refine wp_region_any (by kernel_rfl) ?_
            change wpAny _ _ _ _ _ _ _ (World.drew _)
            refine wpAny_take (i := 0) (v := .slice pa l.length capa) rfl (by kernel_rfl) (by kernel_rfl) (by kernel_rfl) (fun _ _ _ h => h) (Or.inl ⟨by kernel_rfl, ?_⟩) ?_
            · intro w; go_simp
            change wpAny _ _ _ _ _ _ (Act.put _ (some 50) _) _
            simp only [Act.put, List.setIfInBounds_toArray, List.set_cons_succ, List.set_cons_zero]
            refine wpAny_take (i := 2) (v := .slice pb m.length capb) rfl (by kernel_rfl) (by kernel_rfl) (by kernel_rfl) (fun _ _ _ h => h) (Or.inl ⟨by kernel_rfl, ?_⟩) ?_
            · intro w; go_simp
            change wpAny _ _ _ _ _ _ (Act.put _ (some 52) _) _
            simp only [Act.put, List.setIfInBounds_toArray, List.set_cons_succ, List.set_cons_zero]
            refine wpAny_take (i := 3) (v := .slice pa l.length capa) rfl (by kernel_rfl) (by kernel_rfl) (by kernel_rfl) (fun _ _ _ h => h) (Or.inl ⟨by kernel_rfl, ?_⟩) ?_
            · intro w; go_simp
            change wpAny _ _ _ _ _ _ (Act.put _ (some 53) _) _
            simp only [Act.put, List.setIfInBounds_toArray, List.set_cons_succ, List.set_cons_zero]
            refine wpAny_take (i := 4) (v := .int .i64 l.length) rfl (by kernel_rfl) (by kernel_rfl) (by kernel_rfl) (fun _ _ _ h => h) (Or.inl ⟨by kernel_rfl, ?_⟩) ?_
            · intro w; go_simp
            change wpAny _ _ _ _ _ _ (Act.put _ (some 54) _) _
            simp only [Act.put, List.setIfInBounds_toArray, List.set_cons_succ, List.set_cons_zero]
            refine wpAny_take (i := 5) (v := .slice pb l.length capb) rfl (by kernel_rfl) (by kernel_rfl) (by kernel_rfl) (fun _ _ _ h => h) (Or.inl ⟨by kernel_rfl, ?_⟩) ?_
            · intro w; go_simp
            change wpAny _ _ _ _ _ _ (Act.put _ (some 55) _) _
            simp only [Act.put, List.setIfInBounds_toArray, List.set_cons_succ, List.set_cons_zero]
            refine wpAny_take (i := 8) (v := .slice pc n.length capc) rfl (by kernel_rfl) (by kernel_rfl) (by kernel_rfl) (fun _ _ _ h => h) (Or.inl ⟨by kernel_rfl, ?_⟩) ?_
            · intro w; go_simp
            change wpAny _ _ _ _ _ _ (Act.put _ (some 58) _) _
            simp only [Act.put, List.setIfInBounds_toArray, List.set_cons_succ, List.set_cons_zero]
            refine wpAny_take (i := 9) (v := .slice pa l.length capa) rfl (by kernel_rfl) (by kernel_rfl) (by kernel_rfl) (fun _ _ _ h => h) (Or.inl ⟨by kernel_rfl, ?_⟩) ?_
            · intro w; go_simp
            change wpAny _ _ _ _ _ _ (Act.put _ (some 59) _) _
            simp only [Act.put, List.setIfInBounds_toArray, List.set_cons_succ, List.set_cons_zero]
            refine wpAny_take (i := 10) (v := .int .i64 l.length) rfl (by kernel_rfl) (by kernel_rfl) (by kernel_rfl) (fun _ _ _ h => h) (Or.inl ⟨by kernel_rfl, ?_⟩) ?_
            · intro w; go_simp
            change wpAny _ _ _ _ _ _ (Act.put _ (some 60) _) _
            simp only [Act.put, List.setIfInBounds_toArray, List.set_cons_succ, List.set_cons_zero]
            refine wpAny_take (i := 11) (v := .slice pc l.length capc) rfl (by kernel_rfl) (by kernel_rfl) (by kernel_rfl) (fun _ _ _ h => h) (Or.inl ⟨by kernel_rfl, ?_⟩) ?_
            · intro w; go_simp
            change wpAny _ _ _ _ _ _ (Act.put _ (some 61) _) _
            simp only [Act.put, List.setIfInBounds_toArray, List.set_cons_succ, List.set_cons_zero]
            refine wpAny_take (i := 14) (v := u7) rfl (by kernel_rfl) (by kernel_rfl) (by kernel_rfl) (fun _ _ _ h => h) (Or.inl ⟨by kernel_rfl, ?_⟩) ?_
            · intro w; go_simp
            change wpAny _ _ _ _ _ _ (Act.put _ (some 64) _) _
            simp only [Act.put, List.setIfInBounds_toArray, List.set_cons_succ, List.set_cons_zero]
            refine wpAny_ready (rs := [1]) (by kernel_rfl) (by simp) ?_
            refine AllReady.cons rfl (fun K hK => ?_) AllReady.nil
            go_simp
            go_wp2_with (go_at_call 9; refine (show Calls _ _ _ _ _ from KA).mono ?_; rintro e w' ⟨rfl, hw⟩; have hw := hw.symm; subst hw)
            refine wpAny_ready (rs := [6]) (by kernel_rfl) (by simp) ?_
            refine AllReady.cons rfl (fun K hK => ?_) AllReady.nil
            go_simp
            go_wp2_with (go_at_call 9; refine (show Calls _ _ _ _ _ from KB).mono ?_; rintro e w' ⟨rfl, hw⟩; have hw := hw.symm; subst hw)
            refine wpAny_take (i := 7) (v := .int .u32 ((sa ^^^ sb : Nat) : Int)) rfl (by kernel_rfl) (by kernel_rfl) (by kernel_rfl) (fun _ _ _ h => h) (Or.inl ⟨by kernel_rfl, ?_⟩) ?_
            · intro w; go_simp
            change wpAny _ _ _ _ _ _ (Act.put _ (some 57) _) _
            simp only [Act.put, List.setIfInBounds_toArray, List.set_cons_succ, List.set_cons_zero]
            refine wpAny_ready (rs := [12]) (by kernel_rfl) (by simp) ?_
            refine AllReady.cons rfl (fun K hK => ?_) AllReady.nil
            go_simp
            go_wp2_with (go_at_call 9; refine (show Calls _ _ _ _ _ from KC).mono ?_; rintro e w' ⟨rfl, hw⟩; have hw := hw.symm; subst hw)
            refine wpAny_take (i := 13) (v := .int .u32 ((so : Nat) : Int)) rfl (by kernel_rfl) (by kernel_rfl) (by kernel_rfl) (fun _ _ _ h => h) (Or.inl ⟨by kernel_rfl, ?_⟩) ?_
            · intro w; go_simp
            change wpAny _ _ _ _ _ _ (Act.put _ (some 63) _) _
            simp only [Act.put, List.setIfInBounds_toArray, List.set_cons_succ, List.set_cons_zero]
            refine wpAny_ready (rs := [15]) (by kernel_rfl) (by simp) ?_
            refine AllReady.cons rfl (fun K hK => ?_) AllReady.nil
            go_simp
            go_wp2_with (go_at_call 9; refine (show Calls _ _ _ _ _ from KO).mono ?_; rintro e w' ⟨rfl, hw⟩; have hw := hw.symm; subst hw)
            refine wpAny_take (i := 16) (v := .bool true) rfl (by kernel_rfl) (by kernel_rfl) (by kernel_rfl) (fun _ _ _ h => h) (Or.inl ⟨by kernel_rfl, ?_⟩) ?_
            · intro w; go_simp
            change wpAny _ _ _ _ _ _ (Act.put _ (some 66) _) _
            simp only [Act.put, List.setIfInBounds_toArray, List.set_cons_succ, List.set_cons_zero]
            refine wpAny_take (i := 17) (v := .bool true) rfl (by kernel_rfl) (by kernel_rfl) (by kernel_rfl) (fun _ _ _ h => h) (Or.inl ⟨by kernel_rfl, ?_⟩) ?_
            · intro w; go_simp
            change wpAny _ _ _ _ _ _ (Act.put _ (some 67) _) _
            simp only [Act.put, List.setIfInBounds_toArray, List.set_cons_succ, List.set_cons_zero]
            refine wpAny_ready (rs := [18]) (by kernel_rfl) (by simp) ?_
            refine AllReady.cons rfl (fun K hK => ?_) AllReady.nil
            go_simp
            go_wp2_with (go_at_call 7; refine (works_any _).mono ?_; rintro e w3 ⟨rfl, hb3⟩)
            refine wpAny_take (i := 19) (v := .bool true) rfl (by kernel_rfl) (by kernel_rfl) (by kernel_rfl) (fun _ _ _ h => h) (Or.inl ⟨by kernel_rfl, ?_⟩) ?_
            · intro w; go_simp
            change wpAny _ _ _ _ _ _ (Act.put _ (some 69) _) _
            simp only [Act.put, List.setIfInBounds_toArray, List.set_cons_succ, List.set_cons_zero]
            refine wpAny_take (i := 20) (v := .bool true) rfl (by kernel_rfl) (by kernel_rfl) (by kernel_rfl) (fun _ _ _ h => h) (Or.inl ⟨by kernel_rfl, ?_⟩) ?_
            · intro w; go_simp
            change wpAny _ _ _ _ _ _ (Act.put _ (some 6) _) _
            simp only [Act.put, List.setIfInBounds_toArray, List.set_cons_succ, List.set_cons_zero]
            refine wpAny_done (by kernel_rfl) ?_ _
            go_wp2
            go_ret
            exact ⟨rfl, (hbr.trans (below_drewN _ 1 _)).trans (hb3.mono hbr.size)⟩
      · go_enter Try.func6, Try.ntmps6
        have hni : ((n.length : Int) < (l.length : Int)) := by omega
        have hmi : ¬ ((m.length : Int) < (l.length : Int)) := by omega
        go_wp2_with (go_at_call 7; refine (works_any _).mono ?_; rintro e w1 ⟨rfl, hb1⟩)
        go_ret
        exact ⟨rfl, hb1⟩
    · go_enter Try.func6, Try.ntmps6
      have hmi : ((m.length : Int) < (l.length : Int)) := by omega
      go_wp2_with (go_at_call 7; refine (works_any _).mono ?_; rintro e w1 ⟨rfl, hb1⟩)
      go_ret
      exact ⟨rfl, hb1⟩
  · go_enter Try.func6, Try.ntmps6
    go_wp2_with (go_at_call 7; refine (works_any _).mono ?_; rintro e w1 ⟨rfl, hb1⟩)
    go_ret
    exact ⟨rfl, hb1⟩
end Go.Proofs.Ytinmipokhpefjaa
