/-
  The filter of the keys of entries; the document's keys.
-/
import Derived.Test.YtgmghekgelmmcaaDoorQIns
import Derived.Test.YtgmghekgelmmcaaDoorQBOf
import Derived.Test.YtgmghekgelmmcaaDoorQBRef
namespace Go.Proofs.YtgmghekgelmmcaaDoor
open Go.RowKit
open Ite (Ent zeroE checkE sizeE Fine EsAt)
open Blo (ofF addF Wide hash bl hs S)

theorem own_form1 {w : World} {B0 n : Nat} {e : TypeId} {v : Value} {cs : List Value} (h : w.ownsRow B0 e 1 v n cs) : ∃ p cap, v = .slice p n cap := by
  rcases h.2 with ⟨rfl, rfl⟩ | ⟨b, cap, cur, h1, _⟩
  · exact ⟨none, 0, rfl⟩
  · exact ⟨_, cap, h1⟩
theorem keys_take {L : List Ent} {k : Nat} {x : Ent} (h : L[k]? = some x) : (L.take (k + 1)).map (·.key) = (L.take k).map (·.key) ++ [x.key] := by
  rw [List.take_add_one, h]; simp
set_option maxHeartbeats 4000000 in
set_option maxRecDepth 10000 in
theorem filter_any {w : World} {v : Value} {L : List Ent} {fx fy : Nat} (h : EsAt w v L) (hk : ∀ x ∈ L, x.key.size ≤ 1000) (hof : ofF (hs (L.map (·.key))) = (fx, fy)) :
    Calls Tryd.prog 23 #[v] w fun e w' => e = .returned (.agg #[.int .u64 (fx : Int), .int .u64 (fy : Int)]) ∧ Below w.heap.size w w' := by
  obtain ⟨p, cap, rfl, hc1, hc2⟩ := h.form
  unfold maxLen at hc2
  have HE := hid2 h
  have HK := hid2 hk
  have HOF := hid2 hof
  clear h hk hof
  obtain ⟨w0, hw0⟩ : ∃ w0, w0 = (w.alloc (.cells #[.int .u64 0, .int .u64 0] 52)).alloc (.cells #[.int .u64 0, .int .u64 0] 52) := ⟨_, rfl⟩
  have h1 : w0.heap[w.heap.size]? = some (.cells #[.int .u64 0, .int .u64 0] 52 (0, 0)) := by
    rw [hw0, Below.heap_alloc _ _ _ (by simp)]; exact heap_alloc_new w _
  have h2 : w0.heap[w.heap.size + 1]? = some (.cells #[.int .u64 0, .int .u64 0] 52 (0, 0)) := by
    have := heap_alloc_new (w.alloc (.cells #[.int .u64 0, .int .u64 0] 52)) (.cells #[.int .u64 0, .int .u64 0] 52)
    rw [show (w.alloc (.cells #[.int .u64 0, .int .u64 0] 52)).heap.size = w.heap.size + 1 by simp] at this
    rw [hw0]; exact this
  have HB : Hid (Below w.heap.size w w0) := by show Below _ _ _; rw [hw0]; go_grown
  go_enter Tryd.func23, Tryd.ntmps23
  go_wp2_with fail
  obtain ⟨gb, hgb⟩ : ∃ gb, gb = w.heap.size := ⟨_, rfl⟩
  have HGB := hid2 hgb
  have HW := hid2 hw0
  rw [← hgb] at h1 h2 ⊢
  clear hgb hw0
  go_loopg [8] L.length (fun gk i wr => ∃ k f g : Nat, k ≤ L.length ∧ gk = L.length - k ∧ i = .int .i64 k ∧ f < 18446744073709551616 ∧ g < 18446744073709551616 ∧ wr.heap[gb]? = some (.cells #[.int .u64 0, .int .u64 0] 52 (0, 0)) ∧ wr.heap[gb + 1]? = some (.cells #[.int .u64 (f : Int), .int .u64 (g : Int)] 52 (0, 0)) ∧ ofF (hs ((L.take k).map (·.key))) = (f, g) ∧ Below w.heap.size w wr)
  case atStart => rw [← HW.out]; exact ⟨0, 0, 0, by omega, rfl, rfl, by omega, by omega, h1, h2, rfl, HB.out⟩
  case round =>
    clear h1 h2 HB HW
    obtain ⟨k, f, g, hk, hgk, rfl, hf, hg, h1, h2, hr, hbr⟩ := hrel
    have HO := hid2 hr
    have HG := hid2 hgk
    have H1 := hid2 h2
    have H2 := hid2 h1
    have HBR := hid2 hbr
    clear hr hgk
    by_cases hlt : k < L.length
    · obtain ⟨x, hx⟩ : ∃ x, L[k]? = some x := ⟨L[k], List.getElem?_eq_getElem hlt⟩
      obtain ⟨bb, off, q, c, rfl, hbl, hrange, hbs⟩ := EsAt.cells (HE.out.stays HBR.out) hx
      have a0 := hrange 0 _ rfl
      have a1 := hrange 1 _ rfl
      have a2 := hrange 2 _ rfl
      have a3 := hrange 3 _ rfl
      have a4 := hrange 4 _ rfl
      rw [Nat.add_zero] at a0
      have hki : (k : Int) < (L.length : Int) := by omega
      have hx2 : x.key.size ≤ 1000 := HK.out x (List.mem_of_getElem? hx)
      have HX := hid2 hx
      obtain ⟨x1, y1, hA⟩ := Blo.addF_split (f, g) (hash (bl x.key))
      have hw1 := Blo.wide_add (f := (f, g)) ⟨hf, hg⟩ (hash (bl x.key))
      rw [hA] at hw1
      have HA := hid2 hA
      clear hA hx h1 h2 hbr hrange hbs
      go_wp2_with (refine Ite.st24 rfl (.tmp 5) (.tmp 11) rfl wr.heap.size rfl _ _ _ _ _ _ (heap_alloc_new wr _) rfl rfl ⟨rfl, rfl, rfl, rfl, rfl⟩ ?_; intro v1 z1 y1')
      have X1 : Below wr.heap.size wr v1 := ((Below.refl _ _).alloc (Nat.le_refl _) _).grown y1' (by simp) (fun k hk => by cases hk; exact Nat.le_refl _)
      have HZ := hid2 z1
      have HB1 := hid2 (HBR.out.trans (X1.mono HBR.out.size))
      have H11 := hid2 (heap_stays H1.out X1)
      have H21 := hid2 (heap_stays H2.out X1)
      have hgne : gb + 1 < wr.heap.size := lt_of_block H1.out
      have HNE : Hid (wr.heap.size ≠ gb + 1) := by show _ ≠ _; omega
      clear z1 y1' X1 a0 a1 a2 a3 a4
      have HZD : Hid (v1.drew.heap[wr.heap.size]? = some (.cells #[.string x.key, .int .i64 x.ver, .int .i64 x.asof, .int .i64 x.ends, .slice q x.val.length c] 39 (0, 0))) := HZ.out
      have HF1 : Hid (v1.drew.heap[gb + 1]? = some (.cells #[.int .u64 (f : Int), .int .u64 (g : Int)] 52 (0, 0))) := H11.out
      obtain ⟨⟨q0, q1⟩, _⟩ := Blo.two33 HF1.out
      have hlt1 := lt_of_block HF1.out
      refine wp_region_held_drew (S := fun W => W.heap[wr.heap.size]? = some (.cells #[.string x.key, .int .i64 x.ver, .int .i64 x.asof, .int .i64 x.ends, .slice q x.val.length c] 39 (0, 0))) (by kernel_rfl) HZD.out (fun hS => ?_)
      change wpAnyH _ _ _ _ _ _ _ _ (World.drew _)
      refine wpAnyH_take (i := 1) (v := .pointer (some ⟨wr.heap.size, 0, none⟩)) rfl (by kernel_rfl) (by kernel_rfl) (by kernel_rfl) (fun _ _ _ h => h) (Or.inl ⟨by kernel_rfl, ?_⟩) hS ?_
      · intro w hw; clear hw; go_simp
      change wpAnyH _ _ _ _ _ _ _ (Act.put _ (some 13) _) _
      simp only [Act.put, List.setIfInBounds_toArray, List.set_cons_succ, List.set_cons_zero]
      refine wpAnyH_take (i := 2) (v := .string x.key) rfl (by kernel_rfl) (by kernel_rfl) (by kernel_rfl) (fun _ _ _ h => h) (Or.inl ⟨by kernel_rfl, ?_⟩) hS ?_
      · intro W hw
        obtain ⟨⟨z0, z1, z2, z3, z4⟩, zf⟩ := Ite.five24 hw
        have hlt := lt_of_block hw
        clear hw
        go_simp
      change wpAnyH _ _ _ _ _ _ _ (Act.put _ (some 14) _) _
      simp only [Act.put, List.setIfInBounds_toArray, List.set_cons_succ, List.set_cons_zero]
      refine wpAnyH_ready (rs := [0, 3]) (by kernel_rfl) (by simp) ?_
      refine AllReadyH.cons rfl (fun K hK => ?_) (AllReadyH.cons rfl (fun K hK => ?_) AllReadyH.nil)
      · go_simp
        go_wp2_with fail
        refine hK.out _ _ HZD.out (fun _ => ?_)
        clear hK K
        skip
        refine wpAnyH_ready (rs := [3]) (by kernel_rfl) (by simp) ?_
        refine AllReadyH.cons rfl (fun K hK => ?_) AllReadyH.nil
        go_simp
        go_wp2_with fail
        refine (Blo.hash_any _ x.key hx2).mono ?_
        rintro e w2 ⟨rfl, hw2⟩
        cases hw2
        refine hK.out _ _ HZD.out (fun _ => ?_)
        clear hK K
        skip
        refine wpAnyH_ready (rs := [4]) (by kernel_rfl) (by simp) ?_
        refine AllReadyH.cons rfl (fun K hK => ?_) AllReadyH.nil
        go_simp
        go_wp2_with fail
        refine (Blo.add_any _ f g _ x1 y1 hf hg (Blo.hash_lt _) HA.out).mono ?_
        rintro e w3 ⟨rfl, B3⟩
        have z3 := heap_stays HF1.out B3
        have r3 := heap_stays (w := v1.drew) H21.out B3
        have e3 := heap_stays HZD.out B3
        have D3 : Below w.heap.size w w3 := HB1.out.trans (((drew_below_m v1 1 v1.heap.size).trans B3).mono HB1.out.size)
        refine hK.out _ _ e3 (fun _ => ?_)
        clear hK K
        skip
        refine wpAnyH_ready (rs := [5]) (by kernel_rfl) (by simp) ?_
        refine AllReadyH.cons rfl (fun K hK => ?_) AllReadyH.nil
        refine Blo.step_st33 rfl (.tmp 3) (.tmp 16) rfl (gb + 1) rfl _ _ _ z3 rfl rfl ⟨rfl, rfl⟩ ?_
        intro w4 z4 g4
        have e4 := Blo.heap_grownBy e3 g4 HNE.out
        refine hK.out _ _ e4 (fun _ => ?_)
        clear hK K
        simp only [Act.put]
        refine wpAnyH_done (by kernel_rfl) ?_ _
        have r4 := Blo.heap_grownBy r3 g4 (by omega)
        have D4 := D3.grown g4 D3.size (fun k hk => by cases hk; have := HGB.out; omega)
        clear q0 q1 hlt1 z3 e3 e4
        go_wp2
        go_roundg (L.length - (k + 1))
        case measure => rw [HG.out]; omega
        case rel => exact ⟨k + 1, x1, y1, by omega, rfl, by go_num, hw1.1, hw1.2, r4, z4, by rw [keys_take HX.out, Blo.hs_snoc, Blo.ofF_snoc, HO.out, HA.out], D4⟩
      · go_simp
        go_wp2_with fail
        refine (Blo.hash_any _ x.key hx2).mono ?_
        rintro e w2 ⟨rfl, hw2⟩
        cases hw2
        refine hK.out _ _ HZD.out (fun _ => ?_)
        clear hK K
        skip
        refine wpAnyH_ready (rs := [0]) (by kernel_rfl) (by simp) ?_
        refine AllReadyH.cons rfl (fun K hK => ?_) AllReadyH.nil
        go_simp
        go_wp2_with fail
        refine hK.out _ _ HZD.out (fun _ => ?_)
        clear hK K
        skip
        refine wpAnyH_ready (rs := [4]) (by kernel_rfl) (by simp) ?_
        refine AllReadyH.cons rfl (fun K hK => ?_) AllReadyH.nil
        go_simp
        go_wp2_with fail
        refine (Blo.add_any _ f g _ x1 y1 hf hg (Blo.hash_lt _) HA.out).mono ?_
        rintro e w3 ⟨rfl, B3⟩
        have z3 := heap_stays HF1.out B3
        have r3 := heap_stays (w := v1.drew) H21.out B3
        have e3 := heap_stays HZD.out B3
        have D3 : Below w.heap.size w w3 := HB1.out.trans (((drew_below_m v1 1 v1.heap.size).trans B3).mono HB1.out.size)
        refine hK.out _ _ e3 (fun _ => ?_)
        clear hK K
        skip
        refine wpAnyH_ready (rs := [5]) (by kernel_rfl) (by simp) ?_
        refine AllReadyH.cons rfl (fun K hK => ?_) AllReadyH.nil
        refine Blo.step_st33 rfl (.tmp 3) (.tmp 16) rfl (gb + 1) rfl _ _ _ z3 rfl rfl ⟨rfl, rfl⟩ ?_
        intro w4 z4 g4
        have e4 := Blo.heap_grownBy e3 g4 HNE.out
        refine hK.out _ _ e4 (fun _ => ?_)
        clear hK K
        simp only [Act.put]
        refine wpAnyH_done (by kernel_rfl) ?_ _
        have r4 := Blo.heap_grownBy r3 g4 (by omega)
        have D4 := D3.grown g4 D3.size (fun k hk => by cases hk; have := HGB.out; omega)
        clear q0 q1 hlt1 z3 e3 e4
        go_wp2
        go_roundg (L.length - (k + 1))
        case measure => rw [HG.out]; omega
        case rel => exact ⟨k + 1, x1, y1, by omega, rfl, by go_num, hw1.1, hw1.2, r4, z4, by rw [keys_take HX.out, Blo.hs_snoc, Blo.ofF_snoc, HO.out, HA.out], D4⟩
    · obtain ⟨⟨q0, q1⟩, _⟩ := Blo.two33 h2
      obtain ⟨⟨r0, r1⟩, fz⟩ := Blo.two33 h1
      have hlt1 := lt_of_block h2
      have hlt2 := lt_of_block h1
      have hfg : (f, g) = (fx, fy) := by
        have e := HO.out
        rw [List.take_of_length_le (by omega : L.length ≤ k)] at e
        rw [← e]
        exact HOF.out
      obtain ⟨rfl, rfl⟩ := Prod.mk.inj hfg
      clear hfg h1 h2 hbr
      go_wp2_with (refine Blo.st33 rfl (.tmp 2) (.tmp 18) rfl gb rfl _ _ _ H2.out rfl rfl ⟨rfl, rfl⟩ ?_; intro w4 z4 g4)
      have D4 := HBR.out.grown g4 HBR.out.size (fun k hk => by cases hk; exact Nat.le_of_eq HGB.out.symm)
      obtain ⟨⟨t0, t1⟩, _⟩ := Blo.two33 z4
      refine bodyPost_ret (v := .agg #[.int .u64 (f : Int), .int .u64 (g : Int)]) (by simp [results, Tryd.results23, go_sem, t0, t1]) rfl ⟨rfl, D4⟩

set_option maxHeartbeats 2000000 in
set_option maxRecDepth 10000 in
theorem ekeys_any {w : World} {v : Value} {L : List Ent} (h : EsAt w v L) (hl : L.length ≤ 4000) :
    Calls Tryd.prog 27 #[v] w fun e w' => ∃ v', e = .returned v' ∧ w'.ownsRow w.heap.size 9 1 v' L.length (S (L.map (·.key))) ∧ Below w.heap.size w w' := by
  obtain ⟨p, cap, rfl, h2, h3⟩ := h.form
  unfold maxLen at h3
  have HE := hid2 h
  clear h
  go_enter Tryd.func27, Tryd.ntmps27
  go_wp2_with fail
  go_loopg [3, 4] L.length (fun gi l i wr => ∃ m : Nat, m ≤ L.length ∧ gi = L.length - m ∧ i = .int .i64 (m : Int) ∧ wr.ownsRow w.heap.size 9 1 l m (S ((L.take m).map (·.key))) ∧ Below w.heap.size w wr)
  case atStart => exact ⟨0, Nat.zero_le _, rfl, rfl, World.ownsRow_nil _ _ _ _, Below.refl _ _⟩
  case round =>
    obtain ⟨m, hm, hgi, rfl, ho, hbr⟩ := hrel
    have HG := hid2 hgi
    have HO := hid2 ho
    have HBR := hid2 hbr
    obtain ⟨po, co, rfl⟩ := own_form1 ho
    clear hgi ho hbr
    by_cases hlt : m < L.length
    · obtain ⟨x, hx⟩ : ∃ x, L[m]? = some x := ⟨_, List.getElem?_eq_getElem hlt⟩
      obtain ⟨bl, off, q, c, rfl, hbl, hrange, hbs⟩ := EsAt.cells (HE.out.stays HBR.out) hx
      have a0 := hrange 0 _ rfl
      rw [Nat.add_zero] at a0
      have hI : (0 : Int) ≤ (m : Int) ∧ (m : Int) < (L.length : Int) := by omega
      have htn : ((m : Int)).toNat = m := by omega
      have HX := hid2 (keys_take hx)
      have hal : Below wr.heap.size wr (wr.alloc (.cells #[.string x.key] 9)) := by go_grown
      have O3 := hid2 (Blo.own_below HO.out hal)
      have B3 := hid2 (HBR.out.trans (hal.mono HBR.out.size))
      have S3 := hid2 (Blo.sl_one_new wr 9 (.string x.key))
      clear hrange hbs hx hal
      go_wp2_with (at_builtin; refine Blo.wpList_append_gen Tryd.underlying58 Blo.elem9 rfl (by omega) _ rfl (.tmp 11) (.tmp 17) rfl w.heap.size _ m _ rfl O3.out wr.heap.size _ [.string x.key] (by simp [Value.oneCell']) rfl S3.out (by simp only [List.length_cons, List.length_nil]; omega) B3.out.size ?_; intro v5 w5 hown5 hgrow5)
      go_roundg (L.length - (m + 1))
      case measure => rw [HG.out]; omega
      case rel => exact ⟨m + 1, by omega, rfl, rfl, by rw [HX.out, Blo.S_append]; exact hown5, B3.out.grown hgrow5 B3.out.size (fun k hk => (O3.out.lt k hk).1)⟩
    · have hml : m = L.length := by omega
      subst hml
      rw [List.take_length] at HO
      go_wp2_with fail
      go_ret
      exact ⟨_, rfl, HO.out, HBR.out⟩

set_option maxHeartbeats 2000000 in
set_option maxRecDepth 10000 in
theorem rfind_any {w : World} {v : Value} {L : List Ent} (h : EsAt w v L) (k : ByteArray) :
    Calls Tryd.prog 19 #[v, .string k] w fun e w' => e = .returned (.int .i64 (findE L k)) ∧ w' = w := by
  obtain ⟨p, cap, rfl, h2, h3, h4⟩ := id h
  unfold maxLen at h3
  have HE := hid2 h
  clear h h4
  go_enter Tryd.func19, Tryd.ntmps19
  go_wp2_with fail
  go_loopg [5] L.length (fun gi i wr => ∃ m : Nat, m ≤ L.length ∧ gi = L.length - m ∧ i = .int .i64 (m : Int) ∧ wr = w ∧ ∀ j y, j < m → L[j]? = some y → y.key ≠ k)
  case atStart => exact ⟨0, Nat.zero_le _, rfl, rfl, rfl, fun j y hj => absurd hj (Nat.not_lt_zero _)⟩
  case round =>
    obtain ⟨m, hm, hgi, rfl, rfl, hno⟩ := hrel
    have HG := hid2 hgi
    have HN := hid2 hno
    clear hgi hno
    by_cases hml : m = L.length
    · subst hml
      have hnone : findE L k = -1 := findE_none (idx_none.2 (fun x hx => by
          obtain ⟨j, hj⟩ := List.mem_iff_getElem?.1 hx
          exact HN.out j x (List.getElem?_eq_some_iff.1 hj).1 hj))
      have HNO := hid2 hnone
      clear hnone
      go_wp2
      go_ret
      exact ⟨by rw [HNO.out]; rfl, rfl⟩
    · have hlt : m < L.length := by omega
      obtain ⟨x, hx⟩ : ∃ x, L[m]? = some x := ⟨_, List.getElem?_eq_getElem hlt⟩
      obtain ⟨b, off, q, c, rfl, hbl, hrange, _⟩ := EsAt.cells HE.out hx
      have k0 := hrange 0 _ rfl
      rw [Nat.add_zero] at k0
      have hI : (0 : Int) ≤ (m : Int) ∧ (m : Int) < (L.length : Int) := by omega
      have htn : ((m : Int)).toNat = m := by omega
      clear hrange
      by_cases hkey : x.key = k
      · have hfound : findE L k = (m : Int) := findE_some (idx_some.2 ⟨x, hx, hkey, HN.out⟩)
        have HFO := hid2 hfound
        rw [hkey] at k0
        clear hfound hx
        go_wp2
        go_ret
        exact ⟨by rw [HFO.out]; rfl, rfl⟩
      · have d3 : (x.key.toList == k.toList) = false := by
          rw [beq_eq_false_iff_ne]
          exact fun e => hkey (key_inj e)
        have HX := hid2 hx
        have HK := hid2 hkey
        clear hx hkey
        go_wp2
        go_roundg (L.length - (m + 1))
        case measure => rw [HG.out]; omega
        case rel =>
          refine ⟨m + 1, by omega, rfl, rfl, rfl, fun j y hj hy => ?_⟩
          rcases Nat.lt_succ_iff_lt_or_eq.1 hj with h | rfl
          · exact HN.out j y h hy
          · rw [HX.out] at hy
            cases hy
            exact HK.out
end Go.Proofs.YtgmghekgelmmcaaDoor
