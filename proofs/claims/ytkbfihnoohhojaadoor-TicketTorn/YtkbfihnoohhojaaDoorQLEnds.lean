/-
  A page in memory; the numbers at its ends, its stamps, and what is wrong with it.
-/
import Derived.Test.YtkbfihnoohhojaaDoorQLLSame
namespace Go.Proofs.YtkbfihnoohhojaaDoor.Lea
open Go.RowKit

theorem Byt.drop {a : List Nat} (ha : Byt a) (k : Nat) : Byt (a.drop k) := fun x hx => ha x (List.mem_of_mem_drop hx)

/-- A page of bytes lies in block b from off on. -/
structure PgAt (w : World) (b off cap : Nat) (l : List Nat) : Prop where
  len : l.length = 256
  byt : Byt l
  cap0 : 256 ≤ cap
  cap1 : cap ≤ maxLen
  lt : b < w.heap.size
  cells : ∀ k x, l[k]? = some x → w.cell? ⟨b, off + k, none⟩ = some (.int .u8 ((x : Nat) : Int))
theorem PgAt.below {w w' : World} {b off cap : Nat} {l : List Nat} (h : PgAt w b off cap l) (hb : Below w.heap.size w w') : PgAt w' b off cap l :=
  ⟨h.len, h.byt, h.cap0, h.cap1, Nat.lt_of_lt_of_le h.lt hb.size, fun k x hk => (hb.cell (p := ⟨b, off + k, none⟩) h.lt).trans (h.cells k x hk)⟩
theorem PgAt.of {w : World} {b : Nat} {v : Value} {l : List Nat} (h : SlAt w b v (U l)) (hl : l.length = 256) (hb : Byt l) : ∃ off cap, v = .slice (some ⟨b, off, none⟩) 256 cap ∧ PgAt w b off cap l := by
  obtain ⟨off, cap, hv, h1, h2, h3, h4⟩ := h.elem (by rw [U_length]; omega)
  rw [U_length, hl] at hv h1
  exact ⟨off, cap, hv, hl, hb, h1, h2, h3, fun k x hk => h4 k _ (U_at hk)⟩
theorem PgAt.part {w : World} {b off cap : Nat} {l : List Nat} (h : PgAt w b off cap l) {i j c : Nat} (hi : i ≤ j) (hj : j ≤ 256) (hc : j - i ≤ c) (hc2 : c ≤ maxLen) : SlAt w b (.slice (some ⟨b, off + i, none⟩) (j - i) c) (U ((l.take j).drop i)) := by
  have hlen : ((l.take j).drop i).length = j - i := by rw [List.length_drop, List.length_take, h.len]; omega
  refine .inr ⟨_, c, by rw [U_length, hlen], by rw [U_length, hlen]; exact hc, hc2, .inr ⟨off + i, rfl, h.lt, fun k u hk => ?_⟩⟩
  have hkl : k < j - i := by
    have := (List.getElem?_eq_some_iff.1 hk).1
    rw [U_length, hlen] at this
    exact this
  obtain ⟨x, hx⟩ : ∃ x, l[i + k]? = some x := ⟨_, List.getElem?_eq_getElem (by rw [h.len]; omega)⟩
  have hx2 : ((l.take j).drop i)[k]? = some x := by rw [List.getElem?_drop, List.getElem?_take, if_pos (by omega)]; exact hx
  rw [U_at hx2] at hk
  cases hk
  rw [Nat.add_assoc]
  exact h.cells _ _ hx
theorem PgAt.first {w : World} {b off cap : Nat} {l : List Nat} (h : PgAt w b off cap l) {j : Nat} (hj : j ≤ 256) : SlAt w b (.slice (some ⟨b, off, none⟩) j cap) (U (l.take j)) := by
  have := h.part (i := 0) (j := j) (c := cap) (by omega) hj (by have := h.cap0; omega) h.cap1
  simpa using this
theorem PgAt.sl {w : World} {b off cap : Nat} {l : List Nat} (h : PgAt w b off cap l) : SlAt w b (.slice (some ⟨b, off, none⟩) 256 cap) (U l) := by
  have := h.first (j := 256) (by omega)
  rwa [List.take_of_length_le (by rw [h.len]; omega)] at this
theorem PgAt.first8 {w w' : World} {b off cap : Nat} {l : List Nat} (h : PgAt w b off cap l) (hb : Below w.heap.size w w') : SlAt w' b (.slice (some ⟨b, off, none⟩) 8 cap) (U (l.take 8)) := (h.below hb).first (by omega)
theorem PgAt.last8 {w w' : World} {b off cap : Nat} {l : List Nat} (h : PgAt w b off cap l) (hb : Below w.heap.size w w') : SlAt w' b (.slice (some ⟨b, off + 248, none⟩) 8 (cap - 248)) (U (l.drop 248)) := by
  have := (h.below hb).part (i := 248) (j := 256) (c := cap - 248) (by omega) (by omega) (by have := h.cap0; omega) (by have := h.cap1; omega)
  rwa [List.take_of_length_le (by rw [h.len]; omega)] at this
theorem PgAt.read8 {w w' : World} {b off cap : Nat} {l : List Nat} (h : PgAt w b off cap l) (hb : Below w.heap.size w w') : SlAt w' b (.slice (some ⟨b, off, none⟩) 8 cap) (Oct.U (ints (l.take 8))) := by rw [U_ints]; exact h.first8 hb
theorem PgAt.readL {w w' : World} {b off cap : Nat} {l : List Nat} (h : PgAt w b off cap l) (hb : Below w.heap.size w w') : SlAt w' b (.slice (some ⟨b, off + 248, none⟩) 8 (cap - 248)) (Oct.U (ints (l.drop 248))) := by rw [U_ints]; exact h.last8 hb
theorem take8_len {l : List Nat} (h : l.length = 256) : (l.take 8).length = 8 := by rw [List.length_take]; omega
theorem drop248_len {l : List Nat} (h : l.length = 256) : (l.drop 248).length = 8 := by rw [List.length_drop]; omega

/-- Word of a new reader of eight bytes. -/
theorem word8 {w : World} {g : Nat} {l : List Nat} (h : Oct.Rd w g (ints l) 0 0) (hb : Byt l) (hl : l.length = 8) : Calls Tryd.prog 61 #[.pointer (some ⟨g, 0, none⟩)] w fun e w' => e = .returned (.int .u64 (num8 l : Nat)) ∧ w.grownBy w' (some g) := by
  refine (Oct.rdword_any h (ints_byt hb) (by rw [ints_length]; omega)).mono ?_
  rintro e w' ⟨he, _, hg⟩
  refine ⟨?_, hg⟩
  rw [he]
  unfold Oct.rdWord
  rw [if_pos rfl, if_neg (by rw [ints_length]; omega), List.drop_zero, List.take_of_length_le (by rw [ints_length]; omega), num8_int]
set_option maxHeartbeats 2000000 in
set_option maxRecDepth 10000 in
theorem ends_any {w : World} {b off cap : Nat} {l : List Nat} (h : PgAt w b off cap l) :
    Calls Tryd.prog 43 #[.slice (some ⟨b, off, none⟩) 256 cap] w fun e w' => e = .returned (.tuple #[.int .u64 (num8 (l.take 8) : Nat), .int .u64 (num8 (l.drop 248) : Nat)]) ∧ Below w.heap.size w w' := by
  have HP := hid2 h
  have HBY := hid2 h.byt
  have HL8 := hid2 (take8_len h.len)
  have HLD := hid2 (drop248_len h.len)
  have c0 := h.cap0
  have c1 := h.cap1
  unfold maxLen at c1
  have i1 : (256 : Int) ≤ (cap : Int) := by omega
  have i2 : (248 : Int) ≤ (cap : Int) := by omega
  have i3 : ¬ cap = 248 := by omega
  have i4 : ¬ cap < 248 := by omega
  have i5 : ¬ cap < 8 := by omega
  have i6 : (8 : Int) ≤ (cap : Int) := by omega
  have hbd : Below w.heap.size w w.drew := (Below.refl _ _).drew
  clear h
  go_enter Tryd.func43, Tryd.ntmps43
  go_wp2_with fail
  refine wp_region_held_drew (S := fun _ => True) (by kernel_rfl) (trivial) (fun hS => ?_)
  change wpAnyH _ _ _ _ _ _ _ _ (World.drew _)
  refine wpAnyH_take (i := 0) (v := .slice (some ⟨b, off, none⟩) 256 cap) rfl (by kernel_rfl) (by kernel_rfl) (by kernel_rfl) (fun _ _ _ h => h) (Or.inl ⟨by kernel_rfl, ?_⟩) hS ?_
  · intro w hw; clear hw; go_simp
  change wpAnyH _ _ _ _ _ _ _ (Act.put _ (some 4) _) _
  simp only [Act.put, List.setIfInBounds_toArray, List.set_cons_succ, List.set_cons_zero]
  refine wpAnyH_take (i := 1) (v := .slice (some ⟨b, off, none⟩) 8 cap) rfl (by kernel_rfl) (by kernel_rfl) (by kernel_rfl) (fun _ _ _ h => h) (Or.inl ⟨by kernel_rfl, ?_⟩) hS ?_
  · intro w hw; clear hw; go_simp
  change wpAnyH _ _ _ _ _ _ _ (Act.put _ (some 5) _) _
  simp only [Act.put, List.setIfInBounds_toArray, List.set_cons_succ, List.set_cons_zero]
  refine wpAnyH_take (i := 4) (v := .slice (some ⟨b, off, none⟩) 256 cap) rfl (by kernel_rfl) (by kernel_rfl) (by kernel_rfl) (fun _ _ _ h => h) (Or.inl ⟨by kernel_rfl, ?_⟩) hS ?_
  · intro w hw; clear hw; go_simp
  change wpAnyH _ _ _ _ _ _ _ (Act.put _ (some 8) _) _
  simp only [Act.put, List.setIfInBounds_toArray, List.set_cons_succ, List.set_cons_zero]
  refine wpAnyH_take (i := 5) (v := .slice (some ⟨b, off + 248, none⟩) 8 (cap - 248)) rfl (by kernel_rfl) (by kernel_rfl) (by kernel_rfl) (fun _ _ _ h => h) (Or.inl ⟨by kernel_rfl, ?_⟩) hS ?_
  · intro w hw; clear hw; go_simp
  change wpAnyH _ _ _ _ _ _ _ (Act.put _ (some 9) _) _
  simp only [Act.put, List.setIfInBounds_toArray, List.set_cons_succ, List.set_cons_zero]
  refine wpAnyH_ready (rs := [2]) (by kernel_rfl) (by simp) ?_
  refine AllReadyH.cons rfl (fun K hK => ?_) AllReadyH.nil
  go_simp
  go_wp2_with (go_at_call 60; refine (Oct.read_any (HP.out.read8 hbd) (by rw [ints_length, HL8.out]; omega)).mono ?_; rintro e w1 ⟨g1, rfl, hg1, hr1, hb1⟩)
  refine hK.out _ _ (trivial) (fun hS => ?_)
  clear hK K
  skip
  refine wpAnyH_ready (rs := [3]) (by kernel_rfl) (by simp) ?_
  refine AllReadyH.cons rfl (fun K hK => ?_) AllReadyH.nil
  go_simp
  go_wp2_with (go_at_call 61; refine (word8 hr1 (HBY.out.take 8) HL8.out).mono ?_; rintro e w2 ⟨rfl, hgr2⟩)
  have hb2 : Below w.heap.size w w2 := ((Below.refl _ _).drew.trans hb1).grown hgr2 hb1.size (fun k hk => by cases hk; exact hg1)
  refine hK.out _ _ (trivial) (fun hS => ?_)
  clear hK K
  skip
  refine wpAnyH_ready (rs := [6]) (by kernel_rfl) (by simp) ?_
  refine AllReadyH.cons rfl (fun K hK => ?_) AllReadyH.nil
  go_simp
  go_wp2_with (go_at_call 60; refine (Oct.read_any (HP.out.readL hb2) (by rw [ints_length, HLD.out]; omega)).mono ?_; rintro e w3 ⟨g3, rfl, hg3, hr3, hb3⟩)
  refine hK.out _ _ (trivial) (fun hS => ?_)
  clear hK K
  skip
  refine wpAnyH_ready (rs := [7]) (by kernel_rfl) (by simp) ?_
  refine AllReadyH.cons rfl (fun K hK => ?_) AllReadyH.nil
  go_simp
  go_wp2_with (go_at_call 61; refine (word8 hr3 (HBY.out.drop 248) HLD.out).mono ?_; rintro e w4 ⟨rfl, hgr4⟩)
  have hb4 : Below w.heap.size w w4 := (hb2.trans (hb3.mono hb2.size)).grown hgr4 (Nat.le_trans hb2.size hb3.size) (fun k hk => by cases hk; exact Nat.le_trans hb2.size hg3)
  refine hK.out _ _ (trivial) (fun hS => ?_)
  clear hK K
  skip
  refine wpAnyH_take (i := 8) (v := .int .u64 (num8 (l.take 8) : Nat)) rfl (by kernel_rfl) (by kernel_rfl) (by kernel_rfl) (fun _ _ _ h => h) (Or.inl ⟨by kernel_rfl, ?_⟩) hS ?_
  · intro w hw; clear hw; go_simp
  change wpAnyH _ _ _ _ _ _ _ (Act.put _ (some 2) _) _
  simp only [Act.put, List.setIfInBounds_toArray, List.set_cons_succ, List.set_cons_zero]
  refine wpAnyH_take (i := 9) (v := .int .u64 (num8 (l.drop 248) : Nat)) rfl (by kernel_rfl) (by kernel_rfl) (by kernel_rfl) (fun _ _ _ h => h) (Or.inl ⟨by kernel_rfl, ?_⟩) hS ?_
  · intro w hw; clear hw; go_simp
  change wpAnyH _ _ _ _ _ _ _ (Act.put _ (some 3) _) _
  simp only [Act.put, List.setIfInBounds_toArray, List.set_cons_succ, List.set_cons_zero]
  refine wpAnyH_done (by kernel_rfl) ?_ _
  go_wp2
  go_ret2
  exact ⟨rfl, hb4⟩

set_option maxHeartbeats 1000000 in
theorem stamps_any {w : World} {b : Nat} {v : Value} {l : List Nat} (h : SlAt w b v (U l)) (hb : Byt l) :
    Calls Tryd.prog 15 #[v] w fun e w' => e = .returned (.tuple #[.int .i64 ((stampsP l).1 : Nat), .int .i64 ((stampsP l).2 : Nat)]) ∧ Below w.heap.size w w' := by
  unfold stampsP
  by_cases hl : l.length = 256
  · obtain ⟨off, cap, rfl, hp⟩ := PgAt.of h hl hb
    rw [if_pos hl]
    have HK := hid2 (ends_any hp)
    clear h hb hl hp
    generalize num8 (l.take 8) = a at *
    generalize num8 (l.drop 248) = c at *
    go_enter Tryd.func15, Tryd.ntmps15
    go_wp2_with fail
    refine (show Calls _ _ _ _ _ from HK).mono ?_
    rintro e w1 ⟨rfl, hb1⟩
    go_wp2_with fail
    refine (stamp_any a _).mono ?_
    rintro e w2 ⟨rfl, rfl⟩
    go_wp2_with fail
    refine (stamp_any c _).mono ?_
    rintro e w3 ⟨rfl, rfl⟩
    go_wp2
    go_ret2
    exact ⟨rfl, hb1⟩
  · rw [if_neg hl]
    obtain ⟨p, cap, hv, _, _⟩ := h.form
    rw [U_length] at hv
    subst hv
    have hd : ((l.length : Int) != 256) = true := by rw [bne_iff_ne]; omega
    clear h hb hl
    go_enter Tryd.func15, Tryd.ntmps15
    go_wp2
    go_ret2
    exact ⟨rfl, Below.refl _ _⟩

theorem ends_eq {l : List Nat} (hl : l.length = 256) (hb : Byt l) : (num8 (l.take 8) = num8 (l.drop 248)) ↔ l.take 8 = l.drop 248 :=
  ⟨fun e => num8_inj (by rw [take8_len hl, drop248_len hl]) (hb.take 8) (hb.drop 248) e, fun e => by rw [e]⟩

set_option maxHeartbeats 1000000 in
theorem spoilt_any {w : World} {b off cap : Nat} {l : List Nat} (h : PgAt w b off cap l) :
    Calls Tryd.prog 62 #[.slice (some ⟨b, off, none⟩) 256 cap] w fun e w' => e = .returned (.int .i64 (spoiltP l)) ∧ Below w.heap.size w w' := by
  have HK := hid2 (ends_any h)
  have HE := hid2 (ends_eq h.len h.byt)
  have HP := hid2 h
  have HBY := hid2 h.byt
  have c0 := h.cap0
  have c1 := h.cap1
  unfold maxLen at c1
  have i5 : ¬ cap < 248 := by omega
  have i6 : (248 : Int) ≤ (cap : Int) := by omega
  clear h
  unfold spoiltP
  by_cases he : l.take 8 = l.drop 248
  · rw [if_neg (fun h => h he)]
    have hn := HE.out.2 he
    rw [← hn] at HK
    clear HE he hn
    generalize num8 (l.take 8) = a at *
    have hd : ((a : Int) != (a : Int)) = false := by simp
    by_cases hz : stampN a = 0
    · rw [if_pos hz]
      have hz' : ((stampN a : Int) == 0) = true := by rw [hz]; rfl
      clear hz
      go_enter Tryd.func62, Tryd.ntmps62
      go_wp2_with fail
      refine (show Calls _ _ _ _ _ from HK).mono ?_
      rintro e w1 ⟨rfl, hb1⟩
      go_wp2_with fail
      refine (stamp_any a _).mono ?_
      rintro e w2 ⟨rfl, rfl⟩
      go_wp2
      go_ret
      exact ⟨rfl, hb1⟩
    · rw [if_neg hz]
      have hz' : ((stampN a : Int) == 0) = false := by rw [beq_eq_false_iff_ne]; omega
      clear hz
      have HFI : Hid (∀ w', Below w.heap.size w w' → Calls Tryd.prog 70 #[.slice (some ⟨b, off, none⟩) 248 cap] w' fun e w'' => e = .returned (.bool (fitsB (l.take 248))) ∧ Below w'.heap.size w' w'') := fun w' hb => fits_any ((HP.out.below hb).first (by omega)) (HBY.out.take 248)
      generalize fitsB (l.take 248) = fb at *
      cases fb
      · rw [if_pos rfl]
        go_enter Tryd.func62, Tryd.ntmps62
        go_wp2_with fail
        refine (show Calls _ _ _ _ _ from HK).mono ?_
        rintro e w1 ⟨rfl, hb1⟩
        go_wp2_with fail
        refine (stamp_any a _).mono ?_
        rintro e w2 ⟨rfl, rfl⟩
        go_wp2_with fail
        refine (HFI.out _ hb1).mono ?_
        rintro e w3 ⟨rfl, hb3⟩
        go_wp2
        go_ret
        exact ⟨rfl, hb1.trans (hb3.mono hb1.size)⟩
      · rw [if_neg (by decide)]
        go_enter Tryd.func62, Tryd.ntmps62
        go_wp2_with fail
        refine (show Calls _ _ _ _ _ from HK).mono ?_
        rintro e w1 ⟨rfl, hb1⟩
        go_wp2_with fail
        refine (stamp_any a _).mono ?_
        rintro e w2 ⟨rfl, rfl⟩
        go_wp2_with fail
        refine (HFI.out _ hb1).mono ?_
        rintro e w3 ⟨rfl, hb3⟩
        go_wp2
        go_ret
        exact ⟨rfl, hb1.trans (hb3.mono hb1.size)⟩
  · rw [if_pos he]
    have hn : ((num8 (l.take 8) : Int) != (num8 (l.drop 248) : Int)) = true := by
      rw [bne_iff_ne]
      intro e
      exact he (HE.out.1 (by omega))
    clear HE he
    generalize num8 (l.take 8) = a at *
    generalize num8 (l.drop 248) = c at *
    go_enter Tryd.func62, Tryd.ntmps62
    go_wp2_with fail
    refine (show Calls _ _ _ _ _ from HK).mono ?_
    rintro e w1 ⟨rfl, hb1⟩
    go_wp2
    go_ret
    exact ⟨rfl, hb1⟩
end Go.Proofs.YtkbfihnoohhojaaDoor.Lea
