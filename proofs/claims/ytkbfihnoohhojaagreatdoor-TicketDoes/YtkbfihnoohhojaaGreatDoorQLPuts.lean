/-
  A leaf as a page: Put of the program, and of the document.
-/
import Derived.Test.YtkbfihnoohhojaaGreatDoorQLEnds
namespace Go.Proofs.YtkbfihnoohhojaaGreatDoor.Lea
open Go.RowKit

theorem wordB {w : World} {b : Nat} {v : Value} {l : List Nat} (s : Nat) (hs : s ≤ 18446744073709551615) (h : SlAt w b v (U l)) (hl : l.length ≤ 3000) :
    Calls Tryz.prog 63 #[v, .int .u64 (s : Int)] w fun e w' => ∃ sv, e = .returned sv ∧ w'.ownsRow w.heap.size 5 1 sv (l.length + 8) (U (l ++ w8 s 8)) ∧ Below w.heap.size w w' := by
  have K := Oct.word_any (w := w) (b := b) (v := v) (bs := ints l) (s : Int) (by omega) (by omega) (by rw [U_ints]; exact h) (by rw [ints_length]; exact hl)
  rw [ints_length, Oct.U_append, U_ints, U_wd, ← U_append] at K
  exact K
theorem rwordB {w : World} {b : Nat} {v : Value} {l : List Nat} (s : Nat) (hs : s ≤ 18446744073709551615) (h : SlAt w b v (U l)) (hl : l.length ≤ 3000) :
    Calls Tryz.prog 57 #[v, .int .u64 (s : Int)] w fun e w' => ∃ sv, e = .returned sv ∧ w'.ownsRow w.heap.size 5 1 sv (l.length + 8) (U (l ++ w8 s 8)) ∧ Below w.heap.size w w' := by
  have K := Oct.rword_any (w := w) (b := b) (v := v) (bs := ints l) (s : Int) (by omega) (by omega) (by rw [U_ints]; exact h) (by rw [ints_length]; exact hl)
  rw [ints_length, Oct.U_append, U_ints, U_wd, ← U_append] at K
  exact K
theorem sl_three_new (w : World) (a b c : Int) (x y z : Nat) (ha : a = x) (hb : b = y) (hc : c = z) : SlAt (w.alloc (.cells #[.int .u8 a, .int .u8 b, .int .u8 c] 5)) w.heap.size (.slice (some ⟨w.heap.size, 0, none⟩) 3 3) (U [x, y, z]) := by
  subst ha hb hc
  refine .inr ⟨_, 3, rfl, by simp [U], by unfold maxLen; omega, .inr ⟨0, rfl, by simp, fun k u hk => ?_⟩⟩
  rcases k with _ | _ | _ | k
  all_goals (simp [U] at hk)
  all_goals (subst hk; simp)
theorem heap_grownBy {w w' : World} {row : Option Nat} {b : Nat} {o : Obj} (h : w.heap[b]? = some o) (hg : w.grownBy w' row) (hne : some b ≠ row) : w'.heap[b]? = some o := by
  rw [hg.block b (Array.getElem?_eq_some_iff.1 h).1 hne]; exact h
theorem heap_alloc_old' {w : World} {b : Nat} {o : Obj} (h : w.heap[b]? = some o) (x : Obj) : (w.alloc x).heap[b]? = some o := by
  rw [Below.heap_alloc _ _ _ (Array.getElem?_eq_some_iff.1 h).1]; exact h
theorem _root_.Go.World.ownsRow.box {w : World} {B : Nat} {e : TypeId} {size : Nat} {v : Value} {n : Nat} {xs : List Value} (h : w.ownsRow (B + 1) e size v n xs) : some B ≠ v.ownBlock := by
  intro e
  have := (h.lt B e.symm).1
  omega
theorem _root_.Go.World.ownsRow.pos {w : World} {B : Nat} {e : TypeId} {size : Nat} {v : Value} {n : Nat} {xs : List Value} (h : w.ownsRow B e size v n xs) (hn : 0 < n) : v ≠ .slice none 0 0 := by
  rcases h.2 with ⟨_, h0⟩ | ⟨g, cap, cur, h1, _⟩
  · omega
  · rw [h1]; intro e; cases e
theorem U_zeros (m : Nat) : List.replicate m (Value.int .u8 0) = U (List.replicate m 0) := by simp [U]

set_option maxHeartbeats 1000000 in
theorem put_bad {s k : Int} {p : Option Addr} {n cap : Nat} (w : World) (hn : n ≤ 9223372036854775807) (hc : checkC s k n ≠ 0) :
    Calls Tryz.prog 36 #[.agg #[.int .i64 s, .int .i64 k, .slice p n cap]] w fun e w' => ∃ u, e = .returned (.tuple #[.slice none 0 0, u]) ∧ Fault w' u (checkC s k n) ∧ Below w.heap.size w w' := by
  have hb0 : Below w.heap.size w (w.alloc (.cells #[.int .i64 s, .int .i64 k, .slice p n cap] 50)) := by go_grown
  have HK := hid2 (check_any s k p n cap (w.alloc (.cells #[.int .i64 s, .int .i64 k, .slice p n cap] 50)) hn)
  generalize checkC s k n = code at *
  go_enter Tryz.func36, Tryz.ntmps36
  go_wp2_with fail
  refine (show Calls _ _ _ _ _ from HK).mono ?_
  rintro e w1 ⟨v, rfl, hv, hb1⟩
  have hf := hv.fault
  obtain ⟨a, rfl⟩ := hf.some hc
  go_wp2
  go_ret2
  exact ⟨_, rfl, hf, hb0.trans (hb1.mono hb0.size)⟩

set_option maxHeartbeats 1000000 in
theorem rput_bad {s k : Int} {p : Option Addr} {n cap : Nat} (w : World) (hc : checkC s k n ≠ 0) :
    Calls Tryz.prog 33 #[.agg #[.int .i64 s, .int .i64 k, .slice p n cap]] w fun e w' => e = .returned (.tuple #[.slice none 0 0, .int .i64 (checkC s k n)]) ∧ Below w.heap.size w w' := by
  have hb0 : Below w.heap.size w (w.alloc (.cells #[.int .i64 s, .int .i64 k, .slice p n cap] 50)) := by go_grown
  have HK := hid2 (rcheck_any s k p n cap (w.alloc (.cells #[.int .i64 s, .int .i64 k, .slice p n cap] 50)))
  generalize checkC s k n = code at *
  have hd : (code != 0) = true := by simpa using hc
  go_enter Tryz.func33, Tryz.ntmps33
  go_wp2_with fail
  refine (show Calls _ _ _ _ _ from HK).mono ?_
  rintro e w1 ⟨rfl, hb1⟩
  go_wp2
  go_ret2
  exact ⟨rfl, hb0.trans (hb1.mono hb0.size)⟩

set_option maxHeartbeats 4000000 in
set_option maxRecDepth 10000 in
theorem put_good {w : World} {b : Nat} {p : Option Addr} {cap s k : Nat} {l : List Nat} (h : SlAt w b (.slice p l.length cap) (U l)) (hby : Byt l) (hs1 : 1 ≤ s) (hs2 : s ≤ 1099511627776) (hk1 : 1 ≤ k) (hk2 : k ≤ 5) (hn : l.length ≤ 233) :
    Calls Tryz.prog 36 #[.agg #[.int .i64 (s : Int), .int .i64 (k : Int), .slice p l.length cap]] w fun e w' => ∃ b' off cap', e = .returned (.tuple #[.slice (some ⟨b', off, none⟩) 256 cap', .nilIface]) ∧ PgAt w' b' off cap' (page s k l) ∧ w'.ownsRow w.heap.size 5 1 (.slice (some ⟨b', off, none⟩) 256 cap') 256 (U (page s k l)) ∧ Below w.heap.size w w' := by
  have hb0 : Below w.heap.size w (w.alloc (.cells #[.int .i64 (s : Int), .int .i64 (k : Int), .slice p l.length cap] 50)) := by go_grown
  have hx0 : (w.alloc (.cells #[.int .i64 (s : Int), .int .i64 (k : Int), .slice p l.length cap] 50)).heap[w.heap.size]? = some (.cells #[.int .i64 (s : Int), .int .i64 (k : Int), .slice p l.length cap] 50 (0, 0)) := heap_alloc_new w _
  have hc0 : checkC (s : Int) (k : Int) l.length = 0 := check_fine (by omega) (by omega) (by omega) (by omega) hn
  have K0 := check_any (s : Int) (k : Int) p l.length cap (w.alloc (.cells #[.int .i64 (s : Int), .int .i64 (k : Int), .slice p l.length cap] 50)) (by omega)
  rw [hc0] at K0
  have HK := hid2 K0
  have HB0 := hid2 hb0
  have HX0 := hid2 hx0
  have HSL := hid2 h
  have HBY := hid2 hby
  have HN := hid2 hn
  have HK2 : Hid (k < 256) := by show k < 256; omega
  have HS64 : Hid (s ≤ 18446744073709551615) := by show _ ≤ _; omega
  have hwr : IntKind.u64.wrap (s : Int) = s := by rw [IntKind.wrap_u64]; omega
  clear h hby hb0 hx0 hc0 K0
  go_enter Tryz.func36, Tryz.ntmps36
  go_wp2_with fail
  refine (show Calls _ _ _ _ _ from HK).mono ?_
  rintro e w1 ⟨v1, rfl, hv1, hb1⟩
  obtain rfl := hv1.fault.none
  have HX1 := hid2 (heap_stays HX0.out hb1)
  have HB1 := hid2 (HB0.out.trans (hb1.mono HB0.out.size))
  obtain ⟨⟨q0, q1, q2⟩, _⟩ := three24 HX1.out
  have hlt1 : w.heap.size < w1.heap.size := (Array.getElem?_eq_some_iff.1 HX1.out).1
  clear hv1 hb1 HX0 HB0 HK
  go_wp2_with fail
  refine (wordB s HS64.out (SlAt.nil w1 0) (l := []) (by simp)).mono ?_
  rintro e w2 ⟨v2, rfl, hown2, hb2⟩
  rw [List.length_nil, Nat.zero_add, List.nil_append] at hown2
  have HX2 := hid2 (heap_stays HX1.out hb2)
  have HB2 := hid2 (HB1.out.trans (hb2.mono HB1.out.size))
  have HO2 := hid2 (own_lower (B' := w.heap.size + 1) hown2 hlt1)
  obtain ⟨⟨q0, q1, q2⟩, _⟩ := three24 HX2.out
  have hlt2 : w.heap.size < w2.heap.size := (Array.getElem?_eq_some_iff.1 HX2.out).1
  clear hown2 hb2 HX1
  go_wp2_with (first
    | (at_builtin; refine wpList_append_zeros _ rfl _ _ rfl (w.heap.size + 1) _ _ (233 - l.length) _ rfl (by show Value.int .i64 _ = _; congr 1; omega) HO4.out (HO4.out.pos (by omega)) (by omega) hlt4 ?_; intro v5 w5 hown5 hgrow5; have hX5 := heap_grownBy HX4.out hgrow5 (HO4.out.box); have HX5 := hid2 hX5; have HO5 := hid2 hown5; have HB5 := hid2 (HB4.out.grown hgrow5 HB4.out.size (fun kk hkk => by have := (HO4.out.lt kk hkk).1; omega)); clear hX5 hown5 hgrow5)
    | (at_builtin; refine wpList_append_sl _ rfl _ _ rfl (w.heap.size + 1) _ _ _ rfl HO3.out b _ l rfl (HSL.out.stays HB3.out) (by omega) hlt3 ?_; intro v4 w4 hown4 hgrow4; have hX4 := heap_grownBy HX3.out hgrow4 (HO3.out.box); obtain ⟨⟨q0, q1, q2⟩, _⟩ := three24 hX4; have hlt4 : w.heap.size < w4.heap.size := (Array.getElem?_eq_some_iff.1 hX4).1; obtain ⟨p4, c4, hv4⟩ := own_len hown4; subst hv4; have HX4 := hid2 hX4; have HO4 := hid2 hown4; have HB4 := hid2 (HB3.out.grown hgrow4 HB3.out.size (fun kk hkk => by have := (HO3.out.lt kk hkk).1; omega)); clear hX4 hown4 hgrow4)
    | (at_builtin; refine wpList_append_sl _ rfl _ _ rfl (w.heap.size + 1) _ _ _ rfl (HO2.out.alloc _) _ _ [k, l.length / 256, l.length % 256] rfl (sl_three_new _ _ _ _ _ _ _ (by omega) (by omega) (by omega)) (by simp) (by simp; omega) ?_; intro v3 w3 hown3 hgrow3; rw [show 8 + [k, l.length / 256, l.length % 256].length = 11 from rfl] at hown3; have hX3 := heap_grownBy (heap_alloc_old' HX2.out _) hgrow3 (HO2.out.box); obtain ⟨⟨q0, q1, q2⟩, _⟩ := three24 hX3; have hlt3 : w.heap.size < w3.heap.size := (Array.getElem?_eq_some_iff.1 hX3).1; have HX3 := hid2 hX3; have HO3 := hid2 hown3; have HB3 := hid2 ((HB2.out.alloc HB2.out.size _).grown hgrow3 (by simp; omega) (fun kk hkk => by have := (HO2.out.lt kk hkk).1; omega)); clear hX3 hown3 hgrow3))
  have e6 : (U (w8 s 8) ++ U [k, l.length / 256, l.length % 256] ++ U l ++ List.replicate (233 - l.length) (Value.int .u8 0)) = U (body s k l) := by
    rw [U_zeros, ← U_append, ← U_append, ← U_append]; rfl
  have hO6 := HO5.out
  rw [e6] at hO6
  obtain ⟨b6, _, hs6⟩ := own_sl hO6
  obtain ⟨v6, hv6⟩ : ∃ v6, v6 = v5 := ⟨_, rfl⟩
  rw [← hv6] at hs6 ⊢
  have HS6 := hid2 hs6
  have HX6 : Hid (w5.drew.heap[w.heap.size]? = some (.cells #[.int .i64 (s : Int), .int .i64 (k : Int), .slice p l.length cap] 50 (0, 0))) := HX5.out
  have HB6 : Hid (Below w.heap.size w w5.drew) := HB5.out.drew
  clear hO6 hs6 e6 hv6 HO5 HO4 HO3 HO2 HX2 HX3 HX4 HX5 HB2 HB3 HB4 HB5
  refine wp_region_held_drew (S := fun w' => w'.heap[w.heap.size]? = some (.cells #[.int .i64 (s : Int), .int .i64 (k : Int), .slice p l.length cap] 50 (0, 0))) (by kernel_rfl) (HX6.out) (fun hS => ?_)
  change wpAnyH _ _ _ _ _ _ _ _ (World.drew _)
  refine wpAnyH_take (i := 0) (v := v6) rfl (by kernel_rfl) (by kernel_rfl) (by kernel_rfl) (fun _ _ _ h => h) (Or.inl ⟨by kernel_rfl, ?_⟩) hS ?_
  · intro w hw; clear hw; go_simp
  change wpAnyH _ _ _ _ _ _ _ (Act.put _ (some 39) _) _
  simp only [Act.put, List.setIfInBounds_toArray, List.set_cons_succ, List.set_cons_zero]
  refine wpAnyH_take (i := 2) (v := .pointer (some ⟨w.heap.size, 0, none⟩)) rfl (by kernel_rfl) (by kernel_rfl) (by kernel_rfl) (fun _ _ _ h => h) (Or.inl ⟨by kernel_rfl, ?_⟩) hS ?_
  · intro w hw; clear hw; go_simp
  change wpAnyH _ _ _ _ _ _ _ (Act.put _ (some 41) _) _
  simp only [Act.put, List.setIfInBounds_toArray, List.set_cons_succ, List.set_cons_zero]
  refine wpAnyH_take (i := 3) (v := .int .i64 (s : Int)) rfl (by kernel_rfl) (by kernel_rfl) (by kernel_rfl) (fun _ _ _ h => h) (Or.inl ⟨by kernel_rfl, ?_⟩) hS ?_
  · intro W hw
    obtain ⟨⟨q0, q1, q2⟩, _⟩ := three24 hw
    go_simp
  change wpAnyH _ _ _ _ _ _ _ (Act.put _ (some 42) _) _
  simp only [Act.put, List.setIfInBounds_toArray, List.set_cons_succ, List.set_cons_zero]
  refine wpAnyH_take (i := 4) (v := .int .u64 (s : Int)) rfl (by kernel_rfl) (by kernel_rfl) (by kernel_rfl) (fun _ _ _ h => h) (Or.inl ⟨by kernel_rfl, ?_⟩) hS ?_
  · intro w hw; clear hw; go_simp
  change wpAnyH _ _ _ _ _ _ _ (Act.put _ (some 43) _) _
  simp only [Act.put, List.setIfInBounds_toArray, List.set_cons_succ, List.set_cons_zero]
  refine wpAnyH_ready (rs := [1]) (by kernel_rfl) (by simp) ?_
  refine AllReadyH.cons rfl (fun K hK => ?_) AllReadyH.nil
  go_simp
  go_wp2_with (go_at_call 64; refine (seal_any (b := b6) (l := body s k l) (HS6.out.stays (Below.refl _ _).drew) (body_byt HK2.out HN.out HBY.out) (by rw [body_length HN.out]; omega)).mono ?_; rintro e wa ⟨sv8, rfl, hown8, hb8⟩)
  refine hK.out _ _ (heap_stays hS hb8) (fun hS => ?_)
  clear hK K
  skip
  refine wpAnyH_ready (rs := [5]) (by kernel_rfl) (by simp) ?_
  refine AllReadyH.cons rfl (fun K hK => ?_) AllReadyH.nil
  go_simp
  go_wp2_with (go_at_call 63; refine (wordB s HS64.out (Classical.choose_spec (own_sl hown8)).2 (by rw [sealL_length, body_length HN.out]; omega)).mono ?_; rintro e w9 ⟨sv9, rfl, hown9, hb9⟩)
  refine hK.out _ _ (heap_stays hS hb9) (fun hS => ?_)
  clear hK K
  skip
  refine wpAnyH_take (i := 6) (v := sv9) rfl (by kernel_rfl) (by kernel_rfl) (by kernel_rfl) (fun _ _ _ h => h) (Or.inl ⟨by kernel_rfl, ?_⟩) hS ?_
  · intro w hw; clear hw; go_simp
  change wpAnyH _ _ _ _ _ _ _ (Act.put _ (some 2) _) _
  simp only [Act.put, List.setIfInBounds_toArray, List.set_cons_succ, List.set_cons_zero]
  refine wpAnyH_take (i := 7) (v := .nilIface) rfl (by kernel_rfl) (by kernel_rfl) (by kernel_rfl) (fun _ _ _ h => h) (Or.inl ⟨by kernel_rfl, ?_⟩) hS ?_
  · intro w hw; clear hw; go_simp
  change wpAnyH _ _ _ _ _ _ _ (Act.put _ (some 3) _) _
  simp only [Act.put, List.setIfInBounds_toArray, List.set_cons_succ, List.set_cons_zero]
  refine wpAnyH_done (by kernel_rfl) ?_ _
  have hB9 : Below w.heap.size w w9 := (HB6.out.trans (hb8.mono HB6.out.size)).trans (hb9.mono (Nat.le_trans HB6.out.size hb8.size))
  obtain ⟨b9, _, hs9⟩ := own_sl hown9
  rw [show (sealL (body s k l) ++ w8 s 8) = page s k l from rfl] at hs9
  obtain ⟨o9, c9, hv9, hp9⟩ := PgAt.of hs9 (page_length HN.out) (page_byt HK2.out HN.out HBY.out)
  subst hv9
  have hO9 := own_lower (B' := w.heap.size) hown9 (Nat.le_trans HB6.out.size hb8.size)
  rw [sealL_length, body_length HN.out] at hO9
  clear hown8 hown9 hs9
  go_wp2
  go_ret2
  exact ⟨b9, o9, c9, rfl, hp9, hO9, hB9⟩
set_option maxHeartbeats 4000000 in
set_option maxRecDepth 10000 in
theorem rput_good {w : World} {b : Nat} {p : Option Addr} {cap s k : Nat} {l : List Nat} (h : SlAt w b (.slice p l.length cap) (U l)) (hby : Byt l) (hs1 : 1 ≤ s) (hs2 : s ≤ 1099511627776) (hk1 : 1 ≤ k) (hk2 : k ≤ 5) (hn : l.length ≤ 233) :
    Calls Tryz.prog 33 #[.agg #[.int .i64 (s : Int), .int .i64 (k : Int), .slice p l.length cap]] w fun e w' => ∃ b' off cap', e = .returned (.tuple #[.slice (some ⟨b', off, none⟩) 256 cap', .int .i64 0]) ∧ PgAt w' b' off cap' (page s k l) ∧ w'.ownsRow w.heap.size 5 1 (.slice (some ⟨b', off, none⟩) 256 cap') 256 (U (page s k l)) ∧ Below w.heap.size w w' := by
  have hb0 : Below w.heap.size w (w.alloc (.cells #[.int .i64 (s : Int), .int .i64 (k : Int), .slice p l.length cap] 50)) := by go_grown
  have hx0 : (w.alloc (.cells #[.int .i64 (s : Int), .int .i64 (k : Int), .slice p l.length cap] 50)).heap[w.heap.size]? = some (.cells #[.int .i64 (s : Int), .int .i64 (k : Int), .slice p l.length cap] 50 (0, 0)) := heap_alloc_new w _
  have hc0 : checkC (s : Int) (k : Int) l.length = 0 := check_fine (by omega) (by omega) (by omega) (by omega) hn
  have K0 := rcheck_any (s : Int) (k : Int) p l.length cap (w.alloc (.cells #[.int .i64 (s : Int), .int .i64 (k : Int), .slice p l.length cap] 50))
  rw [hc0] at K0
  have HK := hid2 K0
  have HB0 := hid2 hb0
  have HX0 := hid2 hx0
  have HSL := hid2 h
  have HBY := hid2 hby
  have HN := hid2 hn
  have HK2 : Hid (k < 256) := by show k < 256; omega
  have HS64 : Hid (s ≤ 18446744073709551615) := by show _ ≤ _; omega
  have hwr : IntKind.u64.wrap (s : Int) = s := by rw [IntKind.wrap_u64]; omega
  clear h hby hb0 hx0 hc0 K0
  go_enter Tryz.func33, Tryz.ntmps33
  go_wp2_with fail
  refine (show Calls _ _ _ _ _ from HK).mono ?_
  rintro e w1 ⟨rfl, hb1⟩
  have HX1 := hid2 (heap_stays HX0.out hb1)
  have HB1 := hid2 (HB0.out.trans (hb1.mono HB0.out.size))
  obtain ⟨⟨q0, q1, q2⟩, _⟩ := three24 HX1.out
  have hlt1 : w.heap.size < w1.heap.size := (Array.getElem?_eq_some_iff.1 HX1.out).1
  clear hb1 HX0 HB0 HK
  go_wp2_with fail
  refine (rwordB s HS64.out (SlAt.nil w1 0) (l := []) (by simp)).mono ?_
  rintro e w2 ⟨v2, rfl, hown2, hb2⟩
  rw [List.length_nil, Nat.zero_add, List.nil_append] at hown2
  have HX2 := hid2 (heap_stays HX1.out hb2)
  have HB2 := hid2 (HB1.out.trans (hb2.mono HB1.out.size))
  have HO2 := hid2 (own_lower (B' := w.heap.size + 1) hown2 hlt1)
  obtain ⟨⟨q0, q1, q2⟩, _⟩ := three24 HX2.out
  have hlt2 : w.heap.size < w2.heap.size := (Array.getElem?_eq_some_iff.1 HX2.out).1
  clear hown2 hb2 HX1
  go_wp2_with (first
    | (at_builtin; refine wpList_append_sl _ rfl _ _ rfl (w.heap.size + 1) _ _ _ rfl HO3.out b _ l rfl (HSL.out.stays HB3.out) (by omega) hlt3 ?_; intro v4 w4 hown4 hgrow4; have hX4 := heap_grownBy HX3.out hgrow4 (HO3.out.box); obtain ⟨⟨q0, q1, q2⟩, _⟩ := three24 hX4; have hlt4 : w.heap.size < w4.heap.size := (Array.getElem?_eq_some_iff.1 hX4).1; have HX4 := hid2 hX4; have HO4 := hid2 hown4; have HB4 := hid2 (HB3.out.grown hgrow4 HB3.out.size (fun kk hkk => by have := (HO3.out.lt kk hkk).1; omega)); clear hX4 hown4 hgrow4)
    | (at_builtin; refine wpList_append_sl _ rfl _ _ rfl (w.heap.size + 1) _ _ _ rfl (HO2.out.alloc _) _ _ [k, l.length / 256, l.length % 256] rfl (sl_three_new _ _ _ _ _ _ _ (by omega) (by omega) (by omega)) (by simp) (by simp; omega) ?_; intro v3 w3 hown3 hgrow3; rw [show 8 + [k, l.length / 256, l.length % 256].length = 11 from rfl] at hown3; have hX3 := heap_grownBy (heap_alloc_old' HX2.out _) hgrow3 (HO2.out.box); obtain ⟨⟨q0, q1, q2⟩, _⟩ := three24 hX3; have hlt3 : w.heap.size < w3.heap.size := (Array.getElem?_eq_some_iff.1 hX3).1; have HX3 := hid2 hX3; have HO3 := hid2 hown3; have HB3 := hid2 ((HB2.out.alloc HB2.out.size _).grown hgrow3 (by simp; omega) (fun kk hkk => by have := (HO2.out.lt kk hkk).1; omega)); clear hX3 hown3 hgrow3))
  have hO4 := HO4.out
  rw [← U_append, ← U_append] at hO4
  go_loopg [5] (233 - l.length) (fun g v wr => ∃ z : Nat, z ≤ 233 - l.length ∧ g = 233 - l.length - z ∧ wr.ownsRow (w.heap.size + 1) 5 1 v (11 + l.length + z) (U (w8 s 8 ++ [k, l.length / 256, l.length % 256] ++ l ++ List.replicate z 0)) ∧ wr.heap[w.heap.size]? = some (.cells #[.int .i64 (s : Int), .int .i64 (k : Int), .slice p l.length cap] 50 (0, 0)) ∧ Below w.heap.size w wr)
  case atStart => exact ⟨0, Nat.zero_le _, rfl, by simpa using hO4, HX4.out, HB4.out⟩
  case round =>
    clear hO4 HO4 HO3 HO2 HX2 HX3 HX4 HB2 HB3 HB4
    obtain ⟨z, hz, hg, ho, hx, hbr⟩ := hrel
    have HG : Hid (gk = 233 - l.length - z) := hg
    have HO := hid2 ho
    have HX := hid2 hx
    have HB := hid2 hbr
    have hltr : w.heap.size < wr.heap.size := (Array.getElem?_eq_some_iff.1 hx).1
    obtain ⟨pr, cr, hvr⟩ := own_len ho
    subst hvr
    clear hg ho hx hbr
    by_cases hlt : z < 233 - l.length
    · have hli : (11 : Int) + (l.length : Int) + (z : Int) < 244 := by omega
      go_wp2_with (at_builtin; refine wpList_append_sl _ rfl _ _ rfl (w.heap.size + 1) _ _ _ rfl (HO.out.alloc _) _ _ [0] rfl (sl_one_new _ _ _ rfl) (by simp; omega) (by simp; omega) ?_; intro v1 w1' hown1 hgrow1)
      go_roundg (233 - l.length - (z + 1))
      case measure => rw [HG.out]; omega
      case rel =>
        refine ⟨z + 1, by omega, rfl, ?_, heap_grownBy (heap_alloc_old' HX.out _) hgrow1 HO.out.box, ?_⟩
        · rw [← U_append, List.append_assoc (w8 s 8 ++ [k, l.length / 256, l.length % 256] ++ l), ← List.replicate_succ'] at hown1
          exact hown1
        · exact (HB.out.alloc HB.out.size _).grown hgrow1 (by simp; omega) (fun kk hkk => by have := (HO.out.lt kk hkk).1; omega)
    · have hz2 : z = 233 - l.length := by omega
      have hli : ¬ ((11 : Int) + (l.length : Int) + (z : Int) < 244) := by omega
      have hO6 := HO.out
      rw [show (w8 s 8 ++ [k, l.length / 256, l.length % 256] ++ l ++ List.replicate z 0) = body s k l by rw [hz2]; rfl] at hO6
      obtain ⟨b6, _, hs6⟩ := own_sl hO6
      have HS6 := hid2 hs6
      have HX6 : Hid (wr.drew.heap[w.heap.size]? = some (.cells #[.int .i64 (s : Int), .int .i64 (k : Int), .slice p l.length cap] 50 (0, 0))) := HX.out
      have HB6 : Hid (Below w.heap.size w wr.drew) := HB.out.drew
      clear hO6 hs6 HO HX HB hz2
      go_wp2_with fail
      refine wp_region_held_drew (S := fun w' => w'.heap[w.heap.size]? = some (.cells #[.int .i64 (s : Int), .int .i64 (k : Int), .slice p l.length cap] 50 (0, 0))) (by kernel_rfl) (HX6.out) (fun hS => ?_)
      change wpAnyH _ _ _ _ _ _ _ _ (World.drew _)
      refine wpAnyH_take (i := 0) (v := .slice pr (11 + l.length + z) cr) rfl (by kernel_rfl) (by kernel_rfl) (by kernel_rfl) (fun _ _ _ h => h) (Or.inl ⟨by kernel_rfl, ?_⟩) hS ?_
      · intro w hw; clear hw; go_simp
      change wpAnyH _ _ _ _ _ _ _ (Act.put _ (some 41) _) _
      simp only [Act.put, List.setIfInBounds_toArray, List.set_cons_succ, List.set_cons_zero]
      refine wpAnyH_take (i := 2) (v := .pointer (some ⟨w.heap.size, 0, none⟩)) rfl (by kernel_rfl) (by kernel_rfl) (by kernel_rfl) (fun _ _ _ h => h) (Or.inl ⟨by kernel_rfl, ?_⟩) hS ?_
      · intro w hw; clear hw; go_simp
      change wpAnyH _ _ _ _ _ _ _ (Act.put _ (some 43) _) _
      simp only [Act.put, List.setIfInBounds_toArray, List.set_cons_succ, List.set_cons_zero]
      refine wpAnyH_take (i := 3) (v := .int .i64 (s : Int)) rfl (by kernel_rfl) (by kernel_rfl) (by kernel_rfl) (fun _ _ _ h => h) (Or.inl ⟨by kernel_rfl, ?_⟩) hS ?_
      · intro W hw
        obtain ⟨⟨q0, q1, q2⟩, _⟩ := three24 hw
        go_simp
      change wpAnyH _ _ _ _ _ _ _ (Act.put _ (some 44) _) _
      simp only [Act.put, List.setIfInBounds_toArray, List.set_cons_succ, List.set_cons_zero]
      refine wpAnyH_take (i := 4) (v := .int .u64 (s : Int)) rfl (by kernel_rfl) (by kernel_rfl) (by kernel_rfl) (fun _ _ _ h => h) (Or.inl ⟨by kernel_rfl, ?_⟩) hS ?_
      · intro w hw; clear hw; go_simp
      change wpAnyH _ _ _ _ _ _ _ (Act.put _ (some 45) _) _
      simp only [Act.put, List.setIfInBounds_toArray, List.set_cons_succ, List.set_cons_zero]
      refine wpAnyH_ready (rs := [1]) (by kernel_rfl) (by simp) ?_
      refine AllReadyH.cons rfl (fun K hK => ?_) AllReadyH.nil
      go_simp
      go_wp2_with (go_at_call 58; refine (rseal_any (b := b6) (l := body s k l) (HS6.out.stays (Below.refl _ _).drew) (body_byt HK2.out HN.out HBY.out) (by rw [body_length HN.out]; omega)).mono ?_; rintro e wa ⟨sv8, rfl, hown8, hb8⟩)
      refine hK.out _ _ (heap_stays hS hb8) (fun hS => ?_)
      clear hK K
      skip
      refine wpAnyH_ready (rs := [5]) (by kernel_rfl) (by simp) ?_
      refine AllReadyH.cons rfl (fun K hK => ?_) AllReadyH.nil
      go_simp
      go_wp2_with (go_at_call 57; refine (rwordB s HS64.out (Classical.choose_spec (own_sl hown8)).2 (by rw [sealL_length, body_length HN.out]; omega)).mono ?_; rintro e w9 ⟨sv9, rfl, hown9, hb9⟩)
      refine hK.out _ _ (heap_stays hS hb9) (fun hS => ?_)
      clear hK K
      skip
      refine wpAnyH_take (i := 6) (v := sv9) rfl (by kernel_rfl) (by kernel_rfl) (by kernel_rfl) (fun _ _ _ h => h) (Or.inl ⟨by kernel_rfl, ?_⟩) hS ?_
      · intro w hw; clear hw; go_simp
      change wpAnyH _ _ _ _ _ _ _ (Act.put _ (some 2) _) _
      simp only [Act.put, List.setIfInBounds_toArray, List.set_cons_succ, List.set_cons_zero]
      refine wpAnyH_take (i := 7) (v := .int .i64 0) rfl (by kernel_rfl) (by kernel_rfl) (by kernel_rfl) (fun _ _ _ h => h) (Or.inl ⟨by kernel_rfl, ?_⟩) hS ?_
      · intro w hw; clear hw; go_simp
      change wpAnyH _ _ _ _ _ _ _ (Act.put _ (some 3) _) _
      simp only [Act.put, List.setIfInBounds_toArray, List.set_cons_succ, List.set_cons_zero]
      refine wpAnyH_done (by kernel_rfl) ?_ _
      have hB9 : Below w.heap.size w w9 := (HB6.out.trans (hb8.mono HB6.out.size)).trans (hb9.mono (Nat.le_trans HB6.out.size hb8.size))
      obtain ⟨b9, _, hs9⟩ := own_sl hown9
      rw [show (sealL (body s k l) ++ w8 s 8) = page s k l from rfl] at hs9
      obtain ⟨o9, c9, hv9, hp9⟩ := PgAt.of hs9 (page_length HN.out) (page_byt HK2.out HN.out HBY.out)
      subst hv9
      have hO9 := own_lower (B' := w.heap.size) hown9 (Nat.le_trans HB6.out.size hb8.size)
      rw [sealL_length, body_length HN.out] at hO9
      clear hown8 hown9 hs9
      go_wp2
      go_ret2
      exact ⟨b9, o9, c9, rfl, hp9, hO9, hB9⟩
end Go.Proofs.YtkbfihnoohhojaaGreatDoor.Lea
