/-
  A reader in memory: Read, Code, At, Left, Fail, End, Number of the program.
-/
import Derived.Test.YtgmghekgelmmcaaDoorQINumber
namespace Go.Proofs.YtgmghekgelmmcaaDoor.Ite
open Go.RowKit

/-- Block g is, in w's memory, a reader of these bytes, that stands at a, with that code. -/
def Rd (w : World) (g : Nat) (bs : List Int) (a : Nat) (code : Int) : Prop :=
  ∃ sv b, w.heap[g]? = some (.cells #[sv, .int .i64 a, .int .i64 code] 112 (0, 0)) ∧ SlAt w b sv (U bs) ∧ b ≠ g ∧ a ≤ bs.length ∧ T5 w b (U bs)

theorem Rd.keeps {w w' : World} {g : Nat} {bs : List Int} {a : Nat} {code : Int} (h : Rd w g bs a code) (hb : Below w.heap.size w w') : Rd w' g bs a code := by
  obtain ⟨sv, b, h1, h2, h3, h4, hT⟩ := h
  exact ⟨sv, b, by rw [hb.block g (Array.getElem?_eq_some_iff.1 h1).1]; exact h1, h2.stays hb, h3, h4, hT.keeps (hb.block b)⟩

theorem Rd.grown {w w' : World} {g x : Nat} {bs : List Int} {a : Nat} {code : Int} (h : Rd w g bs a code) (hb : w.grownBy w' (some x)) (hx : ∀ k, k < w.heap.size → k = x → w'.heap[k]? = w.heap[k]?) : Rd w' g bs a code := by
  refine h.keeps ⟨hb.os, hb.tape, hb.output, hb.size, fun k hk => ?_⟩
  by_cases e : k = x
  · exact hx k hk e
  · exact hb.block k hk (by simpa using e)

/-- The cells of a reader. -/
theorem cells60 {w : World} {g : Nat} {x0 x1 x2 : Value} (hh : w.heap[g]? = some (.cells #[x0, x1, x2] 112 (0, 0))) :
    w.cell? ⟨g, 0, none⟩ = some x0 ∧ w.cell? ⟨g, 1, none⟩ = some x1 ∧ w.cell? ⟨g, 2, none⟩ = some x2 ∧ w.frozen? ⟨g, 1, none⟩ = false ∧ w.frozen? ⟨g, 2, none⟩ = false := by
  refine ⟨?_, ?_, ?_, ?_, ?_⟩ <;> simp [World.cell?, World.frozen?, hh]

/-- Such a slice, with a block other than g. -/
theorem SlAt.apart {w : World} {b : Nat} {v : Value} {xs : List Value} (h : SlAt w b v xs) (hT : T5 w b xs) (g : Nat) (hg : w.heap.size ≤ g) : ∃ b', b' ≠ g ∧ SlAt w b' v xs ∧ T5 w b' xs := by
  rcases hT with hT | ⟨cur, fr, hT⟩
  · rcases h with h | ⟨a, cap, h1, h2, h3, _⟩
    · exact ⟨g + 1, by omega, .inl h, .inl hT⟩
    · exact ⟨g + 1, by omega, .inr ⟨a, cap, h1, h2, h3, .inl hT⟩, .inl hT⟩
  · have := (Array.getElem?_eq_some_iff.1 hT).1
    exact ⟨b, by omega, h, .inr ⟨cur, fr, hT⟩⟩

set_option maxHeartbeats 1000000 in
set_option maxRecDepth 10000 in
theorem read_any {w : World} {b : Nat} {v : Value} {bs : List Int} (h : SlAt w b v (U bs)) (hb : bs.length ≤ 30000) :
    Calls Tryd.prog 51 #[v] w fun e w' => ∃ g, e = .returned (.pointer (some ⟨g, 0, none⟩)) ∧ w.heap.size ≤ g ∧ Rd w' g bs 0 0 ∧ Below w.heap.size w w' := by
  go_enter Tryd.func51, Tryd.ntmps51
  go_wp2_with (go_at_call 71; refine (room_any 0 h (by omega)).mono ?_; rintro e w1 ⟨sv, rfl, hown, hb1⟩; obtain ⟨b1, hb11, hs1, ht1⟩ := own_sl5 hown; obtain ⟨p1, cap1, hsv, _, _⟩ := hs1.form; subst hsv; clear hown)
  go_ret
  obtain ⟨b2, hb2, hs2, ht2⟩ := hs1.apart ht1 w1.heap.size (Nat.le_refl _)
  exact ⟨_, rfl, hb1.size, ⟨_, b2, heap_alloc_new w1 _, hs2.keeps (by simp) (fun hlt => Below.heap_alloc _ _ _ hlt), hb2, Nat.zero_le _, ht2.keeps (fun hlt => Below.heap_alloc _ _ _ hlt)⟩, hb1.alloc hb1.size _⟩

theorem code_any {w : World} {g : Nat} {bs : List Int} {a : Nat} {code : Int} (h : Rd w g bs a code) :
    Calls Tryd.prog 55 #[.pointer (some ⟨g, 0, none⟩)] w fun e w' => e = .returned (.int .i64 code) ∧ w' = w := by
  obtain ⟨sv, b, h1, h2, h3, h4, hT⟩ := h
  obtain ⟨c0, c1, c2, _⟩ := cells60 h1
  clear h1
  go_enter Tryd.func55, Tryd.ntmps55
  go_wp2
  go_ret
  exact ⟨rfl, rfl⟩

theorem at_any {w : World} {g : Nat} {bs : List Int} {a : Nat} {code : Int} (h : Rd w g bs a code) :
    Calls Tryd.prog 53 #[.pointer (some ⟨g, 0, none⟩)] w fun e w' => e = .returned (.int .i64 a) ∧ w' = w := by
  obtain ⟨sv, b, h1, h2, h3, h4, hT⟩ := h
  obtain ⟨c0, c1, c2, _⟩ := cells60 h1
  clear h1
  go_enter Tryd.func53, Tryd.ntmps53
  go_wp2
  go_ret
  exact ⟨rfl, rfl⟩

theorem left_any {w : World} {g : Nat} {bs : List Int} {a : Nat} {code : Int} (h : Rd w g bs a code) :
    Calls Tryd.prog 52 #[.pointer (some ⟨g, 0, none⟩)] w fun e w' => e = .returned (.int .i64 ((bs.length : Int) - a)) ∧ ∃ n, w' = w.drewN n := by
  obtain ⟨sv, b, h1, h2, h3, h4, hT⟩ := h
  obtain ⟨c0, c1, c2, _⟩ := cells60 h1
  obtain ⟨p, cap, rfl, h5, h6⟩ := h2.form
  unfold maxLen at h6
  rw [U_length] at c0 h5
  clear h1 h2
  go_enter Tryd.func52, Tryd.ntmps52
  go_wp2_with fail
  go_quiet (fail)
  go_wp2
  go_ret
  exact ⟨rfl, _, rfl⟩

theorem grownBy_trans {w w1 w2 : World} {g : Nat} (h : w.grownBy w1 (some g)) (k : w1.grownBy w2 (some g)) : w.grownBy w2 (some g) :=
  ⟨k.os.trans h.os, k.tape.trans h.tape, k.output.trans h.output, Nat.le_trans h.size k.size, fun i hi hne => (k.block i (Nat.lt_of_lt_of_le hi h.size) hne).trans (h.block i hi hne)⟩

theorem below_grownBy {w w1 : World} (h : Below w.heap.size w w1) (row : Option Nat) : w.grownBy w1 row := ⟨h.os, h.tape, h.output, h.size, fun k hk _ => h.block k hk⟩

theorem drewN_grownBy (w : World) (n : Nat) (row : Option Nat) : w.grownBy (w.drewN n) row := below_grownBy (below_drewN w n _) row

theorem setCell_grownBy (w : World) (g j : Nat) (u : Value) : w.grownBy (w.setCell ⟨g, j, none⟩ u) (some g) :=
  ⟨rfl, rfl, rfl, by simp [World.setCell], fun k _ hk => Below.heap_setCell w ⟨g, j, none⟩ u k (by simpa using hk)⟩

theorem Rd.setCode {w : World} {g : Nat} {bs : List Int} {a : Nat} {code : Int} (h : Rd w g bs a code) (c : Int) : Rd (w.setCell ⟨g, 2, none⟩ (.int .i64 c)) g bs a c := by
  obtain ⟨sv, b, h1, h2, h3, h4, hT⟩ := h
  refine ⟨sv, b, ?_, h2.grown (setCell_grownBy w g 2 _) h3, h3, h4, hT.grown (setCell_grownBy w g 2 _) h3⟩
  rw [heap_setCell_same w g 2 _ 112 _ h1]; rfl

theorem Rd.setAt {w : World} {g : Nat} {bs : List Int} {a : Nat} {code : Int} (h : Rd w g bs a code) (a' : Nat) (ha : a' ≤ bs.length) : Rd (w.setCell ⟨g, 1, none⟩ (.int .i64 a')) g bs a' code := by
  obtain ⟨sv, b, h1, h2, h3, h4, hT⟩ := h
  refine ⟨sv, b, ?_, h2.grown (setCell_grownBy w g 1 _) h3, h3, ha, hT.grown (setCell_grownBy w g 1 _) h3⟩
  rw [heap_setCell_same w g 1 _ 112 _ h1]; rfl

theorem Rd.drewN {w : World} {g : Nat} {bs : List Int} {a : Nat} {code : Int} (h : Rd w g bs a code) (n : Nat) : Rd (w.drewN n) g bs a code := h.keeps (below_drewN w n _)

set_option maxHeartbeats 1000000 in
theorem fail_zero {w : World} {g : Nat} {bs : List Int} {a : Nat} (c : Int) (h : Rd w g bs a 0) :
    Calls Tryd.prog 74 #[.pointer (some ⟨g, 0, none⟩), .int .i64 c] w fun e w' => e = .returned (.tuple #[]) ∧ Rd w' g bs a c ∧ w.grownBy w' (some g) := by
  have h' := h
  obtain ⟨sv, b, h1, h2, h3, h4, hT⟩ := h
  obtain ⟨c0, c1, c2, f1, f2⟩ := cells60 h1
  clear h1 h2
  go_enter Tryd.func74, Tryd.ntmps74
  go_wp2
  go_end0
  exact ⟨rfl, h'.setCode c, setCell_grownBy _ _ _ _⟩

/-- What End answers. -/
def endC (bs : List Int) (a : Nat) (code : Int) : Int := if code = 0 ∧ a < bs.length then 5 else code



/-- Elements from lo to hi, as a slice. -/
theorem SlAt.cut {w : World} {b : Nat} {p : Option Addr} {cap : Nat} {xs : List Value} (h : SlAt w b (.slice p xs.length cap) xs) (lo hi : Nat) (h1 : lo ≤ hi) (h2 : hi ≤ xs.length) :
    SlAt w b (sliced p lo hi cap 1) ((xs.take hi).drop lo) := by
  have hl : ((xs.take hi).drop lo).length = hi - lo := by rw [List.length_drop, List.length_take]; omega
  rcases h with ⟨h3, rfl⟩ | ⟨a, cap', h3, h4, h5, h6⟩
  · simp only [Value.slice.injEq] at h3
    obtain ⟨rfl, _, rfl⟩ := h3
    simp at h2
    have e : lo = 0 := by omega
    subst h2 e
    exact .inl ⟨rfl, rfl⟩
  · simp only [Value.slice.injEq, true_and] at h3
    obtain ⟨rfl, rfl⟩ := h3
    unfold sliced
    by_cases e : cap = lo
    · rw [if_pos e]
      exact .inr ⟨a, cap - lo, by rw [hl], by omega, by omega, .inl (List.eq_nil_of_length_eq_zero (by omega))⟩
    · rw [if_neg e]
      refine .inr ⟨a.add (lo * 1), cap - lo, by rw [hl]; rfl, by omega, by omega, ?_⟩
      rcases h6 with rfl | ⟨off, rfl, h7, h8⟩
      · left; simp
      · refine .inr ⟨off + lo, by rw [add_off, Nat.mul_one], h7, fun k u hk => ?_⟩
        rw [List.getElem?_drop, List.getElem?_take] at hk
        split at hk
        · have := h8 _ _ hk
          rwa [← Nat.add_assoc] at this
        · simp at hk

theorem U_drop (l : List Int) (k : Nat) : (U l).drop k = U (l.drop k) := by simp [U]
theorem U_take (l : List Int) (k : Nat) : (U l).take k = U (l.take k) := by simp [U]

/-- Bytes from lo to hi, as a slice. -/
theorem SlAt.cutU {w : World} {b : Nat} {p : Option Addr} {cap : Nat} {l : List Int} (h : SlAt w b (.slice p l.length cap) (U l)) (lo hi : Nat) (h1 : lo ≤ hi) (h2 : hi ≤ l.length) :
    SlAt w b (.slice (if cap = lo then p else p.map (·.add lo)) (hi - lo) (cap - lo)) (U ((l.take hi).drop lo)) := by
  rw [← U_length l] at h h2
  have := h.cut lo hi h1 h2
  rw [U_take, U_drop] at this
  simpa [sliced] using this

/-- What Number answers, and leaves. -/
def rdNum (bs : List Int) (a : Nat) (code most : Int) : Int × Nat × Int :=
  if code = 0 then (if (numG most 0 0 (bs.drop a)).2.2 = 0 then ((numG most 0 0 (bs.drop a)).1, a + (numG most 0 0 (bs.drop a)).2.1, 0) else (0, a, (numG most 0 0 (bs.drop a)).2.2)) else (0, a, code)

set_option maxHeartbeats 1000000 in
set_option maxRecDepth 10000 in
theorem rdnumber_any {w : World} {g : Nat} {bs : List Int} {a : Nat} {code : Int} (most : Int) (h0 : 0 ≤ most) (h1 : most ≤ 9223372036854775807) (h : Rd w g bs a code) (hby : Byt bs) (hl : bs.length ≤ 30000) :
    Calls Tryd.prog 73 #[.pointer (some ⟨g, 0, none⟩), .int .i64 most] w fun e w' => e = .returned (.int .i64 (rdNum bs a code most).1) ∧ Rd w' g bs (rdNum bs a code most).2.1 (rdNum bs a code most).2.2 ∧ w.grownBy w' (some g) := by
  have h' := h
  obtain ⟨sv, b, g1, h2, h3, h4, hT⟩ := h
  obtain ⟨c0, c1, c2, f1, f2⟩ := cells60 g1
  obtain ⟨p, cap, hsv, h5, h6⟩ := h2.form
  unfold maxLen at h6
  subst hsv
  rw [U_length] at c0 h5 h2
  have hbh := h2.cutU a bs.length h4 (Nat.le_refl _)
  rw [List.take_length] at hbh
  clear g1 h2
  by_cases hz : code = 0
  · subst hz
    have hn := numG_code most (bs.drop a) 0 0
    have hm := fun m s hh => numG_one most h1 (bs.drop a) (hby.drop a) m s hh
    obtain ⟨n, s, c, hR⟩ : ∃ n s c, numG most 0 0 (bs.drop a) = (n, s, c) := ⟨_, _, _, rfl⟩
    rw [List.length_drop] at hn
    rw [hR] at hn hm
    have HN : ∀ k, Calls Tryd.prog 82 #[.slice (if cap = a then p else p.map (·.add a)) (bs.length - a) (cap - a), .int .i64 most] (w.drewN k) fun e w' => e = .returned (.tuple #[.int .i64 n, .int .i64 s, .int .i64 c]) ∧ w' = w.drewN k := by
      intro k
      have := number_any (w := w.drewN k) most h0 h1 (bs := bs.drop a) (hbh.stays (below_drewN w k _)) (hby.drop a)
      rw [hR] at this
      exact this
    by_cases hc : c = 0
    · subst hc
      have hsl : s ≤ bs.length - a := by
        rcases hn with hn | hn | hn | hn <;> simp at hn
        omega
      have e : rdNum bs a 0 most = (n, a + s, 0) := by unfold rdNum; rw [if_pos rfl, hR, if_pos rfl]
      rw [e]
      have hnn := (hm n s rfl).2.2
      have hn1 : 0 ≤ n := hnn.1
      have hn2 : n ≤ most := hnn.2.1
      clear e hn hm hR hnn hbh
      have hN : Hid _ := HN
      clear HN
      go_enter Tryd.func73, Tryd.ntmps73
      go_wp2_with fail
      go_quiet ((go_at_call 82; exact Calls.quiet_of_same (hN.out _)))
      go_wp2
      all_goals go_ret
      all_goals exact ⟨rfl, (h'.drewN _).setAt _ (by omega), grownBy_trans (drewN_grownBy w _ _) (setCell_grownBy _ _ _ _)⟩
    · have e : rdNum bs a 0 most = (0, a, c) := by unfold rdNum; rw [if_pos rfl, hR, if_neg hc]
      rw [e]
      clear e hn hm hR hbh
      have hN : Hid _ := HN
      clear HN
      go_enter Tryd.func73, Tryd.ntmps73
      go_wp2_with fail
      go_quiet ((go_at_call 82; exact Calls.quiet_of_same (hN.out _)))
      go_wp2
      all_goals go_ret
      all_goals exact ⟨rfl, (h'.drewN _).setCode _, grownBy_trans (drewN_grownBy w _ _) (setCell_grownBy _ _ _ _)⟩
  · have e : rdNum bs a code most = (0, a, code) := by unfold rdNum; rw [if_neg hz]
    rw [e]; clear e
    go_enter Tryd.func73, Tryd.ntmps73
    go_wp2
    go_ret
    exact ⟨rfl, h', ⟨rfl, rfl, rfl, Nat.le_refl _, fun _ _ _ => rfl⟩⟩
end Go.Proofs.YtgmghekgelmmcaaDoor.Ite
