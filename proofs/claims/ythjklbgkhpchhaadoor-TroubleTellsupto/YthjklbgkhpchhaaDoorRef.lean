/-
  Links in a slice, and the document's answers Fault, Wrap, Has at this seat.
-/
import Derived.Test.YthjklbgkhpchhaaDoorText
import Derived.Test.YthjklbgkhpchhaaDoorErrIs
namespace Go.Proofs.YthjklbgkhpchhaaDoor
open Go.RowKit Go.Extern.Stop Go.Stop Go.Extern

/-- The three cells of each link, from an address on. -/
def StepCells (w : World) (b off : Nat) (ls : List Lnk) : Prop :=
  ∀ k op a c, ls[k]? = some (op, a, c) → w.cell? ⟨b, off + k * 3, none⟩ = some (.string op) ∧ w.cell? ⟨b, off + k * 3 + 1, none⟩ = some (.int .i64 a) ∧ w.cell? ⟨b, off + k * 3 + 2, none⟩ = some (.int .i64 c)
/-- The value is a slice of these links. -/
def Steps (w : World) (v : Value) (ls : List Lnk) : Prop :=
  ∃ p cap, v = .slice p ls.length cap ∧ ls.length ≤ maxLen ∧ (ls = [] ∨ ∃ b off, p = some ⟨b, off, none⟩ ∧ b < w.heap.size ∧ StepCells w b off ls)

theorem Steps.stays {w w' : World} {v : Value} {ls : List Lnk} (h : Steps w v ls) (hb : Below w.heap.size w w') : Steps w' v ls := by
  obtain ⟨p, cap, h1, h2, h3⟩ := h
  refine ⟨p, cap, h1, h2, ?_⟩
  rcases h3 with h3 | ⟨b, off, h3, h4, h5⟩
  · exact .inl h3
  · refine .inr ⟨b, off, h3, Nat.lt_of_lt_of_le h4 hb.size, fun k op a c hk => ?_⟩
    obtain ⟨x, y, z⟩ := h5 k op a c hk
    exact ⟨(hb.cell (p := ⟨b, _, none⟩) h4).trans x, (hb.cell (p := ⟨b, _, none⟩) h4).trans y, (hb.cell (p := ⟨b, _, none⟩) h4).trans z⟩

theorem Steps.of_own {w : World} {B : Nat} {v : Value} {ls : List Lnk} (h : w.ownsRow B 32 3 v ls.length (cellsOf ls)) (hl : ls.length ≤ maxLen) : Steps w v ls := by
  cases hls : ls with
  | nil =>
    rw [hls] at h
    obtain ⟨p, cap, rfl⟩ := own_len h
    exact ⟨p, cap, rfl, Nat.zero_le _, .inl rfl⟩
  | cons l r =>
    rw [hls] at h hl
    obtain ⟨g, cap, rfl, _, g2, _, _, g5⟩ := own_at (n := r.length) h
    refine ⟨_, cap, rfl, hl, .inr ⟨g, 0, rfl, g2, fun k op a c hk => ?_⟩⟩
    obtain ⟨x, y, z⟩ := cellsOf_at _ k op a c hk
    rw [Nat.zero_add]
    exact ⟨g5 _ _ x, g5 _ _ y, g5 _ _ z⟩

/-- The cells, one behind the other. -/
theorem StepCells.cells {w : World} {b off : Nat} {ls : List Lnk} (h : StepCells w b off ls) : ∀ j u, (cellsOf ls)[j]? = some u → w.cell? ((⟨b, off, none⟩ : Addr).add j) = some u := by
  intro j u hj
  have hadd : (⟨b, off, none⟩ : Addr).add j = ⟨b, off + j, none⟩ := by unfold Addr.add; split <;> simp_all
  have hlen : j < (cellsOf ls).length := (List.getElem?_eq_some_iff.1 hj).1
  rw [cellsOf_length] at hlen
  have hk : j / 3 < ls.length := by omega
  obtain ⟨k, op, x, y, hl, hj3⟩ : ∃ k op x y, ls[k]? = some (op, x, y) ∧ (j = k * 3 ∨ j = k * 3 + 1 ∨ j = k * 3 + 2) :=
    ⟨j / 3, ls[j / 3].1, ls[j / 3].2.1, ls[j / 3].2.2, by rw [List.getElem?_eq_getElem hk], by omega⟩
  obtain ⟨h0, h1, h2⟩ := h _ _ _ _ hl
  obtain ⟨g0, g1, g2⟩ := cellsOf_at ls _ _ _ _ hl
  rw [hadd]
  rcases hj3 with rfl | rfl | rfl
  · rw [g0] at hj; obtain rfl := Option.some.inj hj; exact h0
  · rw [g1] at hj; obtain rfl := Option.some.inj hj; exact h1
  · rw [g2] at hj; obtain rfl := Option.some.inj hj; exact h2

theorem cellsOf_one (ls : List Lnk) : ∀ u ∈ cellsOf ls, u.oneCell' = true := by
  induction ls with
  | nil => intro u hu; simp [cellsOf] at hu
  | cons l r ih =>
    obtain ⟨op, a, c⟩ := l
    intro u hu
    simp only [cellsOf, List.mem_cons] at hu
    rcases hu with rfl | rfl | rfl | hu
    · rfl
    · rfl
    · rfl
    · exact ih u hu

theorem rfault_zero (op : ByteArray) (a : Int) (w : World) :
    Calls Tryd.prog 8 #[.string op, .int .i64 a, .int .i64 0] w fun e w' => (∃ sv, e = .returned sv ∧ Steps w' sv []) ∧ Below w.heap.size w w' := by
  go_enter Tryd.func8, Tryd.ntmps8
  go_wp2
  go_ret
  exact ⟨⟨_, rfl, none, 0, rfl, Nat.zero_le _, .inl rfl⟩, Below.refl _ _⟩

theorem rfault_some (op : ByteArray) (a c : Int) (w : World) (hc : (c == 0) = false) :
    Calls Tryd.prog 8 #[.string op, .int .i64 a, .int .i64 c] w fun e w' => (∃ sv, e = .returned sv ∧ Steps w' sv [(op, a, c)]) ∧ Below w.heap.size w w' := by
  go_enter Tryd.func8, Tryd.ntmps8
  go_wp2
  go_ret
  refine ⟨⟨_, rfl, some ⟨w.heap.size, 0, none⟩, 1, rfl, by unfold maxLen; simp, .inr ⟨_, 0, rfl, by simp, ?_⟩⟩, by go_grown⟩
  intro k op' a' c' hk
  rcases k with _ | k
  · simp at hk; obtain ⟨rfl, rfl, rfl⟩ := hk; simp
  · simp at hk

theorem rwrap_nil (p : Option Addr) (cap : Nat) (op : ByteArray) (a : Int) (w : World) :
    Calls Tryd.prog 12 #[.slice p 0 cap, .string op, .int .i64 a] w fun e w' => (∃ sv, e = .returned sv ∧ Steps w' sv []) ∧ Below w.heap.size w w' := by
  go_enter Tryd.func12, Tryd.ntmps12
  go_wp2
  go_ret
  exact ⟨⟨_, rfl, none, 0, rfl, Nat.zero_le _, .inl rfl⟩, Below.refl _ _⟩

set_option maxHeartbeats 1000000 in
set_option maxRecDepth 10000 in
theorem rwrap_some {w : World} {sv : Value} {ls : List Lnk} (op : ByteArray) (a : Int) (h : Steps w sv ls) (hne : ls ≠ []) (hlen : ls.length ≤ 1000) :
    Calls Tryd.prog 12 #[sv, .string op, .int .i64 a] w fun e w' => (∃ sv, e = .returned sv ∧ Steps w' sv ((op, a, 0) :: ls)) ∧ Below w.heap.size w w' := by
  obtain ⟨i0, hi, hz0, hz1, hz2⟩ := Tryd.info32
  obtain ⟨p, cap, rfl, hm, h3⟩ := h
  rcases h3 with h3 | ⟨b, off, rfl, h4, h5⟩
  · exact absurd h3 hne
  have hn0 : (((ls.length : Nat) : Int) == 0) = false := by
    have : 0 < ls.length := List.length_pos_iff.2 hne
    simp; omega
  have hO : (w.alloc (.cells #[.string op, .int .i64 a, .int .i64 0] 32)).ownsRow w.heap.size 32 3 (.slice (some ⟨w.heap.size, 0, none⟩) 1 1) 1 [.string op, .int .i64 a, .int .i64 0] :=
    ⟨rfl, .inr ⟨w.heap.size, 1, _, rfl, Nat.le_refl _, heap_alloc_new _ _, Nat.le_refl _, by unfold maxLen; decide, rfl, rfl⟩⟩
  have hB : Below w.heap.size w (w.alloc (.cells #[.string op, .int .i64 a, .int .i64 0] 32)) := by go_grown
  have hcs : ∀ j u, (cellsOf ls)[j]? = some u → (w.alloc (.cells #[.string op, .int .i64 a, .int .i64 0] 32)).cell? ((⟨b, off, none⟩ : Addr).add j) = some u := fun j u hj => by
    rw [hB.cell (p := (⟨b, off, none⟩ : Addr).add j) (by unfold Addr.add; split <;> simpa using h4)]
    exact h5.cells j u hj
  have H5 : Hid (∀ j u, (cellsOf ls)[j]? = some u → (w.alloc (.cells #[.string op, .int .i64 a, .int .i64 0] 32)).cell? ((⟨b, off, none⟩ : Addr).add j) = some u) := hcs
  clear hcs h5 hne
  go_enter Tryd.func12, Tryd.ntmps12
  go_wp2_with (at_builtin; refine wpList_append_own _ rfl (.tmp 15) (.tmp 16) 23 rfl w.heap.size 32 i0 (.agg #[.string ByteArray.empty, .int .i64 0, .int .i64 0]) 3 32 Tryd.underlying23 hi hz0 hz1 hz2 rfl (by decide) _ _ _ rfl hO ⟨b, off, none⟩ ls.length cap (cellsOf ls) rfl (cellsOf_length ls) H5.out (cellsOf_one ls) (by unfold maxLen; omega) (by omega) hB.size ?_; intro v3 w3 hown3 hgrow3 hnil3; have hB3 := hB.grown hgrow3 hB.size (fun k hk => (hO.lt k hk).1))
  go_ret
  refine ⟨⟨v3, rfl, Steps.of_own (B := w.heap.size) ?_ ?_⟩, hB3⟩
  · rw [List.length_cons, Nat.add_comm]; exact hown3
  · unfold maxLen; simp; omega

theorem hits_take_succ (tc : Int) (ls : List Lnk) (k : Nat) (op : ByteArray) (a c : Int) (h : ls[k]? = some (op, a, c)) : hits tc (ls.take (k + 1)) = (hits tc (ls.take k) || (c != 0 && c == tc)) := by
  rw [List.take_add_one, h, hits_append]
  simp [hits]

theorem hits_of_take (tc : Int) (ls : List Lnk) (k : Nat) (h : hits tc (ls.take k) = true) : hits tc ls = true := by
  rw [← List.take_append_drop k ls, hits_append, h]; rfl

set_option maxHeartbeats 1000000 in
set_option maxRecDepth 10000 in
theorem rhas_same {w : World} {sv : Value} {ls : List Lnk} (tc : Int) (h : Steps w sv ls) (hlen : ls.length ≤ 1000) :
    Calls Tryd.prog 21 #[sv, .int .i64 tc] w fun e w' => e = .returned (.bool (hits tc ls)) ∧ w' = w := by
  obtain ⟨p, cap, rfl, hm, h3⟩ := h
  rcases h3 with h3 | ⟨b, off, rfl, h4, h5⟩
  · have A : Hid (hits tc ls = false) := by rw [h3]; rfl
    have hl0 : ls.length = 0 := by rw [h3]; rfl
    rw [hl0]
    clear h3 hlen hl0 hm
    go_enter Tryd.func21, Tryd.ntmps21
    go_wp2
    refine wp_loop_rounds 1 ?_
    rw [rounds_succ]
    go_wp2
    go_ret
    exact ⟨by rw [A.out]; rfl, rfl⟩
  · have H5 : Hid (StepCells w b off ls) := h5
    clear h5 hm
    go_enter Tryd.func21, Tryd.ntmps21
    go_wp2
    go_loopg [5] ls.length (fun r i wr => ∃ k : Nat, k ≤ ls.length ∧ r = ls.length - k ∧ i = .int .i64 k ∧ hits tc (ls.take k) = false ∧ wr = w)
    case atStart => exact ⟨0, by omega, by omega, rfl, rfl, rfl⟩
    case round =>
      obtain ⟨k, hk, hr, rfl, hh, rfl⟩ := hrel
      have R : Hid (gk = ls.length - k ∧ hits tc (ls.take k) = false) := ⟨hr, hh⟩
      clear hr hh
      by_cases hlt : k < ls.length
      · obtain ⟨op, a, c, hl⟩ : ∃ op a c, ls[k]? = some (op, a, c) := ⟨ls[k].1, ls[k].2.1, ls[k].2.2, by rw [List.getElem?_eq_getElem hlt]⟩
        have hc := (H5.out k op a c hl).2.2
        have HL : Hid (ls[k]? = some (op, a, c)) := hl
        clear hl
        by_cases hm : (c == tc) = true ∧ (tc != 0) = true
        · obtain ⟨m1, m2⟩ := hm
          go_wp2
          go_ret
          refine ⟨?_, rfl⟩
          rw [hits_of_take tc ls (k + 1) (by rw [hits_take_succ tc ls k op a c HL.out, R.out.2]; simp at m1 m2 ⊢; subst m1; exact ⟨m2, rfl⟩)]; rfl
        · have X : Hid ((c != 0 && c == tc) = false) := by
            unfold Hid
            by_cases e : c = tc
            · subst e; simp at hm ⊢; exact hm
            · simp [e]
          have hcase : ((c == tc) = false) ∨ ((c == tc) = true ∧ (tc != 0) = false) := by
            cases h1 : (c == tc)
            · exact .inl rfl
            · cases h2 : (tc != 0)
              · exact .inr ⟨rfl, rfl⟩
              · exact absurd ⟨h1, h2⟩ hm
          clear hm
          rcases hcase with m1 | ⟨m1, m2⟩
          all_goals
            go_wp2
            go_roundg (ls.length - (k + 1))
            case measure => rw [R.out.1]; omega
            case rel =>
              refine ⟨k + 1, by omega, rfl, by go_num, ?_, rfl⟩
              rw [hits_take_succ tc ls k op a c HL.out, R.out.2, X.out]; rfl
      · have hk2 : k = ls.length := by omega
        subst hk2
        go_wp2
        go_ret
        refine ⟨?_, rfl⟩
        have := R.out.2
        rw [List.take_length] at this
        rw [this]; rfl

theorem rhas_any {w : World} {sv : Value} {ls : List Lnk} (tc : Int) (h : Steps w sv ls) (hlen : ls.length ≤ 1000) :
    Calls Tryd.prog 21 #[sv, .int .i64 tc] w fun e w' => e = .returned (.bool (hits tc ls)) ∧ Below w.heap.size w w' :=
  (rhas_same tc h hlen).mono fun e w' ⟨h1, h2⟩ => ⟨h1, by rw [h2]; exact Below.refl _ _⟩
end Go.Proofs.YthjklbgkhpchhaaDoor
