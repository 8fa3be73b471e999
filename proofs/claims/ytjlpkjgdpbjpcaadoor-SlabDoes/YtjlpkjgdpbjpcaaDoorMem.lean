/-
  Rows of numbers in memory at this seat, and what an append of such a row does.
-/
import Derived.Test.YtjlpkjgdpbjpcaaDoorActs
import Derived.Laws.AppendOwnNone
import Derived.Deep.AppendLies
namespace Go.Proofs.YtjlpkjgdpbjpcaaDoor
open Go.RowKit

/-- Numbers as values. -/
def I (l : List Int) : List Value := l.map fun (x : Int) => Value.int .i64 x
theorem I_length (l : List Int) : (I l).length = l.length := by simp [I]
theorem I_append (a b : List Int) : I (a ++ b) = I a ++ I b := by simp [I]
theorem I_at {l : List Int} {k : Nat} {x : Int} (h : l[k]? = some x) : (I l)[k]? = some (.int .i64 x) := by simp [I, h]
theorem I_one (l : List Int) : ∀ u ∈ I l, u.oneCell' = true := by
  intro u hu
  obtain ⟨x, _, rfl⟩ := List.mem_map.1 hu
  rfl
theorem take_snoc {α : Type} {l : List α} {k : Nat} {x : α} (h : l[k]? = some x) : l.take (k + 1) = l.take k ++ [x] := by
  obtain ⟨hl, rfl⟩ := List.getElem?_eq_some_iff.1 h
  exact List.take_succ_eq_append_getElem hl

/-- A value is, in w's memory, a slice of these values, all in block b. -/
def SlAt (w : World) (b : Nat) (v : Value) (xs : List Value) : Prop :=
  (v = .slice none 0 0 ∧ xs = []) ∨ ∃ a cap, v = .slice (some a) xs.length cap ∧ xs.length ≤ cap ∧ cap ≤ maxLen ∧
    (xs = [] ∨ ∃ off, a = ⟨b, off, none⟩ ∧ b < w.heap.size ∧ ∀ k u, xs[k]? = some u → w.cell? ⟨b, off + k, none⟩ = some u)

theorem SlAt.nil (w : World) (b : Nat) : SlAt w b (.slice none 0 0) [] := .inl ⟨rfl, rfl⟩

theorem SlAt.keeps {w w' : World} {b : Nat} {v : Value} {xs : List Value} (h : SlAt w b v xs) (hs : w.heap.size ≤ w'.heap.size) (hb : b < w.heap.size → w'.heap[b]? = w.heap[b]?) : SlAt w' b v xs := by
  rcases h with h | ⟨a, cap, h1, h2, h3, h4⟩
  · exact .inl h
  · refine .inr ⟨a, cap, h1, h2, h3, ?_⟩
    rcases h4 with h4 | ⟨off, h5, h6, h7⟩
    · exact .inl h4
    · refine .inr ⟨off, h5, Nat.lt_of_lt_of_le h6 hs, fun k u hk => ?_⟩
      rw [World.cell?_of_block (w := w) (hb h6)]
      exact h7 k u hk

theorem SlAt.stays {w w' : World} {b : Nat} {v : Value} {xs : List Value} (h : SlAt w b v xs) (hb : Below w.heap.size w w') : SlAt w' b v xs :=
  h.keeps hb.size (hb.block b)

theorem SlAt.below {B : Nat} {w w' : World} {b : Nat} {v : Value} {xs : List Value} (h : SlAt w b v xs) (hb : Below B w w') (hlt : b < B) : SlAt w' b v xs :=
  h.keeps hb.size (fun _ => hb.block b hlt)

theorem SlAt.grown {w w' : World} {b g : Nat} {v : Value} {xs : List Value} (h : SlAt w b v xs) (hg : w.grownBy w' (some g)) (hne : b ≠ g) : SlAt w' b v xs :=
  h.keeps hg.size (fun hlt => hg.block b hlt (by simpa using hne))

/-- What a value is. -/
theorem SlAt.form {w : World} {b : Nat} {v : Value} {xs : List Value} (h : SlAt w b v xs) : ∃ p cap, v = .slice p xs.length cap ∧ xs.length ≤ cap ∧ cap ≤ maxLen := by
  rcases h with ⟨rfl, rfl⟩ | ⟨a, cap, h1, h2, h3, _⟩
  · exact ⟨none, 0, rfl, by simp, by unfold maxLen; omega⟩
  · exact ⟨some a, cap, h1, h2, h3⟩

/-- A value with an element. -/
theorem SlAt.elem {w : World} {b : Nat} {v : Value} {xs : List Value} (h : SlAt w b v xs) (hne : 0 < xs.length) :
    ∃ off cap, v = .slice (some ⟨b, off, none⟩) xs.length cap ∧ xs.length ≤ cap ∧ cap ≤ maxLen ∧ b < w.heap.size ∧ ∀ k u, xs[k]? = some u → w.cell? ⟨b, off + k, none⟩ = some u := by
  rcases h with ⟨_, rfl⟩ | ⟨a, cap, h1, h2, h3, h4⟩
  · simp at hne
  · rcases h4 with rfl | ⟨off, h5, h6, h7⟩
    · simp at hne
    · subst h5; exact ⟨off, cap, h1, h2, h3, h6, h7⟩

/-- A value, element by element. -/
theorem SlAt.each {w : World} {b : Nat} {v : Value} {xs : List Value} (h : SlAt w b v xs) : ∃ p cap, v = .slice p xs.length cap ∧ xs.length ≤ cap ∧ cap ≤ maxLen ∧
    ∀ k u, xs[k]? = some u → ∃ off, p = some ⟨b, off, none⟩ ∧ b < w.heap.size ∧ w.cell? ⟨b, off + k, none⟩ = some u := by
  rcases h with ⟨rfl, rfl⟩ | ⟨a, cap, h1, h2, h3, h4⟩
  · exact ⟨none, 0, rfl, by simp, by unfold maxLen; omega, fun k u hk => by simp at hk⟩
  · refine ⟨some a, cap, h1, h2, h3, fun k u hk => ?_⟩
    rcases h4 with rfl | ⟨off, h5, h6, h7⟩
    · simp at hk
    · subst h5; exact ⟨off, rfl, h6, h7 k u hk⟩

theorem add_zero_off (g j : Nat) : (⟨g, 0, none⟩ : Addr).add j = ⟨g, j, none⟩ := by unfold Addr.add; split <;> simp_all
theorem add_off (g o j : Nat) : (⟨g, o, none⟩ : Addr).add j = ⟨g, o + j, none⟩ := by unfold Addr.add; split <;> simp_all

/-- A row of the call's own is such a slice. -/
theorem own_sl {w : World} {B : Nat} {e : TypeId} {v : Value} {n : Nat} {xs : List Value} (h : w.ownsRow B e 1 v n xs) : ∃ b, B ≤ b ∧ SlAt w b v xs := by
  have hl : xs.length = n := by have := h.1; omega
  rcases h.2 with ⟨rfl, rfl⟩ | ⟨g, cap, cur, rfl, hb, hg, h1, h2, _⟩
  · exact ⟨B, Nat.le_refl _, .inl ⟨rfl, List.eq_nil_of_length_eq_zero hl⟩⟩
  · refine ⟨g, hb, .inr ⟨_, cap, by rw [hl], by omega, h2, .inr ⟨0, rfl, (Array.getElem?_eq_some_iff.1 hg).1, fun k u hk => ?_⟩⟩⟩
    have := h.cells (g := g) rfl k u hk
    rw [add_zero_off] at this
    simpa using this

theorem own_n {w : World} {B : Nat} {e : TypeId} {v : Value} {n : Nat} {xs : List Value} (h : w.ownsRow B e 1 v n xs) : xs.length = n := by have := h.1; omega

/-- An owned row, seen from a lower block on. -/
theorem own_lower {w : World} {B B' : Nat} {e : TypeId} {v : Value} {n : Nat} {xs : List Value} (h : w.ownsRow B e 1 v n xs) (hb : B' ≤ B) : w.ownsRow B' e 1 v n xs := by
  refine ⟨h.1, ?_⟩
  rcases h.2 with h | ⟨g, cap, cur, h1, h2, h3⟩
  · exact .inl h
  · exact .inr ⟨g, cap, cur, h1, by omega, h3⟩

/-- What a type of elements is: its zero, its cells, its bytes. -/
def Elem (e : TypeId) (z : Value) (bytes : Nat) : Prop := ∃ i, Tryd.prog.info? e = some i ∧ i.zero = some z ∧ i.size = 1 ∧ i.bytes = bytes
theorem Elem.of {e : TypeId} {z : Value} {bytes : Nat} (h : (Tryd.prog.info? e).map (fun i => (i.zero, i.size, i.bytes)) = some (some z, 1, bytes)) : Elem e z bytes := by
  obtain ⟨i, h1, h2⟩ := Option.map_eq_some_iff.1 h
  simp only [Prod.mk.injEq] at h2
  exact ⟨i, h1, h2.1, h2.2.1, h2.2.2⟩
theorem elem3 : Elem 3 (.int .i64 0) 8 := .of (by kernel_rfl)

/-- An append of values to values of the call's own. -/
theorem wpList_append_gen {t e : TypeId} {z : Value} {bytes : Nat} (ht : Tryd.prog.underlying t = some (.slice e)) (he : Elem e z bytes) (hz1 : z.cells.size = 1) (hb16 : bytes ≤ 16) {ops : Array Oper} {rest : List Oper} {o : Oper} {a : Act} {Q : Exit → Act → World → Prop} (w : World) (hgd : o.guard = none) (s x : Operand)
    (ho : o.op = .call { callee := .builtin .append, args := #[s, x], argTypes := #[t, t] }) (B : Nat) (v : Value) (n : Nat) (xs : List Value) (hs : a.eval s = v) (hown : w.ownsRow B e 1 v n xs)
    (b : Nat) (y : Value) (ys : List Value) (hy1 : ∀ u ∈ ys, u.oneCell' = true) (hx : a.eval x = y) (hsl : SlAt w b y ys) (hbd : n + ys.length ≤ 5000) (hB : B ≤ w.heap.size)
    (h : ∀ v' w', w'.ownsRow B e 1 v' (n + ys.length) (xs ++ ys) → w.grownBy w' v.ownBlock → wpList Tryd.prog ops Q rest (a.put o.dst v') w') : wpList Tryd.prog ops Q (o :: rest) a w := by
  obtain ⟨i, hi, hz0, hsz, hz2⟩ := he
  rcases hsl with ⟨rfl, hn⟩ | ⟨ad, cap, rfl, h2, h3, h4⟩
  · subst hn
    refine wpList_append_own_none hgd s x t ho B e i 1 ht hi v n xs hs hown hx ?_
    exact h v w (by simpa using hown) ⟨rfl, rfl, rfl, Nat.le_refl _, fun _ _ _ => rfl⟩
  · refine wpList_append_own w hgd s x t ho B e i z 1 bytes ht hi hz0 hsz hz2 hz1 (by decide) v n xs hs hown ad ys.length cap ys hx (by rw [Nat.mul_one]) ?_ hy1 (by unfold maxLen; omega) ?_ hB ?_
    · intro j u hj
      rcases h4 with h4 | ⟨off, rfl, _, h7⟩
      · rw [h4] at hj; simp at hj
      · rw [add_off]; exact h7 j u hj
    · exact Nat.le_trans (Nat.mul_le_mul hbd hb16) (by decide)
    · intro v' w' k1 k2 _
      exact h v' w' k1 k2

/-- One value, laid anew. -/
theorem sl_one_new (w : World) (e : TypeId) (u : Value) : SlAt (w.alloc (.cells #[u] e)) w.heap.size (.slice (some ⟨w.heap.size, 0, none⟩) 1 1) [u] := by
  refine .inr ⟨_, 1, rfl, by simp, by unfold maxLen; omega, .inr ⟨0, rfl, by simp, fun k u' hk => ?_⟩⟩
  rcases k with _ | k
  · simp at hk; subst hk; rw [World.cell?_alloc_at _ _ _ _ rfl]; rfl
  · simp at hk

/-- A value is, in memory, a slice of these numbers, in a block of numbers. -/
def Ls (w : World) (v : Value) (l : List Int) : Prop := ∃ b, SlAt w b v (I l) ∧ (l = [] ∨ ∃ cur fr, w.heap[b]? = some (.cells cur 3 fr))
theorem Ls.nil (w : World) : Ls w (.slice none 0 0) [] := ⟨0, SlAt.nil w 0, .inl rfl⟩
theorem Ls.kept {w w' : World} {row : Option Nat} {v : Value} {l : List Int} (h : Ls w v l) (hg : w.grownBy w' row) (hr : ∀ g, row = some g → ∃ cur T fr, w.heap[g]? = some (.cells cur T fr) ∧ T ≠ 3) : Ls w' v l := by
  obtain ⟨b, h, k⟩ := h
  rcases k with rfl | ⟨cur, fr, k⟩
  · rcases h with h | ⟨a, cap, h1, h2, h3, _⟩
    · exact ⟨b, .inl h, .inl rfl⟩
    · exact ⟨b, .inr ⟨a, cap, h1, h2, h3, .inl rfl⟩, .inl rfl⟩
  · have hne : some b ≠ row := by
      intro e
      obtain ⟨cur', T, fr', h1, h2⟩ := hr b e.symm
      rw [k] at h1
      simp at h1
      exact h2 h1.2.1.symm
    have hb : b < w.heap.size → w'.heap[b]? = w.heap[b]? := fun hlt => hg.block b hlt hne
    exact ⟨b, h.keeps hg.size hb, .inr ⟨cur, fr, by rw [hb (lt_of_block k)]; exact k⟩⟩
theorem Ls.stays {w w' : World} {v : Value} {l : List Int} (h : Ls w v l) (hb : Below w.heap.size w w') : Ls w' v l := h.kept (row := none) (grown0 hb none) (fun _ h => nomatch h)
theorem Ls.grown {w w' : World} {g : Nat} {cur : Array Value} {T : TypeId} {fr : Nat × Nat} {v : Value} {l : List Int} (h : Ls w v l) (hg : w.grownBy w' (some g)) (ht : w.heap[g]? = some (.cells cur T fr)) (hT : T ≠ 3) : Ls w' v l :=
  h.kept hg (fun k hk => by cases hk; exact ⟨cur, T, fr, ht, hT⟩)
theorem Ls.own {w : World} {B n : Nat} {v : Value} {l : List Int} (h : w.ownsRow B 3 1 v n (I l)) : Ls w v l := by
  obtain ⟨b, hb, hs⟩ := own_sl h
  have hl : (I l).length = n := own_n h
  rcases h.2 with ⟨rfl, rfl⟩ | ⟨g, cap, cur, rfl, _, hg, _⟩
  · rw [I_length] at hl
    exact ⟨b, hs, .inl (List.eq_nil_of_length_eq_zero hl)⟩
  · by_cases h0 : l = []
    · exact ⟨b, hs, .inl h0⟩
    · have : 0 < (I l).length := by rw [I_length]; exact List.length_pos_iff.2 h0
      obtain ⟨off, cap', e, _⟩ := hs.elem this
      simp only [Value.slice.injEq, Option.some.injEq, Addr.mk.injEq] at e
      obtain ⟨⟨rfl, _⟩, _⟩ := e
      exact ⟨g, hs, .inr ⟨_, _, hg⟩⟩
theorem Ls.each {w : World} {v : Value} {l : List Int} (h : Ls w v l) : ∃ p cap, v = .slice p l.length cap ∧ l.length ≤ cap ∧ cap ≤ maxLen ∧
    ∀ (k : Nat) (x : Int), l[k]? = some x → ∃ b off, p = some ⟨b, off, none⟩ ∧ b < w.heap.size ∧ w.cell? ⟨b, off + k, none⟩ = some (.int .i64 x) := by
  obtain ⟨b, h, _⟩ := h
  obtain ⟨p, cap, h1, h2, h3, h4⟩ := h.each
  rw [I_length] at h1 h2
  refine ⟨p, cap, h1, h2, h3, fun k x hk => ?_⟩
  obtain ⟨off, e1, e2, e3⟩ := h4 k _ (I_at hk)
  exact ⟨b, off, e1, e2, e3⟩
end Go.Proofs.YtjlpkjgdpbjpcaaDoor
