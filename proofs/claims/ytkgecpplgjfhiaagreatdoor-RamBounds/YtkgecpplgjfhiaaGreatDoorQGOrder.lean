/-
  Order of the program.
-/
import Derived.Test.YtkgecpplgjfhiaaGreatDoorQGDo
import Derived.Laws.AppendOwnNone
import Derived.Deep.AppendLies
namespace Go.Proofs.YtkgecpplgjfhiaaGreatDoor.Lis
open Go.RowKit

/-- Numbers as values. -/
def I (l : List Int) : List Value := l.map fun (x : Int) => Value.int .i64 x
theorem I_length (l : List Int) : (I l).length = l.length := by simp [I]
theorem I_append (a b : List Int) : I (a ++ b) = I a ++ I b := by simp [I]
theorem I_at {l : List Int} {k : Nat} {x : Int} (h : l[k]? = some x) : (I l)[k]? = some (.int .i64 x) := by simp [I, h]
theorem I_one (l : List Int) : ∀ u ∈ I l, u.oneCell' = true := by
  intro u hu
  obtain ⟨x, _, rfl⟩ := List.mem_map.1 hu
  rfl
theorem take_snoc {α : Type} {l : List α} {k : Nat} {x : α} (h : l[k]? = some x) : l.take (k + 1) = l.take k ++ [x] := by
  obtain ⟨hl, rfl⟩ := List.getElem?_eq_some_iff.1 h
  exact List.take_succ_eq_append_getElem hl

/-- A value is, in w's memory, a slice of these values, all in block b. -/
def SlAt (w : World) (b : Nat) (v : Value) (xs : List Value) : Prop :=
  (v = .slice none 0 0 ∧ xs = []) ∨ ∃ a cap, v = .slice (some a) xs.length cap ∧ xs.length ≤ cap ∧ cap ≤ maxLen ∧
    (xs = [] ∨ ∃ off, a = ⟨b, off, none⟩ ∧ b < w.heap.size ∧ ∀ k u, xs[k]? = some u → w.cell? ⟨b, off + k, none⟩ = some u)

theorem SlAt.nil (w : World) (b : Nat) : SlAt w b (.slice none 0 0) [] := .inl ⟨rfl, rfl⟩

theorem SlAt.keeps {w w' : World} {b : Nat} {v : Value} {xs : List Value} (h : SlAt w b v xs) (hs : w.heap.size ≤ w'.heap.size) (hb : b < w.heap.size → w'.heap[b]? = w.heap[b]?) : SlAt w' b v xs := by
  rcases h with h | ⟨a, cap, h1, h2, h3, h4⟩
  · exact .inl h
  · refine .inr ⟨a, cap, h1, h2, h3, ?_⟩
    rcases h4 with h4 | ⟨off, h5, h6, h7⟩
    · exact .inl h4
    · refine .inr ⟨off, h5, Nat.lt_of_lt_of_le h6 hs, fun k u hk => ?_⟩
      rw [World.cell?_of_block (w := w) (hb h6)]
      exact h7 k u hk

theorem SlAt.stays {w w' : World} {b : Nat} {v : Value} {xs : List Value} (h : SlAt w b v xs) (hb : Below w.heap.size w w') : SlAt w' b v xs :=
  h.keeps hb.size (hb.block b)

theorem SlAt.below {B : Nat} {w w' : World} {b : Nat} {v : Value} {xs : List Value} (h : SlAt w b v xs) (hb : Below B w w') (hlt : b < B) : SlAt w' b v xs :=
  h.keeps hb.size (fun _ => hb.block b hlt)

theorem SlAt.grown {w w' : World} {b g : Nat} {v : Value} {xs : List Value} (h : SlAt w b v xs) (hg : w.grownBy w' (some g)) (hne : b ≠ g) : SlAt w' b v xs :=
  h.keeps hg.size (fun hlt => hg.block b hlt (by simpa using hne))

/-- What a value is. -/
theorem SlAt.form {w : World} {b : Nat} {v : Value} {xs : List Value} (h : SlAt w b v xs) : ∃ p cap, v = .slice p xs.length cap ∧ xs.length ≤ cap ∧ cap ≤ maxLen := by
  rcases h with ⟨rfl, rfl⟩ | ⟨a, cap, h1, h2, h3, _⟩
  · exact ⟨none, 0, rfl, by simp, by unfold maxLen; omega⟩
  · exact ⟨some a, cap, h1, h2, h3⟩

/-- A value with an element. -/
theorem SlAt.elem {w : World} {b : Nat} {v : Value} {xs : List Value} (h : SlAt w b v xs) (hne : 0 < xs.length) :
    ∃ off cap, v = .slice (some ⟨b, off, none⟩) xs.length cap ∧ xs.length ≤ cap ∧ cap ≤ maxLen ∧ b < w.heap.size ∧ ∀ k u, xs[k]? = some u → w.cell? ⟨b, off + k, none⟩ = some u := by
  rcases h with ⟨_, rfl⟩ | ⟨a, cap, h1, h2, h3, h4⟩
  · simp at hne
  · rcases h4 with rfl | ⟨off, h5, h6, h7⟩
    · simp at hne
    · subst h5; exact ⟨off, cap, h1, h2, h3, h6, h7⟩

/-- A value, element by element. -/
theorem SlAt.each {w : World} {b : Nat} {v : Value} {xs : List Value} (h : SlAt w b v xs) : ∃ p cap, v = .slice p xs.length cap ∧ xs.length ≤ cap ∧ cap ≤ maxLen ∧
    ∀ k u, xs[k]? = some u → ∃ off, p = some ⟨b, off, none⟩ ∧ b < w.heap.size ∧ w.cell? ⟨b, off + k, none⟩ = some u := by
  rcases h with ⟨rfl, rfl⟩ | ⟨a, cap, h1, h2, h3, h4⟩
  · exact ⟨none, 0, rfl, by simp, by unfold maxLen; omega, fun k u hk => by simp at hk⟩
  · refine ⟨some a, cap, h1, h2, h3, fun k u hk => ?_⟩
    rcases h4 with rfl | ⟨off, h5, h6, h7⟩
    · simp at hk
    · subst h5; exact ⟨off, rfl, h6, h7 k u hk⟩

theorem add_zero_off (g j : Nat) : (⟨g, 0, none⟩ : Addr).add j = ⟨g, j, none⟩ := by unfold Addr.add; split <;> simp_all
theorem add_off (g o j : Nat) : (⟨g, o, none⟩ : Addr).add j = ⟨g, o + j, none⟩ := by unfold Addr.add; split <;> simp_all

/-- A row of the call's own is such a slice. -/
theorem own_sl {w : World} {B : Nat} {e : TypeId} {v : Value} {n : Nat} {xs : List Value} (h : w.ownsRow B e 1 v n xs) : ∃ b, B ≤ b ∧ SlAt w b v xs := by
  have hl : xs.length = n := by have := h.1; omega
  rcases h.2 with ⟨rfl, rfl⟩ | ⟨g, cap, cur, rfl, hb, hg, h1, h2, _⟩
  · exact ⟨B, Nat.le_refl _, .inl ⟨rfl, List.eq_nil_of_length_eq_zero hl⟩⟩
  · refine ⟨g, hb, .inr ⟨_, cap, by rw [hl], by omega, h2, .inr ⟨0, rfl, (Array.getElem?_eq_some_iff.1 hg).1, fun k u hk => ?_⟩⟩⟩
    have := h.cells (g := g) rfl k u hk
    rw [add_zero_off] at this
    simpa using this

theorem own_n {w : World} {B : Nat} {e : TypeId} {v : Value} {n : Nat} {xs : List Value} (h : w.ownsRow B e 1 v n xs) : xs.length = n := by have := h.1; omega

/-- An owned row, seen from a lower block on. -/
theorem own_lower {w : World} {B B' : Nat} {e : TypeId} {v : Value} {n : Nat} {xs : List Value} (h : w.ownsRow B e 1 v n xs) (hb : B' ≤ B) : w.ownsRow B' e 1 v n xs := by
  refine ⟨h.1, ?_⟩
  rcases h.2 with h | ⟨g, cap, cur, h1, h2, h3⟩
  · exact .inl h
  · exact .inr ⟨g, cap, cur, h1, by omega, h3⟩

/-- What a type of elements is: its zero, its cells, its bytes. -/
def Elem (e : TypeId) (z : Value) (bytes : Nat) : Prop := ∃ i, Tryz.prog.info? e = some i ∧ i.zero = some z ∧ i.size = 1 ∧ i.bytes = bytes
theorem Elem.of {e : TypeId} {z : Value} {bytes : Nat} (h : (Tryz.prog.info? e).map (fun i => (i.zero, i.size, i.bytes)) = some (some z, 1, bytes)) : Elem e z bytes := by
  obtain ⟨i, h1, h2⟩ := Option.map_eq_some_iff.1 h
  simp only [Prod.mk.injEq] at h2
  exact ⟨i, h1, h2.1, h2.2.1, h2.2.2⟩
theorem elem3 : Elem 3 (.int .i64 0) 8 := .of (by kernel_rfl)
theorem elem30 : Elem 78 (.slice none 0 0) 24 := .of (by kernel_rfl)

/-- An append of values to values of the call's own. -/
theorem wpList_append_gen {t e : TypeId} {z : Value} {bytes : Nat} (ht : Tryz.prog.underlying t = some (.slice e)) (he : Elem e z bytes) (hz1 : z.cells.size = 1) (hb16 : bytes ≤ 24) {ops : Array Oper} {rest : List Oper} {o : Oper} {a : Act} {Q : Exit → Act → World → Prop} (w : World) (hgd : o.guard = none) (s x : Operand)
    (ho : o.op = .call { callee := .builtin .append, args := #[s, x], argTypes := #[t, t] }) (B : Nat) (v : Value) (n : Nat) (xs : List Value) (hs : a.eval s = v) (hown : w.ownsRow B e 1 v n xs)
    (b : Nat) (y : Value) (ys : List Value) (hy1 : ∀ u ∈ ys, u.oneCell' = true) (hx : a.eval x = y) (hsl : SlAt w b y ys) (hbd : n + ys.length ≤ 5000) (hB : B ≤ w.heap.size)
    (h : ∀ v' w', w'.ownsRow B e 1 v' (n + ys.length) (xs ++ ys) → w.grownBy w' v.ownBlock → wpList Tryz.prog ops Q rest (a.put o.dst v') w') : wpList Tryz.prog ops Q (o :: rest) a w := by
  obtain ⟨i, hi, hz0, hsz, hz2⟩ := he
  rcases hsl with ⟨rfl, hn⟩ | ⟨ad, cap, rfl, h2, h3, h4⟩
  · subst hn
    refine wpList_append_own_none hgd s x t ho B e i 1 ht hi v n xs hs hown hx ?_
    exact h v w (by simpa using hown) ⟨rfl, rfl, rfl, Nat.le_refl _, fun _ _ _ => rfl⟩
  · refine wpList_append_own w hgd s x t ho B e i z 1 bytes ht hi hz0 hsz hz2 hz1 (by decide) v n xs hs hown ad ys.length cap ys hx (by rw [Nat.mul_one]) ?_ hy1 (by unfold maxLen; omega) ?_ hB ?_
    · intro j u hj
      rcases h4 with h4 | ⟨off, rfl, _, h7⟩
      · rw [h4] at hj; simp at hj
      · rw [add_off]; exact h7 j u hj
    · exact Nat.le_trans (Nat.mul_le_mul hbd hb16) (by decide)
    · intro v' w' k1 k2 _
      exact h v' w' k1 k2

/-- One value, laid anew. -/
theorem sl_one_new (w : World) (e : TypeId) (u : Value) : SlAt (w.alloc (.cells #[u] e)) w.heap.size (.slice (some ⟨w.heap.size, 0, none⟩) 1 1) [u] := by
  refine .inr ⟨_, 1, rfl, by simp, by unfold maxLen; omega, .inr ⟨0, rfl, by simp, fun k u' hk => ?_⟩⟩
  rcases k with _ | k
  · simp at hk; subst hk; rw [World.cell?_alloc_at _ _ _ _ rfl]; rfl
  · simp at hk


theorem below_grown {w w' : World} (h : w.grownBy w' none) : Below w.heap.size w w' := ⟨h.os, h.tape, h.output, h.size, fun k hk => h.block k hk (by simp)⟩
theorem grown0 {w w' : World} (h : Below w.heap.size w w') (row : Option Nat) : w.grownBy w' row := ⟨h.os, h.tape, h.output, h.size, fun k hk _ => h.block k hk⟩
theorem grown_set {w W : World} {g : Nat} (h : w.grownBy W (some g)) (o : Nat) (v : Value) : w.grownBy (W.setCell ⟨g, o, none⟩ v) (some g) := by
  obtain ⟨h1, h2, h3, h4, h5⟩ := h
  refine ⟨h1, h2, h3, by simpa using h4, fun k hk hne => ?_⟩
  rw [← h5 k hk hne]
  exact set_other (fun e => hne (by rw [e]))
theorem SlAt.mid {B0 B : Nat} {w w' : World} {b : Nat} {v : Value} {xs : List Value} (h : SlAt w b v xs) (m : Mid B0 B w w') (hb : B ≤ b) : SlAt w' b v xs :=
  h.keeps m.size (fun hlt => m.block b hlt (.inr (.inl hb)))

/-- A block of this type. -/
def Tag (w : World) (b : Nat) (T : TypeId) : Prop := ∃ cur fr, w.heap[b]? = some (.cells cur T fr)
theorem Tag.lt {w : World} {b : Nat} {T : TypeId} (h : Tag w b T) : b < w.heap.size := by
  obtain ⟨cur, fr, h⟩ := h
  exact lt_of_block h
theorem Tag.same {w w' : World} {b : Nat} {T : TypeId} (h : Tag w b T) (e : w'.heap[b]? = w.heap[b]?) : Tag w' b T := by
  obtain ⟨cur, fr, h⟩ := h
  exact ⟨cur, fr, by rw [e]; exact h⟩
theorem Tag.ne {w : World} {b c : Nat} {T U : TypeId} (h : Tag w b T) (k : Tag w c U) (hn : T ≠ U) : b ≠ c := by
  rintro rfl
  obtain ⟨_, _, h⟩ := h
  obtain ⟨_, _, k⟩ := k
  rw [h] at k
  simp at k
  exact hn k.2.1
theorem own_tag {w : World} {B n : Nat} {e : TypeId} {v : Value} {xs : List Value} (h : w.ownsRow B e 1 v n xs) : xs = [] ∨ ∃ b, B ≤ b ∧ SlAt w b v xs ∧ Tag w b e := by
  have hl : xs.length = n := own_n h
  rcases h.2 with ⟨rfl, rfl⟩ | ⟨g, cap, cur, rfl, hb, hg, h1, h2, _⟩
  · exact .inl (List.eq_nil_of_length_eq_zero hl)
  · refine .inr ⟨g, hb, .inr ⟨_, cap, by rw [hl], by omega, h2, .inr ⟨0, rfl, lt_of_block hg, fun k u hk => ?_⟩⟩, _, _, hg⟩
    have := h.cells (g := g) rfl k u hk
    rw [add_zero_off] at this
    simpa using this

/-- A value is, in memory, a slice of these numbers, in a block of numbers from B on. -/
def Ls (w : World) (B : Nat) (v : Value) (l : List Int) : Prop := ∃ b, B ≤ b ∧ SlAt w b v (I l) ∧ (l = [] ∨ Tag w b 3)
theorem Ls.nil (w : World) (B : Nat) : Ls w B (.slice none 0 0) [] := ⟨B, Nat.le_refl _, SlAt.nil w B, .inl rfl⟩
theorem Ls.mid {B0 B : Nat} {w w' : World} {v : Value} {l : List Int} (h : Ls w B v l) (m : Mid B0 B w w') : Ls w' B v l := by
  obtain ⟨b, hb, h, k⟩ := h
  exact ⟨b, hb, h.mid m hb, k.imp id fun k => k.same (m.block b k.lt (.inr (.inl hb)))⟩
theorem Ls.stays {B : Nat} {w w' : World} {v : Value} {l : List Int} (h : Ls w B v l) (m : Below w.heap.size w w') : Ls w' B v l := by
  obtain ⟨b, hb, h, k⟩ := h
  exact ⟨b, hb, h.stays m, k.imp id fun k => k.same (m.block b k.lt)⟩
theorem SlAt.empty {w w' : World} {b : Nat} {v : Value} (h : SlAt w b v []) : SlAt w' b v [] := by
  rcases h with h | ⟨a, cap, h1, h2, h3, _⟩
  · exact .inl h
  · exact .inr ⟨a, cap, h1, h2, h3, .inl rfl⟩
/-- A block of another type is written. -/
theorem Ls.other {B q : Nat} {T : TypeId} {w w' : World} {v : Value} {l : List Int} (h : Ls w B v l) (m : w.grownBy w' (some q)) (k : Tag w q T) (hT : T ≠ 3) : Ls w' B v l := by
  obtain ⟨b, hb, h, rfl | t⟩ := h
  · exact ⟨b, hb, h.empty, .inl rfl⟩
  · have e : w'.heap[b]? = w.heap[b]? := m.block b t.lt (fun x => (k.ne t hT).symm (Option.some.inj x))
    exact ⟨b, hb, h.keeps m.size (fun _ => e), .inr (t.same e)⟩
theorem Ls.lower {B B' : Nat} {w : World} {v : Value} {l : List Int} (h : Ls w B v l) (k : B' ≤ B) : Ls w B' v l := by
  obtain ⟨b, hb, h⟩ := h
  exact ⟨b, Nat.le_trans k hb, h⟩
theorem Ls.own {w : World} {B B' n : Nat} {v : Value} {l : List Int} (h : w.ownsRow B' 3 1 v n (I l)) (hb : B ≤ B') : Ls w B v l := by
  rcases own_tag h with e | ⟨b, hb', hs, t⟩
  · obtain ⟨b, hb', hs⟩ := own_sl h
    exact ⟨b, Nat.le_trans hb hb', hs, .inl (by have := I_length l; rw [e] at this; exact List.eq_nil_of_length_eq_zero this.symm)⟩
  · exact ⟨b, Nat.le_trans hb hb', hs, .inr t⟩
theorem Ls.each {B : Nat} {w : World} {v : Value} {l : List Int} (h : Ls w B v l) : ∃ p cap, v = .slice p l.length cap ∧ l.length ≤ cap ∧ cap ≤ maxLen ∧
    ∀ (k : Nat) (x : Int), l[k]? = some x → ∃ b off, p = some ⟨b, off, none⟩ ∧ b < w.heap.size ∧ w.cell? ⟨b, off + k, none⟩ = some (.int .i64 x) := by
  obtain ⟨b, _, h, _⟩ := h
  obtain ⟨p, cap, h1, h2, h3, h4⟩ := h.each
  rw [I_length] at h1 h2
  refine ⟨p, cap, h1, h2, h3, fun k x hk => ?_⟩
  obtain ⟨off, e1, e2, e3⟩ := h4 k _ (I_at hk)
  exact ⟨b, off, e1, e2, e3⟩
/-- A slice without its first element. -/
theorem Ls.tail {B : Nat} {w : World} {p : Option Addr} {cap : Nat} {x : Int} {r : List Int} {m : Nat} (h : Ls w B (.slice p m cap) (x :: r)) : ∃ b off, p = some ⟨b, off, none⟩ ∧ m = r.length + 1 ∧ r.length + 1 ≤ cap ∧ cap ≤ maxLen ∧ ∀ o, (cap ≠ 1 → o = off + 1) → Ls w B (.slice (some ⟨b, o, none⟩) r.length (cap - 1)) r := by
  obtain ⟨b, hb, h, t⟩ := h
  obtain ⟨off, cap', h1, h2, h3, h4, h5⟩ := h.elem (by simp [I])
  simp only [Value.slice.injEq] at h1
  obtain ⟨rfl, rfl, rfl⟩ := h1
  have hl : (I (x :: r)).length = r.length + 1 := by simp [I]
  rw [hl] at h2
  refine ⟨b, off, rfl, hl, h2, h3, fun o ho => ⟨b, hb, ?_, .inr (t.resolve_left (by simp))⟩⟩
  rcases Nat.eq_zero_or_pos r.length with e | e
  · obtain rfl : r = [] := List.eq_nil_of_length_eq_zero e
    exact .inr ⟨_, cap - 1, rfl, by simp [I], by omega, .inl rfl⟩
  · obtain rfl := ho (by omega)
    refine .inr ⟨_, cap - 1, by rw [I_length], by rw [I_length]; omega, by omega, .inr ⟨off + 1, rfl, h4, fun k u hk => ?_⟩⟩
    have := h5 (k + 1) u (by simpa [I] using hk)
    rw [show off + 1 + k = off + (k + 1) by omega]
    exact this

/-- A value is, in memory, a slice of such slices, in a block of slices from B on. -/
def LL (w : World) (B : Nat) (v : Value) (L : List (List Int)) : Prop := ∃ b vs, B ≤ b ∧ SlAt w b v vs ∧ (L = [] ∨ Tag w b 78) ∧ vs.length = L.length ∧ ∀ (k : Nat) u a, vs[k]? = some u → L[k]? = some a → Ls w B u a
theorem LL.mid {B0 B : Nat} {w w' : World} {v : Value} {L : List (List Int)} (h : LL w B v L) (m : Mid B0 B w w') : LL w' B v L := by
  obtain ⟨b, vs, hb, h1, h4, h2, h3⟩ := h
  exact ⟨b, vs, hb, h1.mid m hb, h4.imp id fun k => k.same (m.block b k.lt (.inr (.inl hb))), h2, fun k u a hu ha => (h3 k u a hu ha).mid m⟩
theorem LL.stays {B : Nat} {w w' : World} {v : Value} {L : List (List Int)} (h : LL w B v L) (m : Below w.heap.size w w') : LL w' B v L := by
  obtain ⟨b, vs, hb, h1, h4, h2, h3⟩ := h
  exact ⟨b, vs, hb, h1.stays m, h4.imp id fun k => k.same (m.block b k.lt), h2, fun k u a hu ha => (h3 k u a hu ha).stays m⟩
theorem LL.other {B q : Nat} {T : TypeId} {w w' : World} {v : Value} {L : List (List Int)} (h : LL w B v L) (m : w.grownBy w' (some q)) (k : Tag w q T) (hT : T ≠ 3) (hT' : T ≠ 78) : LL w' B v L := by
  obtain ⟨b, vs, hb, h1, h4, h2, h3⟩ := h
  rcases h4 with rfl | t
  · obtain rfl : vs = [] := List.eq_nil_of_length_eq_zero h2
    exact ⟨b, [], hb, h1.empty, .inl rfl, rfl, fun k u a hu _ => by simp at hu⟩
  · have e : w'.heap[b]? = w.heap[b]? := m.block b t.lt (fun x => (k.ne t hT').symm (Option.some.inj x))
    exact ⟨b, vs, hb, h1.keeps m.size (fun _ => e), .inr (t.same e), h2, fun j u a hu ha => (h3 j u a hu ha).other m k hT⟩
theorem LL.each {B : Nat} {w : World} {v : Value} {L : List (List Int)} (h : LL w B v L) : ∃ p cap, v = .slice p L.length cap ∧ L.length ≤ cap ∧ cap ≤ maxLen ∧
    ∀ (k : Nat) (a : List Int), L[k]? = some a → ∃ b off u, p = some ⟨b, off, none⟩ ∧ b < w.heap.size ∧ w.cell? ⟨b, off + k, none⟩ = some u ∧ Ls w B u a := by
  obtain ⟨b, vs, _, h1, _, h2, h3⟩ := h
  obtain ⟨p, cap, e1, e2, e3, e4⟩ := h1.each
  rw [h2] at e1 e2
  refine ⟨p, cap, e1, e2, e3, fun k a hk => ?_⟩
  have hkl : k < vs.length := by rw [h2]; exact (List.getElem?_eq_some_iff.1 hk).1
  obtain ⟨off, f1, f2, f3⟩ := e4 k vs[k] (List.getElem?_eq_getElem hkl)
  exact ⟨b, off, vs[k], f1, f2, f3, h3 k _ a (List.getElem?_eq_getElem hkl) hk⟩
end Go.Proofs.YtkgecpplgjfhiaaGreatDoor.Lis

namespace Go.Proofs.YtkgecpplgjfhiaaGreatDoor.Lis
open Go.RowKit

/-- The rings one behind the other: how many nodes the first ones have. -/
def allP (s : Lst) (f : Int → Nat) (K k : Nat) : Nat := if k ≤ K then cumP s f k else s.U.length + s.F.length
theorem Inv.ring_at {K n : Nat} {t : St} {s : Lst} {f : Int → Nat} {M : Nat} (v : Inv K n t s f M) {k : Nat} (hk : k < K + 1) :
    ∃ a, (s.L ++ [s.F])[k]? = some a ∧ allP s f K (k + 1) = allP s f K k + a.length ∧ t.len k = a.length := by
  by_cases e : k < K
  · refine ⟨_, v.order_ring e, ?_, (v.rings k _ (v.order_ring e)).2.1⟩
    unfold allP
    rw [if_pos (by omega), if_pos (by omega), v.cum_step e]
  · obtain rfl : k = K := by omega
    refine ⟨_, v.free, ?_, (v.rings k _ v.free).2.1⟩
    unfold allP
    rw [if_neg (by omega), if_pos (by omega), v.cum_all]
theorem Inv.all_all {K n : Nat} {t : St} {s : Lst} {f : Int → Nat} {M : Nat} (v : Inv K n t s f M) : allP s f K (K + 1) = n := by
  unfold allP
  rw [if_neg (by omega)]
  have := v.cnt
  omega
theorem Inv.all_le {K n : Nat} {t : St} {s : Lst} {f : Int → Nat} {M : Nat} (v : Inv K n t s f M) (k : Nat) : allP s f K k ≤ n := by
  unfold allP
  have := v.cnt
  have := cum_le s f k
  split <;> omega
/-- The link behind one of a ring. -/
theorem Inv.step {K n : Nat} {t : St} {s : Lst} {f : Int → Nat} {M : Nat} (v : Inv K n t s f M) {k : Nat} {a : List Int} (ha : (s.L ++ [s.F])[k]? = some a) {i : Nat} {x : Int} (hx : (((n : Int) + (k : Int)) :: a)[i]? = some x) :
    ∃ p q : Nat, x = p ∧ p < n + K + 1 ∧ t.B x = q ∧ q < n + K + 1 ∧ t.A (q : Int) = p ∧ t.P (q : Int) = k ∧ (((n : Int) + (k : Int)) :: a)[i + 1]? = (if i < a.length then some (q : Int) else none) ∧ ((q : Int) = (n : Int) + (k : Int) ↔ i = a.length) := by
  have hkK : k < K + 1 := by
    have := (List.getElem?_eq_some_iff.1 ha).1
    simp [v.len] at this
    omega
  obtain ⟨s1, _, s3, s4, s5⟩ := v.rings k a ha
  have key : ∀ y, y ∈ ((n : Int) + (k : Int)) :: a → (∃ c : Nat, y = c ∧ c < n + K + 1) ∧ t.P y = k := fun y hy => by
    rcases List.mem_cons.1 hy with e | hy
    · exact ⟨⟨n + k, by omega, by omega⟩, by rw [e]; exact s3⟩
    · obtain ⟨q1, q2, q3⟩ := s5 y hy
      exact ⟨⟨y.toNat, by omega, by omega⟩, q3⟩
  have hil : i < a.length + 1 := by simpa using (List.getElem?_eq_some_iff.1 hx).1
  obtain ⟨z, hz⟩ : ∃ z, (a ++ [(n : Int) + (k : Int)])[i]? = some z := ⟨_, List.getElem?_eq_getElem (by simp; omega)⟩
  obtain ⟨e1, e2⟩ := s1.at_ hx hz
  have hzm : z ∈ ((n : Int) + (k : Int)) :: a := mem_swap.1 (List.mem_of_getElem? hz)
  obtain ⟨⟨p, ep, lp⟩, _⟩ := key x (List.mem_of_getElem? hx)
  obtain ⟨⟨q, eq, lq⟩, hP⟩ := key z hzm
  refine ⟨p, q, ep, lp, by rw [e1, eq], lq, by rw [← eq, e2, ep], by rw [← eq, hP], ?_, ?_⟩
  · rw [List.getElem?_cons_succ]
    by_cases h : i < a.length
    · rw [if_pos h, ← eq, ← hz, List.getElem?_append_left h]
    · rw [if_neg h, List.getElem?_eq_none (by omega)]
  · rw [← eq]
    by_cases h : i < a.length
    · rw [List.getElem?_append_left h] at hz
      have := (s5 z (List.mem_of_getElem? hz)).2.1
      constructor <;> intro e <;> omega
    · have hi : i = a.length := by omega
      rw [List.getElem?_append_right (by omega), hi, Nat.sub_self] at hz
      simp at hz
      constructor <;> intro e <;> omega

end Go.Proofs.YtkgecpplgjfhiaaGreatDoor.Lis

namespace Go.Proofs.YtkgecpplgjfhiaaGreatDoor.Lis
open Go.RowKit

set_option maxHeartbeats 2000000 in
set_option maxRecDepth 10000 in
theorem order_lx {w : World} {B0 B g K n : Nat} {s : Lst} {M : Nat} (x : Lx w B0 B g K n s M) (k : Int) : Calls Tryz.prog 74 #[.pointer (some ⟨g, 0, none⟩), .int .i64 k] w fun e w' => ∃ v, e = .returned v ∧ Ls w' w.heap.size v (orderP s k) ∧ Below w.heap.size w w' := by
  obtain ⟨h, l, N, t, f, h1, h2, h3, o, v⟩ := x
  have KL := len_ob o k
  rw [v.lenQ] at KL
  by_cases hz : orderP s k = []
  · rw [hz] at KL ⊢
    have HK := hid2 KL
    clear KL hz o v
    go_enter Tryz.func74, Tryz.ntmps74
    go_wp2_with fail
    refine (show Calls _ _ _ _ _ from HK.out).mono ?_
    rintro e w1 ⟨rfl, hw⟩
    cases hw
    go_wp2
    go_ret
    exact ⟨_, rfl, Ls.nil _ _, Below.refl _ _⟩
  · have hk : 0 ≤ k ∧ k < K := by
      by_cases hk : 0 ≤ k ∧ k < K
      · exact hk
      · exact absurd (v.noorder hk) hz
    obtain ⟨j, rfl⟩ := Int.eq_ofNat_of_zero_le hk.1
    have hj : j < K := by omega
    have ha := v.order_ring hj
    have HV := hid2 v
    have hK64 := o.K64
    have hN := o.eN
    have hn40 := o.n40
    have hN2 : N ≤ 800 := by omega
    have hal : (orderP s (j : Int)).length ≤ 700 := by
      rw [v.order hj]
      have := v.cnt
      exact Nat.le_trans (List.length_filter_le _ _) (by omega)
    have HST := hid2 (fun (i : Nat) (x : Int) (hx : (((n : Int) + (j : Int)) :: orderP s (j : Int))[i]? = some x) => v.step ha hx)
    have hne : (orderP s (j : Int)).length ≠ 0 := fun e => hz (List.eq_nil_of_length_eq_zero e)
    have KE := fun W (q : Ob W g h l K n N t) => end_ob q (k := j) (by omega)
    obtain ⟨q, hq⟩ : ∃ q, q = n + j := ⟨_, rfl⟩
    have HQI : Hid ((n : Int) + (j : Int) = (q : Int)) := by show _ = _; omega
    rw [← hq] at KE
    generalize orderP s (j : Int) = a at *
    obtain ⟨m, hm⟩ : ∃ m, m = a.length := ⟨_, rfl⟩
    rw [← hm] at KL hal hne HST
    have hm0 : ¬ (m : Int) = 0 := by omega
    have HM := hid2 hm
    have HK := hid2 KL
    have HE := hid2 KE
    have HO := hid2 o
    have HN := hid2 hN
    have qN : q < N := by omega
    clear KL KE o v hN hq hm ha hz hk
    go_enter Tryz.func74, Tryz.ntmps74
    go_wp2_with fail
    refine (show Calls _ _ _ _ _ from HK.out).mono ?_
    rintro e w1 ⟨rfl, hw⟩
    cases hw
    go_wp2_with fail
    refine (show Calls _ _ _ _ _ from HK.out).mono ?_
    rintro e w1 ⟨rfl, hw⟩
    cases hw
    obtain ⟨i0, hi, z0, z1, z2⟩ := elem3
    go_wp2_with (at_make; refine wpList_make_own _ rfl _ _ 78 rfl w.heap.size 3 i0 (.int .i64 0) 1 Tryz.underlying78 hi z0 z1 .i64 .i64 _ m rfl rfl (by omega) (by rw [z2]; omega) (by unfold maxLen; omega) (Nat.le_refl _) ?_; intro w0 hown0 hgrow0)
    have HB0 := hid2 (below_grown hgrow0)
    have HO0 := hid2 (HO.out.below HB0.out)
    refine (show Calls _ _ _ _ _ from HE.out _ HO0.out).mono ?_
    rintro e wx ⟨rfl, hw⟩
    cases hw
    obtain ⟨⟨b1, b2, b3⟩, _, _, c3, _⟩ := HO0.out.cells
    obtain ⟨_, c6, _, _⟩ := HO0.out.link qN
    have HX0 : Hid ((((n : Int) + (j : Int)) :: a)[0]? = some (q : Int)) := by show _ = _; rw [HQI.out]; rfl
    obtain ⟨p0, z0, ep, lp, eB, lz, _, _, hnx, hend⟩ := HST.out 0 _ HX0.out
    rw [eB] at c6
    have HOW := hid2 hown0
    have HS := hid2 (show ∃ (i : Nat), i ≤ m ∧ ((((n : Int) + (j : Int)) :: a)[i + 1]? = if i < m then some (z0 : Int) else none) ∧ ((z0 : Int) = (n : Int) + (j : Int) ↔ i = m) ∧ i = 0 from ⟨0, Nat.zero_le _, hnx, hend, rfl⟩)
    have HLZ : Hid (z0 < n + K + 1) := lz
    clear hown0 hgrow0 eB ep lp lz hnx hend hi z1 z2
    go_wp2_with fail
    clear b1 b2 b3 c3 c6
    go_loopg [5, 7] (m + 1) (fun gi sv nd wr => ∃ (i z : Nat), i ≤ m ∧ gi = m + 1 - i ∧ nd = .int .i64 (z : Int) ∧ z < n + K + 1 ∧ ((((n : Int) + (j : Int)) :: a)[i + 1]? = if i < m then some (z : Int) else none) ∧ ((z : Int) = (n : Int) + (j : Int) ↔ i = m) ∧ wr.ownsRow w.heap.size 3 1 sv i (I (a.take i)) ∧ Below w.heap.size w wr)
    case atStart =>
      obtain ⟨i, h1, h2, h3, rfl⟩ := HS.out
      exact ⟨0, z0, Nat.zero_le _, rfl, rfl, HLZ.out, h2, h3, by simpa [I] using HOW.out, HB0.out⟩
    case round =>
      clear HOW HS HLZ HB0 HO0
      obtain ⟨i, z, hi, hgi, rfl, hz, hnx, hend, ho, hb⟩ := hrel
      have HGI := hid2 hgi
      have HB := hid2 hb
      have HO1 := hid2 (HO.out.below hb)
      have HOW := hid2 ho
      obtain ⟨pv, cap, rfl⟩ : ∃ p cap, u5 = Value.slice p i cap := by
        rcases ho.2 with ⟨rfl, h0⟩ | ⟨gb, cap, _, rfl, _⟩
        · exact ⟨none, 0, by rw [h0]⟩
        · exact ⟨_, cap, rfl⟩
      have hz3 : (z : Int) = (q : Int) ↔ i = m := by rw [← HQI.out]; exact hend
      have zN : z < N := by have := HN.out; omega
      clear hgi hb hend ho
      by_cases him : i < m
      · rw [if_pos him] at hnx
        have hne : ((z : Int) != (q : Int)) = true := by
          rw [bne_iff_ne]
          intro e
          have := hz3.1 e
          omega
        obtain ⟨p1, z1, ep, _, eB, lz, _, _, hnx1, hend1⟩ := HST.out (i + 1) _ hnx
        obtain rfl : z = p1 := by omega
        have HX1 := hid2 hnx1
        have HE1 := hid2 hend1
        have HLZ : Hid (z1 < n + K + 1) := lz
        have HEB := hid2 eB
        have HAT : Hid (a[i]? = some (z : Int)) := by show _ = _; simpa using hnx
        have hsz := HB.out.size
        clear hnx hz3 hnx1 hend1 ep eB lz
        go_wp2_with (at_builtin; go_loud (refine wpList_append_gen Tryz.underlying78 elem3 rfl (by decide) _ rfl _ _ rfl w.heap.size _ _ _ rfl (HOW.out.alloc _) _ _ (I [(z : Int)]) (I_one _) rfl (sl_one_new _ _ _) (by simp [I]; omega) (by simp; omega) ?_; intro v1 w1 hown1 hgrow1; have hb1 := hid2 ((HB.out.alloc hsz (.cells #[.int .i64 (z : Int)] 3)).grown hgrow1 (by simp; omega) (fun k hk => (HOW.out.lt k hk).1)); have ho1 := HO.out.below hb1.out; have hz1 := (ho1.link zN).2.1; rw [HEB.out] at hz1; obtain ⟨⟨b1, b2, b3⟩, _, _, c3, _⟩ := ho1.cells))
        go_roundg (m + 1 - (i + 1))
        case measure => rw [HGI.out]; omega
        case rel =>
          refine ⟨i + 1, z1, by omega, rfl, rfl, HLZ.out, HX1.out, HE1.out, ?_, hb1.out⟩
          rw [take_snoc HAT.out, I_append]
          exact hown1
      · obtain rfl : i = m := by omega
        have hq : ((z : Int) != (q : Int)) = false := by
          have := hz3.2 rfl
          rw [this]; simp
        have HTK : Hid (a.take i = a) := by show _ = _; rw [HM.out]; exact List.take_length
        clear hnx hz3
        go_wp2_with fail
        go_ret
        refine ⟨_, rfl, ?_, HB.out⟩
        have := HOW.out
        rw [HTK.out] at this
        exact Ls.own this (Nat.le_refl _)
end Go.Proofs.YtkgecpplgjfhiaaGreatDoor.Lis
