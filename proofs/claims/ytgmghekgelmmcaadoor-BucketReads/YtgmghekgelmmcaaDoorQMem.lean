/-
  Rows of entries and bytes beside a call's own rows; what stays where such rows grow.
-/
import Derived.Test.YtgmghekgelmmcaaDoorQIEnts
import Derived.Test.YtgmghekgelmmcaaDoorQFlt
import Derived.Laws.OwnMore
import Derived.Deep.MidRow
namespace Go.Proofs.YtgmghekgelmmcaaDoor
open Go.RowKit
open Ite (Ent zeroE checkE sizeE)

def Tag (w : World) (b : Nat) (T : TypeId) : Prop := ∃ cur fr, w.heap[b]? = some (.cells cur T fr)
theorem Tag.lt {w : World} {b : Nat} {T : TypeId} (h : Tag w b T) : b < w.heap.size := by
  obtain ⟨cur, fr, h⟩ := h
  exact lt_of_block h
theorem Tag.same {w w' : World} {b : Nat} {T : TypeId} (h : Tag w b T) (e : w'.heap[b]? = w.heap[b]?) : Tag w' b T := by
  obtain ⟨cur, fr, h⟩ := h
  exact ⟨cur, fr, by rw [e]; exact h⟩
theorem Tag.ne {w : World} {b c : Nat} {T U : TypeId} (h : Tag w b T) (k : Tag w c U) (hn : T ≠ U) : b ≠ c := by
  rintro rfl
  obtain ⟨_, _, h⟩ := h
  obtain ⟨_, _, k⟩ := k
  rw [h] at k
  simp at k
  exact hn k.2.1
/-- What stays where rows of entries are written, from B on. -/
structure Fr (B : Nat) (w w' : World) : Prop where
  os : w'.os = w.os
  tape : w'.tape = w.tape
  output : w'.output = w.output
  size : w.heap.size ≤ w'.heap.size
  block : ∀ k, k < w.heap.size → (k < B ∨ ¬ Tag w k 39) → w'.heap[k]? = w.heap[k]?
theorem Fr.refl (B : Nat) (w : World) : Fr B w w := ⟨rfl, rfl, rfl, Nat.le_refl _, fun _ _ _ => rfl⟩
theorem nTag_same {w w' : World} {k : Nat} {T : TypeId} (h : ¬ Tag w k T) (e : w'.heap[k]? = w.heap[k]?) : ¬ Tag w' k T := fun h' => h (h'.same e.symm)
theorem Fr.trans {B : Nat} {a b c : World} (x : Fr B a b) (y : Fr B b c) : Fr B a c :=
  ⟨y.os.trans x.os, y.tape.trans x.tape, y.output.trans x.output, Nat.le_trans x.size y.size, fun k hk h => (y.block k (Nat.lt_of_lt_of_le hk x.size) (h.imp id fun h => nTag_same h (x.block k hk (.inr h)))).trans (x.block k hk h)⟩
theorem Fr.of {B : Nat} {a b : World} (x : Below a.heap.size a b) : Fr B a b := ⟨x.os, x.tape, x.output, x.size, fun k hk _ => x.block k hk⟩
theorem Fr.then_ {B : Nat} {a b c : World} (x : Fr B a b) (y : Below b.heap.size b c) : Fr B a c := x.trans (.of y)
theorem Fr.below {B : Nat} {a b : World} (x : Fr B a b) (h : B ≤ a.heap.size) : Below B a b := ⟨x.os, x.tape, x.output, x.size, fun k hk => x.block k (by omega) (.inl hk)⟩
theorem Fr.mono {B B' : Nat} {a b : World} (x : Fr B a b) (h : B' ≤ B) : Fr B' a b := ⟨x.os, x.tape, x.output, x.size, fun k hk h' => x.block k hk (h'.imp (fun h'' => by omega) id)⟩
def Kd (w : World) (B b : Nat) (T : TypeId) : Prop := b < B ∨ Tag w b T
def Bq (w : World) (B : Nat) (v : Value) (l : List Int) : Prop := ∃ b, Ite.SlAt w b v (Ite.U l) ∧ (l = [] ∨ Kd w B b 5)
theorem Bq.bs {w : World} {B : Nat} {v : Value} {l : List Int} (h : Bq w B v l) : Ite.Bs w v l := by obtain ⟨b, h, _⟩ := h; exact ⟨b, h⟩
theorem Bq.form {w : World} {B : Nat} {v : Value} {l : List Int} (h : Bq w B v l) : ∃ p cap, v = .slice p l.length cap ∧ l.length ≤ cap ∧ cap ≤ maxLen := h.bs.form
theorem empty_sl {w w' : World} {b : Nat} {v : Value} (h : Ite.SlAt w b v []) : Ite.SlAt w' b v [] := by
  rcases h with h | ⟨a, c, h1, h2, h3, _⟩
  · exact .inl h
  · exact .inr ⟨a, c, h1, h2, h3, .inl rfl⟩
theorem Bq.fr {B : Nat} {w w' : World} {v : Value} {l : List Int} (h : Bq w B v l) (f : Fr B w w') : Bq w' B v l := by
  obtain ⟨b, h, k⟩ := h
  rcases k with rfl | k | k
  · exact ⟨b, empty_sl h, .inl rfl⟩
  · exact ⟨b, h.keeps f.size (fun hlt => f.block b hlt (.inl k)), .inr (.inl k)⟩
  · have e := f.block b k.lt (.inr fun h' => k.ne h' (by decide) rfl)
    exact ⟨b, h.keeps f.size (fun _ => e), .inr (.inr (k.same e))⟩
theorem Bq.stays {B : Nat} {w w' : World} {v : Value} {l : List Int} (h : Bq w B v l) (f : Below w.heap.size w w') : Bq w' B v l := h.fr (.of f)
theorem Bq.of5 {w : World} {v : Value} {l : List Int} (B : Nat) (h : Ite.Bs5 w v l) : Bq w B v l := by
  obtain ⟨b, h, k⟩ := h
  rcases k with k | ⟨cur, fr, k⟩
  · exact ⟨b, h, .inl (by simpa [Ite.U] using k)⟩
  · exact ⟨b, h, .inr (.inr ⟨cur, fr, k⟩)⟩
theorem Bq.old {w : World} {B : Nat} {v : Value} {l : List Int} (h : Ite.Bs w v l) (hB : w.heap.size ≤ B) : Bq w B v l := by
  obtain ⟨b, h⟩ := h
  by_cases hl : l = []
  · exact ⟨b, h, .inl hl⟩
  · refine ⟨b, h, .inr (.inl ?_)⟩
    rcases h with ⟨_, e⟩ | ⟨a, c, h1, h2, h3, h4⟩
    · simp [Ite.U] at e; exact absurd e hl
    · rcases h4 with e | ⟨off, e, h5⟩
      · simp [Ite.U] at e; exact absurd e hl
      · cases l with
        | nil => exact absurd rfl hl
        | cons x r =>
          exact Nat.lt_of_lt_of_le h5.1 hB
theorem Bq.nil (w : World) (B : Nat) : Bq w B (.slice none 0 0) [] := ⟨0, Ite.SlAt.nil w 0, .inl rfl⟩

theorem Bq.mono {w : World} {B B' : Nat} {v : Value} {l : List Int} (h : Bq w B v l) (hB : B ≤ B') : Bq w B' v l := by
  obtain ⟨b, h, k⟩ := h
  exact ⟨b, h, k.imp id fun k => k.imp (fun k => Nat.lt_of_lt_of_le k hB) id⟩
theorem cell_eq {w w' : World} {b : Nat} (e : w'.heap[b]? = w.heap[b]?) (o : Nat) : w'.cell? ⟨b, o, none⟩ = w.cell? ⟨b, o, none⟩ := by simp [World.cell?, e]
set_option maxRecDepth 4000
/-- Cells that are these entries. -/
def EQ (w : World) (B : Nat) : List Ent → List Value → Prop
  | [], cs => cs = []
  | x :: r, cs => ∃ p c cs', cs = .string x.key :: .int .i64 x.ver :: .int .i64 x.asof :: .int .i64 x.ends :: .slice p x.val.length c :: cs' ∧ Bq w B (.slice p x.val.length c) x.val ∧ EQ w B r cs'
theorem EQ.keep {w w' : World} {B : Nat} (hk : ∀ v l, Bq w B v l → Bq w' B v l) {xs : List Ent} {cs : List Value} (h : EQ w B xs cs) : EQ w' B xs cs := by
  induction xs generalizing cs with
  | nil => exact h
  | cons x r ih =>
    obtain ⟨p, c, cs', h1, h2, h3⟩ := h
    exact ⟨p, c, cs', h1, hk _ _ h2, ih h3⟩
theorem EQ.fr {B : Nat} {w w' : World} {xs : List Ent} {cs : List Value} (h : EQ w B xs cs) (f : Fr B w w') : EQ w' B xs cs := h.keep fun _ _ k => k.fr f
theorem EQ.snoc {w : World} {B : Nat} {xs : List Ent} {cs : List Value} {x : Ent} {p : Option Addr} {c : Nat} (h : EQ w B xs cs) (hx : Bq w B (.slice p x.val.length c) x.val) :
    EQ w B (xs ++ [x]) (cs ++ [.string x.key, .int .i64 x.ver, .int .i64 x.asof, .int .i64 x.ends, .slice p x.val.length c]) := by
  induction xs generalizing cs with
  | nil =>
    have e : cs = [] := h
    subst e
    exact ⟨p, c, [], rfl, hx, rfl⟩
  | cons y r ih =>
    obtain ⟨q, d, cs', rfl, h2, h3⟩ := h
    exact ⟨q, d, _, rfl, h2, ih h3⟩
theorem EQ.append {w : World} {B : Nat} {xs ys : List Ent} {cs ds : List Value} (h : EQ w B xs cs) (g : EQ w B ys ds) : EQ w B (xs ++ ys) (cs ++ ds) := by
  induction xs generalizing cs with
  | nil =>
    have e : cs = [] := h
    subst e
    exact g
  | cons y r ih =>
    obtain ⟨q, d, cs', rfl, h2, h3⟩ := h
    exact ⟨q, d, _, rfl, h2, ih h3⟩
theorem EQ.at {w : World} {B : Nat} {xs : List Ent} {cs : List Value} (h : EQ w B xs cs) : ∀ {k : Nat} {x : Ent}, xs[k]? = some x → ∃ p c, cs[k * 5]? = some (.string x.key) ∧ cs[k * 5 + 1]? = some (.int .i64 x.ver) ∧ cs[k * 5 + 2]? = some (.int .i64 x.asof) ∧ cs[k * 5 + 3]? = some (.int .i64 x.ends) ∧ cs[k * 5 + 4]? = some (.slice p x.val.length c) ∧ Bq w B (.slice p x.val.length c) x.val := by
  induction xs generalizing cs with
  | nil => intro k x hk; simp at hk
  | cons y r ih =>
    intro k x hk
    obtain ⟨q, d, cs', rfl, h2, h3⟩ := h
    cases k with
    | zero =>
      simp at hk
      subst hk
      exact ⟨q, d, rfl, rfl, rfl, rfl, rfl, h2⟩
    | succ k =>
      simp at hk
      obtain ⟨p, c, a0, a1, a2, a3, a4, a5⟩ := ih h3 hk
      refine ⟨p, c, ?_, ?_, ?_, ?_, ?_, a5⟩
      · rw [show (k + 1) * 5 = k * 5 + 5 by omega]; exact a0
      · rw [show (k + 1) * 5 + 1 = k * 5 + 1 + 5 by omega]; exact a1
      · rw [show (k + 1) * 5 + 2 = k * 5 + 2 + 5 by omega]; exact a2
      · rw [show (k + 1) * 5 + 3 = k * 5 + 3 + 5 by omega]; exact a3
      · rw [show (k + 1) * 5 + 4 = k * 5 + 4 + 5 by omega]; exact a4
theorem EQ.length {w : World} {B : Nat} {xs : List Ent} {cs : List Value} (h : EQ w B xs cs) : cs.length = xs.length * 5 := by
  induction xs generalizing cs with
  | nil => have e : cs = [] := h; subst e; rfl
  | cons y r ih => obtain ⟨q, d, cs', rfl, h2, h3⟩ := h; simp [ih h3]; omega
theorem EQ.one {w : World} {B : Nat} {xs : List Ent} {cs : List Value} (h : EQ w B xs cs) : ∀ u ∈ cs, u.oneCell' = true := by
  induction xs generalizing cs with
  | nil => have e : cs = [] := h; subst e; intro u hu; cases hu
  | cons y r ih =>
    obtain ⟨q, d, cs', rfl, h2, h3⟩ := h
    intro u hu
    simp only [List.mem_cons] at hu
    rcases hu with rfl | rfl | rfl | rfl | rfl | hu
    · rfl
    · rfl
    · rfl
    · rfl
    · rfl
    · exact ih h3 u hu
theorem EQ.take {w : World} {B : Nat} : ∀ {L : List Ent} {cs : List Value} (k : Nat), EQ w B L cs → EQ w B (L.take k) (cs.take (k * 5))
  | [], cs, k, h => by have e : cs = [] := h; subst e; simp; exact rfl
  | x :: r, cs, 0, h => by simp; exact rfl
  | x :: r, cs, k + 1, h => by
    obtain ⟨p, c, cs', rfl, h1, h2⟩ := h
    rw [show (k + 1) * 5 = k * 5 + 5 by omega]
    exact ⟨p, c, cs'.take (k * 5), by simp, h1, h2.take k⟩
theorem EQ.drop {w : World} {B : Nat} : ∀ {L : List Ent} {cs : List Value} (k : Nat), EQ w B L cs → EQ w B (L.drop k) (cs.drop (k * 5))
  | [], cs, k, h => by have e : cs = [] := h; subst e; simp; exact rfl
  | x :: r, cs, 0, h => by simpa using h
  | x :: r, cs, k + 1, h => by
    obtain ⟨p, c, cs', rfl, h1, h2⟩ := h
    rw [show (k + 1) * 5 = k * 5 + 5 by omega]
    simpa using h2.drop k
theorem EQ.stays {w w' : World} {B : Nat} {L : List Ent} {cs : List Value} (h : EQ w B L cs) (b : Below w.heap.size w w') : EQ w' B L cs := h.fr (.of b)
theorem EQ.mono {w : World} {B B' : Nat} (hB : B ≤ B') {xs : List Ent} {cs : List Value} (h : EQ w B xs cs) : EQ w B' xs cs := by
  induction xs generalizing cs with
  | nil => exact h
  | cons x r ih =>
    obtain ⟨p, c, cs', h1, h2, h3⟩ := h
    exact ⟨p, c, cs', h1, h2.mono hB, ih h3⟩
/-- A row of the call's own is a row of entries. -/
theorem EsAt.own {w : World} {B B' n : Nat} {v : Value} {xs : List Ent} {cs : List Value} (h : w.ownsRow B' 39 5 v n cs) (hn : n = xs.length) (hc : EQ w B xs cs) : Ite.EsAt w v xs := by
  subst hn
  rcases h.2 with ⟨rfl, h0⟩ | ⟨g, cap, cur, rfl, hb, hg, h1, h2, _⟩
  · obtain rfl := List.eq_nil_of_length_eq_zero h0
    exact Ite.EsAt.nil w
  · refine ⟨some ⟨g, 0, none⟩, cap, rfl, h1, h2, fun k x hk => ?_⟩
    obtain ⟨q, c, a0, a1, a2, a3, a4, a5⟩ := hc.at hk
    have hcell := h.cells (g := g) rfl
    have cc : ∀ j u, cs[j]? = some u → w.cell? ⟨g, 0 + j, none⟩ = some u := fun j u hj => by have := hcell j u hj; rwa [Ite.add_off] at this
    exact ⟨g, 0, q, c, rfl, lt_of_block hg, cc _ _ a0, cc _ _ a1, cc _ _ a2, cc _ _ a3, cc _ _ a4, a5.bs⟩
/-- What is read out of a row. -/
theorem EsAt.cells {w : World} {p : Option Addr} {m cap : Nat} {xs : List Ent} (h : Ite.EsAt w (.slice p m cap) xs) {k : Nat} {x : Ent} (hk : xs[k]? = some x) : ∃ b off q c, p = some ⟨b, off, none⟩ ∧ b < w.heap.size ∧ w.rangeAt b (off + k * 5) [.string x.key, .int .i64 x.ver, .int .i64 x.asof, .int .i64 x.ends, .slice q x.val.length c] ∧ Ite.Bs w (.slice q x.val.length c) x.val := by
  obtain ⟨p', cap', h1, h2, h3, h4⟩ := h
  cases h1
  obtain ⟨b, off, q, c, e1, e2, a0, a1, a2, a3, a4, a5⟩ := h4 k x hk
  refine ⟨b, off, q, c, e1, e2, ?_, a5⟩
  intro j v hj
  rcases j with _ | _ | _ | _ | _ | j
  · cases hj; exact a0
  · cases hj; exact a1
  · cases hj; exact a2
  · cases hj; exact a3
  · cases hj; exact a4
  · simp at hj
theorem Es.list {w : World} {B : Nat} : ∀ {L : List Ent} {bl off _cap _m : Nat}, (∀ k x, L[k]? = some x → ∃ q c, w.cell? ⟨bl, off + k * 5, none⟩ = some (.string x.key) ∧ w.cell? ⟨bl, off + k * 5 + 1, none⟩ = some (.int .i64 x.ver) ∧ w.cell? ⟨bl, off + k * 5 + 2, none⟩ = some (.int .i64 x.asof) ∧ w.cell? ⟨bl, off + k * 5 + 3, none⟩ = some (.int .i64 x.ends) ∧ w.cell? ⟨bl, off + k * 5 + 4, none⟩ = some (.slice q x.val.length c) ∧ Bq w B (.slice q x.val.length c) x.val) →
    ∃ cs, EQ w B L cs ∧ ∀ j u, cs[j]? = some u → w.cell? ⟨bl, off + j, none⟩ = some u
  | [], _, _, _, _, _ => ⟨[], rfl, fun j u hj => by simp at hj⟩
  | x :: r, bl, off, cap, m, h => by
    obtain ⟨q, c, a0, a1, a2, a3, a4, a5⟩ := h 0 x rfl
    obtain ⟨cs, h1, h2⟩ := Es.list (L := r) (bl := bl) (off := off + 5) (_cap := cap) (_m := m) (fun k y hy => by
      obtain ⟨q, c, b⟩ := h (k + 1) y hy
      rw [show off + (k + 1) * 5 = off + 5 + k * 5 by omega] at b
      exact ⟨q, c, b⟩)
    refine ⟨_, ⟨q, c, cs, rfl, a5, h1⟩, fun j u hj => ?_⟩
    rw [Nat.zero_mul, Nat.add_zero] at a0 a1 a2 a3 a4
    rcases j with _ | _ | _ | _ | _ | j
    · cases hj; exact a0
    · cases hj; exact a1
    · cases hj; exact a2
    · cases hj; exact a3
    · cases hj; exact a4
    · have := h2 j u (by simpa using hj)
      rwa [show off + 5 + j = off + (j + 5) by omega] at this
theorem EsAt.row {w : World} {p : Option Addr} {m cap B : Nat} {L : List Ent} (h : Ite.EsAt w (.slice p m cap) L) (hB : w.heap.size ≤ B) (hL : L ≠ []) : ∃ bl off cs, p = some ⟨bl, off, none⟩ ∧ bl < w.heap.size ∧ EQ w B L cs ∧ ∀ j u, cs[j]? = some u → w.cell? ⟨bl, off + j, none⟩ = some u := by
  obtain ⟨p', cap', e, h2, h3, h4⟩ := h
  cases e
  obtain ⟨x, hx⟩ : ∃ x, L[0]? = some x := by
    cases L with
    | nil => exact absurd rfl hL
    | cons x r => exact ⟨x, rfl⟩
  obtain ⟨bl, off, q, c, e1, e2, _⟩ := h4 0 x hx
  obtain ⟨cs, c1, c2⟩ := Es.list (w := w) (B := B) (L := L) (bl := bl) (off := off) (_cap := 0) (_m := 0) (fun k y hy => by
    obtain ⟨b, o, q, c, e, _, a0, a1, a2, a3, a4, a5⟩ := h4 k y hy
    rw [e1] at e
    cases e
    exact ⟨q, c, a0, a1, a2, a3, a4, Bq.old a5 hB⟩)
  exact ⟨bl, off, cs, e1, e2, c1, c2⟩
theorem info_en : (Tryd.prog.info? 39).map (fun i => (i.zero, i.size, i.bytes)) = some (some (.agg #[.string ⟨#[]⟩, .int .i64 0, .int .i64 0, .int .i64 0, .slice none 0 0]), 5, 64) := by kernel_rfl
theorem cell_five_new (w : World) (x0 x1 x2 x3 x4 : Value) (e : TypeId) : ∀ j u, [x0, x1, x2, x3, x4][j]? = some u → (w.alloc (.cells #[x0, x1, x2, x3, x4] e)).cell? ((⟨w.heap.size, 0, none⟩ : Addr).add j) = some u := by
  intro j u hu
  rw [Ite.add_zero_off]
  have := heap_alloc_new w (.cells #[x0, x1, x2, x3, x4] e)
  simp only [World.cell?, this]
  simpa using hu
section
variable {ops : Array Oper} {rest : List Oper} {op : Oper} {a : Act}
theorem step_append_e {w : World} {K : Act → World → Prop} {Q : Exit → Act → World → Prop} {E : Prop} (hgd : op.guard = none) (s x : Operand) (ho : op.op = .call { callee := .builtin .append, args := #[s, x], argTypes := #[23, 23] }) (B0 : Nat) (v : Value) (n : Nat) (cs : List Value) (hs : a.eval s = v) (hown : w.ownsRow B0 39 5 v n cs)
    (bl off m c : Nat) (news : List Value) (hx : a.eval x = .slice (some ⟨bl, off, none⟩) m c) (hl : news.length = m * 5) (hnews : ∀ j u, news[j]? = some u → w.cell? ⟨bl, off + j, none⟩ = some u) (h1 : ∀ u ∈ news, u.oneCell' = true) (hb : n + m ≤ 100000) (hbase : B0 ≤ w.heap.size)
    (h : ∀ v' w', w'.ownsRow B0 39 5 v' (n + m) (cs ++ news) → w.grownBy w' v.ownBlock → K (a.put op.dst v') w') : if Region.wanted op (yielded ops a.tmps) = true then Oper.wp Tryd.prog op a w K Q else E := by
  have hwt : Region.wanted op (yielded ops a.tmps) = true := by simp [Region.wanted, hgd]
  rw [if_pos hwt]
  obtain ⟨i0, hi, hz0, hz1, hz2⟩ := info_parts info_en
  exact wp_append_own w s x 23 ho B0 39 i0 _ 5 64 Tryd.underlying23 hi hz0 hz1 hz2 rfl (by decide) v n cs hs hown ⟨bl, off, none⟩ m c news hx hl (fun j u hj => by rw [Ite.add_off]; exact hnews j u hj) h1 (by unfold maxLen; omega) (by omega) hbase (fun v' w' a b _ => h v' w' a b)
end
theorem own_form5 {w : World} {B0 n : Nat} {v : Value} {cs : List Value} (h : w.ownsRow B0 39 5 v n cs) : ∃ p cap, v = .slice p n cap := by
  rcases h.2 with ⟨rfl, rfl⟩ | ⟨b, cap, cur, h1, _⟩
  · exact ⟨none, 0, rfl⟩
  · exact ⟨_, cap, h1⟩
theorem own_no {w : World} {B0 n : Nat} {v : Value} {cs : List Value} (h : w.ownsRow B0 39 5 v n cs) {b : Nat} (hb : b < B0) : some b ≠ v.ownBlock := by
  rcases h.2 with ⟨rfl, _⟩ | ⟨g, cap, cur, rfl, hg, _⟩
  · simp [Value.ownBlock]
  · simp [Value.ownBlock]; omega
theorem own_low {w : World} {B0 n : Nat} {v : Value} {cs : List Value} (h : w.ownsRow B0 39 5 v n cs) : ∀ k, v.ownBlock = some k → B0 ≤ k := by
  intro k hk
  rcases h.2 with ⟨rfl, _⟩ | ⟨g, cap, cur, rfl, hg, _⟩
  · simp [Value.ownBlock] at hk
  · simp [Value.ownBlock] at hk; omega
theorem own_kept5 {w w' : World} {B0 n : Nat} {v : Value} {cs : List Value} (h : w.ownsRow B0 39 5 v n cs) (e : ∀ b, B0 ≤ b → Tag w b 39 → w'.heap[b]? = w.heap[b]?) : w'.ownsRow B0 39 5 v n cs := by
  refine ⟨h.1, ?_⟩
  rcases h.2 with h0 | ⟨g, cap, cur, h1, hb, hg, h2⟩
  · exact .inl h0
  · refine .inr ⟨g, cap, cur, h1, hb, ?_, h2⟩
    rw [e g hb ⟨_, _, hg⟩]; exact hg

theorem own_fr {w w' : World} {B' n : Nat} {v : Value} {cs : List Value} (h : w.ownsRow B' 39 5 v n cs) (f : Below w.heap.size w w') : w'.ownsRow B' 39 5 v n cs := own_kept5 h (fun b _ ht => f.block b ht.lt)
/-- A row of the call's own that grows. -/
theorem row_grown {w5 w6 : World} {B0 n : Nat} {v : Value} {cs : List Value} (ho : w5.ownsRow B0 39 5 v n cs) (hg : w5.grownBy w6 v.ownBlock) {B : Nat} (hB : B ≤ B0) : Fr B w5 w6 := by
  have own : ∀ k, some k = v.ownBlock → Tag w5 k 39 ∧ B0 ≤ k := fun k e => by
    rcases ho.2 with ⟨rfl, _⟩ | ⟨b', cap, cur, rfl, h2, h3, _⟩
    · cases e
    · cases e; exact ⟨⟨_, _, h3⟩, h2⟩
  refine ⟨hg.os, hg.tape, hg.output, hg.size, fun k hk h => hg.block k hk (fun e => ?_)⟩
  obtain ⟨h1, h2⟩ := own k e
  rcases h with h | h
  · omega
  · exact h h1
theorem drew_below_m (w : World) (n B : Nat) : Below B w (w.drewN n) := ⟨rfl, rfl, rfl, Nat.le_refl _, fun _ _ => rfl⟩
theorem below_grown {w w' : World} (h : w.grownBy w' none) : Below w.heap.size w w' := ⟨h.os, h.tape, h.output, h.size, fun k hk => h.block k hk (by simp)⟩
end Go.Proofs.YtgmghekgelmmcaaDoor
