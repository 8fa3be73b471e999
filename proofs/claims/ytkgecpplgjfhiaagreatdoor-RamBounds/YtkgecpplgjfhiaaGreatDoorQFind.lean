/-
  Where a key's chain begins; the node of a key.
-/
import Derived.Test.YtkgecpplgjfhiaaGreatDoorQMathB
import Derived.Test.YtkgecpplgjfhiaaGreatDoorQIEnts
import Derived.Test.YtkgecpplgjfhiaaGreatDoorQGNew
import Derived.Test.YtkgecpplgjfhiaaGreatDoorQSMany
import Derived.Test.YtkgecpplgjfhiaaGreatDoorQBNums
import Derived.Laws.OwnMore
import Derived.Deep.MidRow
namespace Go.Proofs.YtkgecpplgjfhiaaGreatDoor
open Go.RowKit
open Ite (Ent zeroE checkE sizeE)
open Lis (Lst but Tag)

/-- No block of the program's tier. -/
def NotR (w : World) (k : Nat) : Prop := ∀ cur T fr, w.heap[k]? = some (.cells cur T fr) → T ≠ 81 ∧ T ≠ 112 ∧ T ≠ 115 ∧ T ≠ 117 ∧ T ≠ 3 ∧ T ≠ 103
theorem NotR.same {w w' : World} {k : Nat} (h : NotR w k) (e : w'.heap[k]? = w.heap[k]?) : NotR w' k := fun cur T fr hh => h cur T fr (by rw [← e]; exact hh)
theorem NotR.notL {w : World} {k : Nat} (h : NotR w k) : Lis.NotL w k := fun cur T fr hh => ⟨(h cur T fr hh).2.2.1, (h cur T fr hh).2.2.2.1, (h cur T fr hh).2.2.2.2.1⟩
theorem Lis.Tag.notR {w : World} {b : Nat} {T : TypeId} (h : Tag w b T) (hT : T ≠ 81 ∧ T ≠ 112 ∧ T ≠ 115 ∧ T ≠ 117 ∧ T ≠ 3 ∧ T ≠ 103) : NotR w b := by
  obtain ⟨cur, fr, h⟩ := h
  intro cur' T' fr' h'
  rw [h] at h'
  injection h' with h'
  injection h' with _ e _
  subst e
  exact hT
/-- What stays where calls of the tier write: all below B, and every block of another type. -/
structure Fr (B : Nat) (w w' : World) : Prop where
  os : w'.os = w.os
  tape : w'.tape = w.tape
  output : w'.output = w.output
  size : w.heap.size ≤ w'.heap.size
  block : ∀ k, k < w.heap.size → (k < B ∨ NotR w k) → w'.heap[k]? = w.heap[k]?
theorem Fr.refl (B : Nat) (w : World) : Fr B w w := ⟨rfl, rfl, rfl, Nat.le_refl _, fun _ _ _ => rfl⟩
theorem Fr.trans {B : Nat} {a b c : World} (x : Fr B a b) (y : Fr B b c) : Fr B a c :=
  ⟨y.os.trans x.os, y.tape.trans x.tape, y.output.trans x.output, Nat.le_trans x.size y.size, fun k hk h => (y.block k (Nat.lt_of_lt_of_le hk x.size) (h.imp id fun h => h.same (x.block k hk (.inr h)))).trans (x.block k hk h)⟩
theorem Fr.of {B : Nat} {a b : World} (x : Below a.heap.size a b) : Fr B a b := ⟨x.os, x.tape, x.output, x.size, fun k hk _ => x.block k hk⟩
theorem Fr.then_ {B : Nat} {a b c : World} (x : Fr B a b) (y : Below b.heap.size b c) : Fr B a c := x.trans (.of y)
theorem Fr.below {B : Nat} {a b : World} (x : Fr B a b) (h : B ≤ a.heap.size) : Below B a b := ⟨x.os, x.tape, x.output, x.size, fun k hk => x.block k (by omega) (.inl hk)⟩
theorem Fr.mono {B B' : Nat} {a b : World} (x : Fr B a b) (h : B' ≤ B) : Fr B' a b := ⟨x.os, x.tape, x.output, x.size, fun k hk h' => x.block k hk (h'.imp (fun h'' => by omega) id)⟩
theorem Fr.mid {B B1 B2 : Nat} {a b : World} (x : Lis.Mid B1 B2 a b) (h : B ≤ B1) : Fr B a b :=
  ⟨x.os, x.tape, x.output, x.size, fun k hk h' => x.block k hk (h'.elim (fun h'' => .inl (by omega)) fun h'' => .inr (.inr h''.notL))⟩
theorem Fr.grown {B g : Nat} {a b : World} {T : TypeId} (x : a.grownBy b (some g)) (h : B ≤ g) (ht : Tag a g T) (hT : T = 81 ∨ T = 112 ∨ T = 3 ∨ T = 103) : Fr B a b :=
  ⟨x.os, x.tape, x.output, x.size, fun k hk h' => x.block k hk (fun e => by
    cases e
    rcases h' with h' | h'
    · omega
    · obtain ⟨cur, fr, ht⟩ := ht
      obtain ⟨a1, a2, a3, a4, a5, a6⟩ := h' _ _ _ ht
      rcases hT with rfl | rfl | rfl | rfl <;> contradiction)⟩

/-! ### Bytes and entries beside the tier -/
def Kd (w : World) (B b : Nat) (T : TypeId) : Prop := b < B ∨ Tag w b T
def Bq (w : World) (B : Nat) (v : Value) (l : List Int) : Prop := ∃ b, Ite.SlAt w b v (Ite.U l) ∧ (l = [] ∨ Kd w B b 5)
theorem Bq.bs {w : World} {B : Nat} {v : Value} {l : List Int} (h : Bq w B v l) : Ite.Bs w v l := by obtain ⟨b, h, _⟩ := h; exact ⟨b, h⟩
theorem Bq.form {w : World} {B : Nat} {v : Value} {l : List Int} (h : Bq w B v l) : ∃ p cap, v = .slice p l.length cap ∧ l.length ≤ cap ∧ cap ≤ maxLen := h.bs.form
theorem empty_sl {w w' : World} {b : Nat} {v : Value} (h : Ite.SlAt w b v []) : Ite.SlAt w' b v [] := by
  rcases h with h | ⟨a, c, h1, h2, h3, _⟩
  · exact .inl h
  · exact .inr ⟨a, c, h1, h2, h3, .inl rfl⟩
theorem Bq.fr {B : Nat} {w w' : World} {v : Value} {l : List Int} (h : Bq w B v l) (f : Fr B w w') : Bq w' B v l := by
  obtain ⟨b, h, k⟩ := h
  rcases k with rfl | k | k
  · exact ⟨b, empty_sl h, .inl rfl⟩
  · exact ⟨b, h.keeps f.size (fun hlt => f.block b hlt (.inl k)), .inr (.inl k)⟩
  · have e := f.block b k.lt (.inr (k.notR (by decide)))
    exact ⟨b, h.keeps f.size (fun _ => e), .inr (.inr (k.same e))⟩
theorem Bq.stays {B : Nat} {w w' : World} {v : Value} {l : List Int} (h : Bq w B v l) (f : Below w.heap.size w w') : Bq w' B v l := h.fr (.of f)
theorem Bq.of5 {w : World} {v : Value} {l : List Int} (B : Nat) (h : Ite.Bs5 w v l) : Bq w B v l := by
  obtain ⟨b, h, k⟩ := h
  rcases k with k | ⟨cur, fr, k⟩
  · exact ⟨b, h, .inl (by simpa [Ite.U] using k)⟩
  · exact ⟨b, h, .inr (.inr ⟨cur, fr, k⟩)⟩
theorem Bq.old {w : World} {B : Nat} {v : Value} {l : List Int} (h : Ite.Bs w v l) (hB : w.heap.size ≤ B) : Bq w B v l := by
  obtain ⟨b, h⟩ := h
  by_cases hl : l = []
  · exact ⟨b, h, .inl hl⟩
  · refine ⟨b, h, .inr (.inl ?_)⟩
    rcases h with ⟨_, e⟩ | ⟨a, c, h1, h2, h3, h4⟩
    · simp [Ite.U] at e; exact absurd e hl
    · rcases h4 with e | ⟨off, e, h5⟩
      · simp [Ite.U] at e; exact absurd e hl
      · cases l with
        | nil => exact absurd rfl hl
        | cons x r =>
          exact Nat.lt_of_lt_of_le h5.1 hB
theorem Bq.nil (w : World) (B : Nat) : Bq w B (.slice none 0 0) [] := ⟨0, Ite.SlAt.nil w 0, .inl rfl⟩

/-- A row of entries beside the tier. -/
def Es (w : World) (B : Nat) (v : Value) (xs : List Ent) : Prop := ∃ p cap, v = .slice p xs.length cap ∧ xs.length ≤ cap ∧ cap ≤ maxLen ∧
  ∀ k x, xs[k]? = some x → ∃ b off q c, p = some ⟨b, off, none⟩ ∧ b < w.heap.size ∧ Kd w B b 25 ∧ w.cell? ⟨b, off + k * 5, none⟩ = some (.string x.key) ∧ w.cell? ⟨b, off + k * 5 + 1, none⟩ = some (.int .i64 x.ver) ∧ w.cell? ⟨b, off + k * 5 + 2, none⟩ = some (.int .i64 x.asof) ∧
    w.cell? ⟨b, off + k * 5 + 3, none⟩ = some (.int .i64 x.ends) ∧ w.cell? ⟨b, off + k * 5 + 4, none⟩ = some (.slice q x.val.length c) ∧ Bq w B (.slice q x.val.length c) x.val
theorem Es.es {w : World} {B : Nat} {v : Value} {xs : List Ent} (h : Es w B v xs) : Ite.EsAt w v xs := by
  obtain ⟨p, cap, h1, h2, h3, h4⟩ := h
  refine ⟨p, cap, h1, h2, h3, fun k x hk => ?_⟩
  obtain ⟨b, off, q, c, e1, e2, _, a0, a1, a2, a3, a4, a5⟩ := h4 k x hk
  exact ⟨b, off, q, c, e1, e2, a0, a1, a2, a3, a4, a5.bs⟩
theorem Es.form {w : World} {B : Nat} {v : Value} {xs : List Ent} (h : Es w B v xs) : ∃ p cap, v = .slice p xs.length cap ∧ xs.length ≤ cap ∧ cap ≤ maxLen := h.es.form
theorem Es.nil (w : World) (B : Nat) : Es w B (.slice none 0 0) [] := ⟨none, 0, rfl, Nat.le_refl _, by unfold maxLen; omega, fun k x hk => by simp at hk⟩
theorem cell_eq {w w' : World} {b : Nat} (e : w'.heap[b]? = w.heap[b]?) (o : Nat) : w'.cell? ⟨b, o, none⟩ = w.cell? ⟨b, o, none⟩ := by simp [World.cell?, e]
theorem Es.fr {B : Nat} {w w' : World} {v : Value} {xs : List Ent} (h : Es w B v xs) (f : Fr B w w') : Es w' B v xs := by
  obtain ⟨p, cap, h1, h2, h3, h4⟩ := h
  refine ⟨p, cap, h1, h2, h3, fun k x hk => ?_⟩
  obtain ⟨b, off, q, c, e1, e2, e3, a0, a1, a2, a3, a4, a5⟩ := h4 k x hk
  have e : w'.heap[b]? = w.heap[b]? := f.block b e2 (e3.imp id fun k => k.notR (by decide))
  exact ⟨b, off, q, c, e1, Nat.lt_of_lt_of_le e2 f.size, e3.imp id fun k => k.same e, (cell_eq e _).trans a0, (cell_eq e _).trans a1, (cell_eq e _).trans a2, (cell_eq e _).trans a3, (cell_eq e _).trans a4, a5.fr f⟩
theorem Es.stays {B : Nat} {w w' : World} {v : Value} {xs : List Ent} (h : Es w B v xs) (f : Below w.heap.size w w') : Es w' B v xs := h.fr (.of f)
theorem Es.old {w : World} {B : Nat} {v : Value} {xs : List Ent} (h : Ite.EsAt w v xs) (hB : w.heap.size ≤ B) : Es w B v xs := by
  obtain ⟨p, cap, h1, h2, h3, h4⟩ := h
  refine ⟨p, cap, h1, h2, h3, fun k x hk => ?_⟩
  obtain ⟨b, off, q, c, e1, e2, a0, a1, a2, a3, a4, a5⟩ := h4 k x hk
  exact ⟨b, off, q, c, e1, e2, .inl (by omega), a0, a1, a2, a3, a4, .old a5 hB⟩
/-- Cells that are these entries. -/
def EQ (w : World) (B : Nat) : List Ent → List Value → Prop
  | [], cs => cs = []
  | x :: r, cs => ∃ p c cs', cs = .string x.key :: .int .i64 x.ver :: .int .i64 x.asof :: .int .i64 x.ends :: .slice p x.val.length c :: cs' ∧ Bq w B (.slice p x.val.length c) x.val ∧ EQ w B r cs'
theorem EQ.keep {w w' : World} {B : Nat} (hk : ∀ v l, Bq w B v l → Bq w' B v l) {xs : List Ent} {cs : List Value} (h : EQ w B xs cs) : EQ w' B xs cs := by
  induction xs generalizing cs with
  | nil => exact h
  | cons x r ih =>
    obtain ⟨p, c, cs', h1, h2, h3⟩ := h
    exact ⟨p, c, cs', h1, hk _ _ h2, ih h3⟩
theorem EQ.fr {B : Nat} {w w' : World} {xs : List Ent} {cs : List Value} (h : EQ w B xs cs) (f : Fr B w w') : EQ w' B xs cs := h.keep fun _ _ k => k.fr f
theorem EQ.snoc {w : World} {B : Nat} {xs : List Ent} {cs : List Value} {x : Ent} {p : Option Addr} {c : Nat} (h : EQ w B xs cs) (hx : Bq w B (.slice p x.val.length c) x.val) :
    EQ w B (xs ++ [x]) (cs ++ [.string x.key, .int .i64 x.ver, .int .i64 x.asof, .int .i64 x.ends, .slice p x.val.length c]) := by
  induction xs generalizing cs with
  | nil =>
    have e : cs = [] := h
    subst e
    exact ⟨p, c, [], rfl, hx, rfl⟩
  | cons y r ih =>
    obtain ⟨q, d, cs', rfl, h2, h3⟩ := h
    exact ⟨q, d, _, rfl, h2, ih h3⟩
theorem EQ.append {w : World} {B : Nat} {xs ys : List Ent} {cs ds : List Value} (h : EQ w B xs cs) (g : EQ w B ys ds) : EQ w B (xs ++ ys) (cs ++ ds) := by
  induction xs generalizing cs with
  | nil =>
    have e : cs = [] := h
    subst e
    exact g
  | cons y r ih =>
    obtain ⟨q, d, cs', rfl, h2, h3⟩ := h
    exact ⟨q, d, _, rfl, h2, ih h3⟩
theorem EQ.at {w : World} {B : Nat} {xs : List Ent} {cs : List Value} (h : EQ w B xs cs) : ∀ {k : Nat} {x : Ent}, xs[k]? = some x → ∃ p c, cs[k * 5]? = some (.string x.key) ∧ cs[k * 5 + 1]? = some (.int .i64 x.ver) ∧ cs[k * 5 + 2]? = some (.int .i64 x.asof) ∧ cs[k * 5 + 3]? = some (.int .i64 x.ends) ∧ cs[k * 5 + 4]? = some (.slice p x.val.length c) ∧ Bq w B (.slice p x.val.length c) x.val := by
  induction xs generalizing cs with
  | nil => intro k x hk; simp at hk
  | cons y r ih =>
    intro k x hk
    obtain ⟨q, d, cs', rfl, h2, h3⟩ := h
    cases k with
    | zero =>
      simp at hk
      subst hk
      exact ⟨q, d, rfl, rfl, rfl, rfl, rfl, h2⟩
    | succ k =>
      simp at hk
      obtain ⟨p, c, a0, a1, a2, a3, a4, a5⟩ := ih h3 hk
      refine ⟨p, c, ?_, ?_, ?_, ?_, ?_, a5⟩
      · rw [show (k + 1) * 5 = k * 5 + 5 by omega]; exact a0
      · rw [show (k + 1) * 5 + 1 = k * 5 + 1 + 5 by omega]; exact a1
      · rw [show (k + 1) * 5 + 2 = k * 5 + 2 + 5 by omega]; exact a2
      · rw [show (k + 1) * 5 + 3 = k * 5 + 3 + 5 by omega]; exact a3
      · rw [show (k + 1) * 5 + 4 = k * 5 + 4 + 5 by omega]; exact a4
theorem EQ.length {w : World} {B : Nat} {xs : List Ent} {cs : List Value} (h : EQ w B xs cs) : cs.length = xs.length * 5 := by
  induction xs generalizing cs with
  | nil => have e : cs = [] := h; subst e; rfl
  | cons y r ih => obtain ⟨q, d, cs', rfl, h2, h3⟩ := h; simp [ih h3]; omega
theorem EQ.one {w : World} {B : Nat} {xs : List Ent} {cs : List Value} (h : EQ w B xs cs) : ∀ u ∈ cs, u.oneCell' = true := by
  induction xs generalizing cs with
  | nil => have e : cs = [] := h; subst e; intro u hu; cases hu
  | cons y r ih =>
    obtain ⟨q, d, cs', rfl, h2, h3⟩ := h
    intro u hu
    simp only [List.mem_cons] at hu
    rcases hu with rfl | rfl | rfl | rfl | rfl | hu
    · rfl
    · rfl
    · rfl
    · rfl
    · rfl
    · exact ih h3 u hu
/-- A row of the call's own is such a row. -/
theorem Es.own {w : World} {B B' n : Nat} {v : Value} {xs : List Ent} {cs : List Value} (h : w.ownsRow B' 25 5 v n cs) (hn : n = xs.length) (hc : EQ w B xs cs) : Es w B v xs := by
  subst hn
  rcases h.2 with ⟨rfl, h0⟩ | ⟨g, cap, cur, rfl, hb, hg, h1, h2, _⟩
  · obtain rfl := List.eq_nil_of_length_eq_zero h0
    exact Es.nil w B
  · refine ⟨some ⟨g, 0, none⟩, cap, rfl, h1, h2, fun k x hk => ?_⟩
    obtain ⟨q, c, a0, a1, a2, a3, a4, a5⟩ := hc.at hk
    have hcell := h.cells (g := g) rfl
    have cc : ∀ j u, cs[j]? = some u → w.cell? ⟨g, 0 + j, none⟩ = some u := fun j u hj => by have := hcell j u hj; rwa [Ite.add_off] at this
    exact ⟨g, 0, q, c, rfl, lt_of_block hg, .inr ⟨cur, _, hg⟩, cc _ _ a0, cc _ _ a1, cc _ _ a2, cc _ _ a3, cc _ _ a4, a5⟩
theorem own_fr {w w' : World} {B B' n : Nat} {v : Value} {cs : List Value} (h : w.ownsRow B' 25 5 v n cs) (f : Fr B w w') : w'.ownsRow B' 25 5 v n cs := by
  refine ⟨h.1, ?_⟩
  rcases h.2 with h0 | ⟨g, cap, cur, h1, hb, hg, h2⟩
  · exact .inl h0
  · refine .inr ⟨g, cap, cur, h1, hb, ?_, h2⟩
    rw [f.block g (lt_of_block hg) (.inr (Lis.Tag.notR ⟨cur, _, hg⟩ (by decide)))]
    exact hg
/-- What is read out of such a row. -/
theorem Es.cells {w : World} {B : Nat} {p : Option Addr} {m cap : Nat} {xs : List Ent} (h : Es w B (.slice p m cap) xs) {k : Nat} {x : Ent} (hk : xs[k]? = some x) : ∃ b off q c, p = some ⟨b, off, none⟩ ∧ w.rangeAt b (off + k * 5) [.string x.key, .int .i64 x.ver, .int .i64 x.asof, .int .i64 x.ends, .slice q x.val.length c] ∧ Bq w B (.slice q x.val.length c) x.val := by
  obtain ⟨p', cap', h1, h2, h3, h4⟩ := h
  cases h1
  obtain ⟨b, off, q, c, e1, e2, e3, a0, a1, a2, a3, a4, a5⟩ := h4 k x hk
  refine ⟨b, off, q, c, e1, ?_, a5⟩
  intro j v hj
  rcases j with _ | _ | _ | _ | _ | j
  · cases hj; exact a0
  · cases hj; exact a1
  · cases hj; exact a2
  · cases hj; exact a3
  · cases hj; exact a4
  · simp at hj

/-! ### Things, chains, the whole -/
def thC (x : Ent) (sv : Value) (nx : Int) : List Value := [.string x.key, .int .i64 x.ver, .int .i64 x.asof, .int .i64 x.ends, sv, .int .i64 nx]
/-- A slice of things, in a block of its own from B2 on. -/
def Th (w : World) (B B2 : Nat) (v : Value) (th : Nat) (T : Int → Ent) (X : Int → Int) : Prop := (v = .slice none 0 0 ∧ th = 0) ∨
  ∃ b cap cur, v = .slice (some ⟨b, 0, none⟩) th cap ∧ B2 ≤ b ∧ w.heap[b]? = some (.cells cur 103 (0, 0)) ∧ th ≤ cap ∧ cap ≤ maxLen ∧ cur.size = cap * 6 ∧
    ∀ i : Nat, i < th → ∃ p c, (∀ j u, (thC (T i) (.slice p (T i).val.length c) (X i))[j]? = some u → cur[i * 6 + j]? = some u) ∧ Bq w B (.slice p (T i).val.length c) (T i).val
/-- The heads of the chains. -/
def Hd (w : World) (gc n : Nat) (H : Nat → Int) : Prop := ∃ cur, w.heap[gc]? = some (.cells cur 3 (0, 0)) ∧ ∀ c, c < n → cur[c]? = some (.int .i64 (H c))
def slt (n : Nat) (k : ByteArray) : Nat := Blo.hash (Blo.bl k) % n
/-- The program's tier, all its parts named. -/
structure Tb (w : World) (B g gb gl B1 B2 gc : Nat) (v : Value) (lim : Int) (n : Nat) (s : Lst) (bl : List Int) (T : Int → Ent) (th : Nat) (X : Int → Int) (H : Nat → Int) (M : Nat) : Prop where
  obj : w.heap[g]? = some (.cells #[.pointer (some ⟨gb, 0, none⟩), .pointer (some ⟨gl, 0, none⟩), v, .slice (some ⟨gc, 0, none⟩) n n] 81 (0, 0))
  lo : B ≤ gb ∧ gb < B1 ∧ B1 ≤ B2 ∧ B2 ≤ gc ∧ B2 ≤ g
  bg : Sla.Bg w gb lim bl
  lx : Lis.Lx w B1 B2 gl 9 n s M
  hd : Hd w gc n H
  thg : Th w B B2 v th T X
  n1 : 1 ≤ n ∧ n ≤ 640
  lim1 : 1 ≤ lim ∧ lim ≤ 20000
/-- The program's tier, with these entries. -/
def Tier (w : World) (B g : Nat) (lim : Int) (L : List Ent) (M : Nat) : Prop := ∃ gb gl B1 B2 gc v n s bl T th X H C,
  Tb w B g gb gl B1 B2 gc v lim n s bl T th X H M ∧ Tn lim n (slt n) s T th C bl ∧ L = s.U.map T ∧ ∀ c, c < n → Way X (H c) (C c)
theorem slt_lt {n : Nat} (h : 1 ≤ n) (k : ByteArray) : slt n k < n := Nat.mod_lt _ (by omega)

theorem Lis.Lx.pl {w : World} {B0 B g n : Nat} {s : Lst} {M : Nat} (x : Lis.Lx w B0 B g 9 n s M) : Pl n s ∧ ∀ y ∈ s.U, Lis.atP s y = 0 := by
  obtain ⟨h, l, N, t, f, h1, h2, h3, o, v⟩ := x
  refine ⟨⟨v.len, v.sn, v.cnt, v.ok.nd, fun y hy => by have := (v.ok.all y).1 hy; rw [v.sn] at this; exact this⟩, fun y hy => ?_⟩
  obtain ⟨a, b, c, d⟩ := v.where_ hy
  have e := v.ok.where_ hy
  unfold Lis.atP
  rw [if_neg (by rw [v.sn]; omega), if_neg (by rw [e]; omega)]
/-- What lists hold stays where other blocks are written. -/
theorem Lis.Lx.off {w w' : World} {B0 B g K n : Nat} {s : Lst} {M : Nat} (x : Lis.Lx w B0 B g K n s M) (e : ∀ k, B0 ≤ k → k < B → w'.heap[k]? = w.heap[k]?) : Lis.Lx w' B0 B g K n s M := by
  obtain ⟨h, l, N, t, f, h1, h2, h3, o, v⟩ := x
  exact ⟨h, l, N, t, f, h1, h2, h3, o.same (e _ h1.1 h1.2) (e _ h2.1 h2.2) (e _ h3.1 h3.2), v⟩
theorem Th.fr {w w' : World} {B B2 : Nat} {v : Value} {th : Nat} {T : Int → Ent} {X : Int → Int} (h : Th w B B2 v th T X) (f : Fr B w w') (e : ∀ b, B2 ≤ b → Tag w b 103 → w'.heap[b]? = w.heap[b]?) : Th w' B B2 v th T X := by
  rcases h with h | ⟨b, cap, cur, h1, h2, h3, h4, h5, h6, h7⟩
  · exact .inl h
  · refine .inr ⟨b, cap, cur, h1, h2, ?_, h4, h5, h6, fun i hi => ?_⟩
    · rw [e b h2 ⟨cur, _, h3⟩]; exact h3
    · obtain ⟨p, c, a1, a2⟩ := h7 i hi
      exact ⟨p, c, a1, a2.fr f⟩

section
variable {w w' : World} {B g gb gl B1 B2 gc : Nat} {v : Value} {lim : Int} {n : Nat} {s : Lst} {bl : List Int} {T : Int → Ent} {th : Nat} {X : Int → Int} {H : Nat → Int} {M : Nat}
theorem Tb.below (h : Tb w B g gb gl B1 B2 gc v lim n s bl T th X H M) (b : Below w.heap.size w w') : Tb w' B g gb gl B1 B2 gc v lim n s bl T th X H M := by
  obtain ⟨o, lo, bg, lx, ⟨cur, hd, hc⟩, tg, n1, l1⟩ := h
  exact ⟨heap_stays o b, lo, heap_stays bg b, lx.below b, ⟨cur, heap_stays hd b, hc⟩, tg.fr (.of b) (fun k _ ht => b.block k ht.lt), n1, l1⟩
/-- Where lists alone wrote. -/
theorem Tb.listed {s' : Lst} {M' : Nat} (h : Tb w B g gb gl B1 B2 gc v lim n s bl T th X H M) (m : Lis.Mid B1 B2 w w') (lx : Lis.Lx w' B1 B2 gl 9 n s' M') : Tb w' B g gb gl B1 B2 gc v lim n s' bl T th X H M' := by
  obtain ⟨o, lo, bg, _, ⟨cur, hd, hc⟩, tg, n1, l1⟩ := h
  refine ⟨?_, lo, ?_, lx, ⟨cur, ?_, hc⟩, tg.fr (.mid m (by omega)) (fun k hk ht => m.block k ht.lt (.inr (.inl hk))), n1, l1⟩
  · rw [m.block g (lt_of_block o) (.inr (.inl lo.2.2.2.2))]; exact o
  · show w'.heap[gb]? = _
    rw [m.block gb (lt_of_block bg) (.inl lo.2.1)]; exact bg
  · rw [m.block gc (lt_of_block hd) (.inr (.inl lo.2.2.2.1))]; exact hd
/-- Where the budget alone was written. -/
theorem Tb.budget {bl' : List Int} (h : Tb w B g gb gl B1 B2 gc v lim n s bl T th X H M) (m : w.grownBy w' (some gb)) (bg' : Sla.Bg w' gb lim bl') : Tb w' B g gb gl B1 B2 gc v lim n s bl' T th X H M := by
  obtain ⟨o, lo, bg, lx, ⟨cur, hd, hc⟩, tg, n1, l1⟩ := h
  have ht : Tag w gb 112 := ⟨_, _, bg⟩
  have e : ∀ k, k < w.heap.size → k ≠ gb → w'.heap[k]? = w.heap[k]? := fun k hk hne => m.block k hk (fun e => hne (Option.some.inj e))
  refine ⟨?_, lo, bg', ?_, ⟨cur, ?_, hc⟩, tg.fr (.grown m lo.1 ht (.inr (.inl rfl))) (fun k hk hh => e k hh.lt (by omega)), n1, l1⟩
  · rw [e g (lt_of_block o) (by omega)]; exact o
  · obtain ⟨h, l, N, t, f, h1, h2, h3, ob, iv⟩ := lx
    obtain ⟨⟨c1, c2, c3⟩, _⟩ := ob.cells
    exact ⟨h, l, N, t, f, h1, h2, h3, ob.same (e _ c1 (by omega)) (e _ c2 (by omega)) (e _ c3 (by omega)), iv⟩
  · rw [e gc (lt_of_block hd) (by omega)]; exact hd
theorem Tb.cells (h : Tb w B g gb gl B1 B2 gc v lim n s bl T th X H M) : g < w.heap.size ∧ w.cell? ⟨g, 0, none⟩ = some (.pointer (some ⟨gb, 0, none⟩)) ∧ w.cell? ⟨g, 1, none⟩ = some (.pointer (some ⟨gl, 0, none⟩)) ∧ w.cell? ⟨g, 2, none⟩ = some v ∧ w.cell? ⟨g, 3, none⟩ = some (.slice (some ⟨gc, 0, none⟩) n n) ∧ ∀ o, w.frozen? ⟨g, o, none⟩ = false := by
  have o := h.obj
  exact ⟨lt_of_block o, by simp [World.cell?, o], by simp [World.cell?, o], by simp [World.cell?, o], by simp [World.cell?, o], fun k => by simp [World.frozen?, o]⟩
theorem Tb.head (h : Tb w B g gb gl B1 B2 gc v lim n s bl T th X H M) {c : Nat} (hc : c < n) : w.cell? ⟨gc, c, none⟩ = some (.int .i64 (H c)) ∧ w.frozen? ⟨gc, c, none⟩ = false := by
  obtain ⟨cur, e, f⟩ := h.hd
  exact ⟨by simp [World.cell?, e, f c hc], by simp [World.frozen?, e]⟩
theorem Tb.ok (h : Tb w B g gb gl B1 B2 gc v lim n s bl T th X H M) {C : Nat → List Int} (t : Tn lim n (slt n) s T th C bl) : Sla.BudOk lim bl := ⟨h.lim1.1, by have := h.lim1.2; omega, t.cls, t.low⟩
end
end Go.Proofs.YtkgecpplgjfhiaaGreatDoor

namespace Go.Proofs.YtkgecpplgjfhiaaGreatDoor
open Go.RowKit
open Ite (Ent zeroE checkE sizeE)
open Lis (Lst but Tag)
variable {w : World} {B g gb gl B1 B2 gc : Nat} {v : Value} {lim : Int} {n : Nat} {s : Lst} {bl : List Int} {T : Int → Ent} {th : Nat} {X : Int → Int} {H : Nat → Int} {M : Nat}

theorem drew_below_m (w : World) (n B : Nat) : Below B w (w.drewN n) := ⟨rfl, rfl, rfl, Nat.le_refl _, fun _ _ => rfl⟩
theorem chain_tb (h : Tb w B g gb gl B1 B2 gc v lim n s bl T th X H M) (k : ByteArray) (hk : k.size ≤ 1000) :
    Calls Tryz.prog 82 #[.pointer (some ⟨g, 0, none⟩), .string k] w fun e w' => e = .returned (.pointer (some ⟨gc, slt n k, none⟩)) ∧ ∃ m, w' = w.drewN m := by
  obtain ⟨c0, c1, c2, c3, c4, cf⟩ := h.cells
  obtain ⟨hn1, hn2⟩ := h.n1
  have hlt := slt_lt hn1 k
  have KH := hid2 (fun W => Blo.hash_any W k hk)
  have KS := hid2 (fun W => Blo.slot_any W (Blo.hash (Blo.bl k)) (n : Int) (by rw [Blo.hash_run]; exact Blo.mix_lt _) (by omega) (by omega))
  have hs : Blo.slotN (Blo.hash (Blo.bl k)) (n : Int) = ((slt n k : Nat) : Int) := by
    unfold Blo.slotN slt
    rw [if_neg (by omega)]
    exact (Int.natCast_emod _ _).symm
  rw [hs] at KS
  clear hs h c1 c2 c3 cf
  generalize slt n k = sl at *
  generalize Blo.hash (Blo.bl k) = hh at *
  go_enter Tryz.func82, Tryz.ntmps82
  go_wp2_with fail
  have hI : (0 : Int) ≤ (sl : Int) ∧ (sl : Int) < (n : Int) := by omega
  have ht : ((sl : Int)).toNat = sl := by omega
  go_quiet (first | (go_at_call 96; exact Calls.quiet_of_same (KH.out _)) | (go_at_call 95; exact Calls.quiet_of_same (KS.out _)))
  go_wp2
  go_ret
  exact ⟨rfl, _, rfl⟩

/-- What is read of a thing. -/
theorem Th.look {v : Value} (h : Th w B B2 v th T X) {i : Nat} (hi : i < th) : ∃ b cap p c, v = .slice (some ⟨b, 0, none⟩) th cap ∧ th ≤ cap ∧ b < w.heap.size ∧ Tag w b 103 ∧ B2 ≤ b ∧ (∀ o, w.frozen? ⟨b, o, none⟩ = false) ∧ w.rangeAt b (i * 6) (thC (T i) (.slice p (T i).val.length c) (X i)) ∧ Bq w B (.slice p (T i).val.length c) (T i).val := by
  rcases h with ⟨_, h⟩ | ⟨b, cap, cur, h1, h2, h3, h4, h5, h6, h7⟩
  · omega
  · obtain ⟨p, c, a1, a2⟩ := h7 i hi
    exact ⟨b, cap, p, c, h1, h4, lt_of_block h3, ⟨cur, _, h3⟩, h2, fun o => by simp [World.frozen?, h3], fun j u hu => by simp [World.cell?, h3, a1 j u hu], a2⟩
theorem Th.len {v : Value} (h : Th w B B2 v th T X) : ∃ p cap, v = .slice p th cap ∧ th ≤ cap ∧ cap ≤ maxLen := by
  rcases h with ⟨rfl, rfl⟩ | ⟨b, cap, cur, h1, h2, h3, h4, h5, h6, h7⟩
  · exact ⟨none, 0, rfl, Nat.le_refl _, by unfold maxLen; omega⟩
  · exact ⟨_, cap, h1, h4, h5⟩
theorem thing_cells {w : World} {b o : Nat} {x : Ent} {sv : Value} {nx : Int} (h : w.rangeAt b o (thC x sv nx)) : w.cell? ⟨b, o, none⟩ = some (.string x.key) ∧ w.cell? ⟨b, o + 5, none⟩ = some (.int .i64 nx) ∧ w.rangeAt b o [.string x.key, .int .i64 x.ver, .int .i64 x.asof, .int .i64 x.ends, sv] :=
  ⟨h 0 _ rfl, h 5 _ rfl, fun j u hu => h j u (by
    rcases j with _ | _ | _ | _ | _ | j
    · exact hu
    · exact hu
    · exact hu
    · exact hu
    · exact hu
    · simp at hu)⟩

theorem key_inj {a b : ByteArray} (h : a.toList = b.toList) : a = b := by
  rw [ByteArray.toList_eq, ByteArray.toList_eq] at h
  exact ByteArray.ext (Array.toList_inj.mp h)
theorem find_tb (h : Tb w B g gb gl B1 B2 gc v lim n s bl T th X H M) {C : Nat → List Int} (t : Tn lim n (slt n) s T th C bl) (hw : ∀ c, c < n → Way X (H c) (C c)) (k : ByteArray) (hk : k.size ≤ 1000) :
    Calls Tryz.prog 58 #[.pointer (some ⟨g, 0, none⟩), .string k] w fun e w' => e = .returned (.int .i64 (nodeP T k (C (slt n k)))) ∧ Below w.heap.size w w' := by
  obtain ⟨c0, c1, c2, c3, c4, cf⟩ := h.cells
  have hsl := slt_lt h.n1.1 k
  have KC := hid2 (chain_tb h k hk)
  have W0 := hw _ hsl
  have hU : ∀ x ∈ C (slt n k), 0 ≤ x ∧ x < th := fun x hx => t.used x ((t.ch _ _).1 hx).1
  have HD := (h.head hsl).1
  have hth : th ≤ 640 := Nat.le_trans t.thn h.n1.2
  have HT := hid2 h
  generalize hR : nodeP T k (C (slt n k)) = R
  generalize C (slt n k) = l at *
  generalize slt n k = sl at *
  generalize H sl = hd at *
  clear h t hw c1 c2 c4 cf
  go_enter Tryz.func58, Tryz.ntmps58
  go_wp2_with fail
  refine (show Calls _ _ _ _ _ from KC.out).mono ?_
  rintro e w1 ⟨rfl, m, hw1⟩
  have B1' : Below w.heap.size w w1 := by rw [hw1]; exact drew_below_m _ _ _
  have HT1 := hid2 (HT.out.below B1')
  have HD1 := (B1'.cell (p := ⟨gc, sl, none⟩) (World.block_lt_of_cell? w _ HD)).trans HD
  have c31 := (B1'.cell (p := ⟨g, 2, none⟩) c0).trans c3
  have HB := hid2 B1'
  clear hw1 B1' HD c3 KC HT
  have c01 : g < w1.heap.size := Nat.lt_of_lt_of_le c0 HB.out.size
  clear c0
  go_wp2_with fail
  go_loopg [5] l.length (fun gi q wr => ∃ (r : List Int) (x : Int), gi = r.length ∧ q = .int .i64 x ∧ wr = w1 ∧ Way X x r ∧ nodeP T k r = R ∧ ∀ y ∈ r, 0 ≤ y ∧ y < th)
  case atStart => exact ⟨l, hd, rfl, rfl, rfl, W0, hR, hU⟩
  case round =>
    obtain ⟨r, x, hgi, rfl, rfl, hwy, hnp, hr⟩ := hrel
    have HGI := hid2 hgi
    clear hgi
    cases r with
    | nil =>
      have hx : x = -1 := hwy
      have hRR : R = -1 := hnp.symm
      subst hx
      subst hRR
      clear hU hR W0 HT1
      go_wp2
      go_ret
      exact ⟨rfl, HB.out⟩
    | cons y r =>
      obtain ⟨rfl, hx0, hwr⟩ := hwy
      obtain ⟨j, rfl⟩ := Int.eq_ofNat_of_zero_le hx0
      have hjt : j < th := by have := (hr _ (List.mem_cons_self ..)).2; omega
      obtain ⟨b, cap, pp, cc, hv, hcap, hblt, _, _, _, hrange, _⟩ := HT1.out.thg.look hjt
      obtain ⟨k0, k5, _⟩ := thing_cells hrange
      have hn1 : ¬ ((j : Int) = -1) := by omega
      have hI : (0 : Int) ≤ (j : Int) ∧ (j : Int) < (th : Int) := by omega
      have htn : ((j : Int)).toNat = j := by omega
      clear hrange HT1
      subst hv
      unfold nodeP at hnp
      by_cases hkey : (T (j : Int)).key = k
      · rw [if_pos hkey] at hnp
        subst hnp
        rw [hkey] at k0
        clear hr hwr hU hR W0 k5
        go_wp2
        go_ret
        exact ⟨rfl, HB.out⟩
      · rw [if_neg hkey] at hnp
        have hr' : ∀ y ∈ r, 0 ≤ y ∧ y < th := fun y hy => hr y (List.mem_cons_of_mem _ hy)
        have HWR := hid2 hwr
        have HRR := hid2 hr'
        have HNP := hid2 hnp
        clear hr hwr hU hR W0 hr' hnp
        generalize X (j : Int) = nx at *
        have d1 : ((j : Int) != -1) = true := by simp
        have d3 : ((T (j : Int)).key.toList == k.toList) = false := by
          rw [beq_eq_false_iff_ne]
          exact fun e => hkey (key_inj e)
        go_wp2
        go_roundg r.length
        case rel => exact ⟨r, nx, rfl, rfl, rfl, HWR.out, HNP.out, HRR.out⟩
        case measure => have := HGI.out; simp at this; omega
end Go.Proofs.YtkgecpplgjfhiaaGreatDoor
