/-
  Memory at this seat: bytes, pages and changes as values, rows that nothing writes into, and what stays of them.
-/
import Derived.Test.YtfogocappakbdaaDoorPlain
import Derived.Test.YtfogocappakbdaaDoorLast
import Derived.Deep.MidRow
import Derived.Deep.QuietTactic
import Derived.Deep.RegionHeld3
import Derived.Deep.AppendLies
import Derived.Deep.DeepCutAuto
import Derived.BigQuiet
import Derived.Laws.AppendOwnNone
import Derived.Laws.CopyOwn
import Derived.Maps.OwnSet
namespace Go.Proofs.YtfogocappakbdaaDoor
open Go.RowKit

/-- Bytes as values. -/
def U (l : List Nat) : List Value := l.map fun (x : Nat) => Value.int .u8 (x : Int)
theorem U_length (l : List Nat) : (U l).length = l.length := by simp [U]
theorem U_append (a b : List Nat) : U (a ++ b) = U a ++ U b := by simp [U]
theorem U_take (l : List Nat) (k : Nat) : (U l).take k = U (l.take k) := by simp [U]
theorem U_drop (l : List Nat) (k : Nat) : (U l).drop k = U (l.drop k) := by simp [U]
theorem U_at {l : List Nat} {k : Nat} {x : Nat} (h : l[k]? = some x) : (U l)[k]? = some (.int .u8 (x : Int)) := by simp [U, h]
theorem U_one (l : List Nat) : ∀ u ∈ U l, u.oneCell' = true := by
  intro u hu
  obtain ⟨x, _, rfl⟩ := List.mem_map.1 hu
  rfl

/-- A page as a value's cells. -/
def pgV (p : List Nat) : Array Value := (U p).toArray
theorem pgV_size (p : List Nat) : (pgV p).size = p.length := by simp [pgV, U_length]
theorem pgV_toList (p : List Nat) : (pgV p).toList = U p := by simp [pgV]
/-- A change of the program as a value's cells. -/
def chgL (c : Chg) : List Value := .int .i64 c.at_ :: .bool c.trim :: U c.p
def chgV (c : Chg) : Array Value := (chgL c).toArray
theorem chgL_length (c : Chg) : (chgL c).length = c.p.length + 2 := by simp [chgL, U_length]
theorem chgV_size (c : Chg) : (chgV c).size = c.p.length + 2 := by simp [chgV, chgL_length]
theorem chgV_0 (c : Chg) : (chgV c)[0]? = some (.int .i64 c.at_) := by simp [chgV, chgL]
theorem chgV_1 (c : Chg) : (chgV c)[1]? = some (.bool c.trim) := by simp [chgV, chgL]
theorem chgL_one (c : Chg) : ∀ u ∈ chgL c, u.oneCell' = true := by
  intro u hu
  simp only [chgL, List.mem_cons] at hu
  rcases hu with rfl | rfl | hu
  · rfl
  · rfl
  · exact U_one _ u hu
def chgsL (cs : List Chg) : List Value := cs.flatMap chgL
theorem chgsL_length {cs : List Chg} (h : ∀ c ∈ cs, c.p.length = 256) : (chgsL cs).length = cs.length * 258 := by
  induction cs with
  | nil => rfl
  | cons c r ih =>
    have := ih (fun x hx => h x (by simp [hx]))
    have h2 := h c (by simp)
    simp only [chgsL, List.flatMap_cons, List.length_append, chgL_length, List.length_cons] at this ⊢
    omega
theorem chgsL_append (a b : List Chg) : chgsL (a ++ b) = chgsL a ++ chgsL b := by simp [chgsL]
theorem chgsL_at {cs : List Chg} (h : ∀ c ∈ cs, c.p.length = 256) {i : Nat} {c : Chg} (hi : cs[i]? = some c) {j : Nat} {u : Value} (hj : (chgL c)[j]? = some u) : (chgsL cs)[i * 258 + j]? = some u := by
  induction cs generalizing i with
  | nil => simp at hi
  | cons x r ih =>
    have hx := h x (by simp)
    have hjl : j < 258 := by
      have := (List.getElem?_eq_some_iff.1 hj).1
      rw [chgL_length] at this
      have h3 : c.p.length = 256 := h c (List.mem_of_getElem? hi)
      omega
    simp only [chgsL, List.flatMap_cons]
    cases i with
    | zero =>
      simp at hi
      subst hi
      rw [List.getElem?_append_left (by rw [chgL_length]; omega)]
      simpa using hj
    | succ i =>
      rw [List.getElem?_append_right (by rw [chgL_length]; omega), chgL_length, hx]
      have := ih (fun y hy => h y (by simp [hy])) (by simpa using hi)
      rw [show (i + 1) * 258 + j - (256 + 2) = i * 258 + j by omega]
      exact this

theorem Tryd.info5m : (Tryd.prog.info? 5).map (fun i => (i.zero, i.size, i.bytes)) = some (some (.int .u8 0), 1, 1) := by kernel_rfl
theorem Tryd.info89m : (Tryd.prog.info? 89).map (fun i => (i.zero, i.size, i.bytes)) = some (some (.agg #[.int .i64 0, .slice none 0 0]), 2, 32) := by kernel_rfl
theorem Tryd.info98m : (Tryd.prog.info? 98).map (fun i => (i.zero, i.size, i.bytes)) = some (some (.agg #[.int .i64 0, .slice none 0 0, .bool false]), 3, 40) := by kernel_rfl
theorem Tryd.info79m : (Tryd.prog.info? 79).map (fun i => (i.zero, i.size, i.bytes)) = some (some (.agg (pgV zeros)), 256, 256) := by kernel_rfl
theorem Tryd.info81m : (Tryd.prog.info? 81).map (fun i => (i.zero, i.size, i.bytes)) = some (some (.agg (chgV ⟨0, false, zeros⟩)), 258, 272) := by kernel_rfl
theorem info_of {P : Program} {t : TypeId} {z : Value} {s b : Nat} (h : (P.info? t).map (fun i => (i.zero, i.size, i.bytes)) = some (some z, s, b)) : ∃ i, P.info? t = some i ∧ i.zero = some z ∧ i.size = s ∧ i.bytes = b := by
  obtain ⟨i, h1, h2⟩ := Option.map_eq_some_iff.1 h
  simp only [Prod.mk.injEq] at h2
  exact ⟨i, h1, h2.1, h2.2.1, h2.2.2⟩
theorem size_of {P : Program} {t : TypeId} {z : Value} {s b : Nat} (h : (P.info? t).map (fun i => (i.zero, i.size, i.bytes)) = some (some z, s, b)) : (P.info? t).map (·.size) = some s := by
  obtain ⟨i, h1, h2, h3, h4⟩ := info_of h
  simp [h1, h3]
theorem zero_run {P : Program} {t : TypeId} {z : Value} {s b : Nat} (h : (P.info? t).map (fun i => (i.zero, i.size, i.bytes)) = some (some z, s, b)) (w : World) : (zeroValue t).run P w = .ok z w := by
  obtain ⟨i, h1, h2, h3, h4⟩ := info_of h
  simp [zeroValue, typeInfo, h1, h2]
theorem Tryd.size79 : (Tryd.prog.info? 79).map (·.size) = some 256 := size_of Tryd.info79m
theorem Tryd.size81 : (Tryd.prog.info? 81).map (·.size) = some 258 := size_of Tryd.info81m
theorem Tryd.zero79 (w : World) : (zeroValue 79).run Tryd.prog w = .ok (.agg (pgV zeros)) w := zero_run Tryd.info79m w
theorem Tryd.zero81 (w : World) : (zeroValue 81).run Tryd.prog w = .ok (.agg (chgV ⟨0, false, zeros⟩)) w := zero_run Tryd.info81m w

/-- Block b is such a row, and of no type whose blocks are written into. -/
def Stat (w : World) (b : Nat) (cs : Array Value) : Prop := ∃ e fr, w.heap[b]? = some (.cells cs e fr) ∧ e ≠ 65 ∧ e ≠ 81
theorem Stat.cell {w : World} {b : Nat} {cs : Array Value} (h : Stat w b cs) {j : Nat} {u : Value} (hj : cs[j]? = some u) : w.cell? ⟨b, j, none⟩ = some u := by
  obtain ⟨e, fr, h1, _⟩ := h
  simp [World.cell?, h1, hj]
theorem Stat.lt {w : World} {b : Nat} {cs : Array Value} (h : Stat w b cs) : b < w.heap.size := by
  obtain ⟨e, fr, h1, _⟩ := h
  exact (Array.getElem?_eq_some_iff.1 h1).1

/-- What stays: what lies below B, and all rows that are not written into. -/
structure Fr (B : Nat) (w w' : World) : Prop where
  os : w'.os = w.os
  tape : w'.tape = w.tape
  output : w'.output = w.output
  size : w.heap.size ≤ w'.heap.size
  low : ∀ k, k < w.heap.size → k < B → w'.heap[k]? = w.heap[k]?
  stat : ∀ k cs, Stat w k cs → w'.heap[k]? = w.heap[k]?

theorem Fr.refl (B : Nat) (w : World) : Fr B w w := ⟨rfl, rfl, rfl, Nat.le_refl _, fun _ _ _ => rfl, fun _ _ _ => rfl⟩
theorem Stat.fr {B : Nat} {w w' : World} {b : Nat} {cs : Array Value} (h : Stat w b cs) (hf : Fr B w w') : Stat w' b cs := by
  have := hf.stat b cs h
  obtain ⟨e, fr, h1, h2⟩ := h
  exact ⟨e, fr, by rw [this]; exact h1, h2⟩
theorem Fr.trans {B : Nat} {w w1 w2 : World} (h : Fr B w w1) (k : Fr B w1 w2) : Fr B w w2 :=
  ⟨k.os.trans h.os, k.tape.trans h.tape, k.output.trans h.output, Nat.le_trans h.size k.size,
    fun i hi hb => (k.low i (Nat.lt_of_lt_of_le hi h.size) hb).trans (h.low i hi hb), fun i cs hs => (k.stat i cs (hs.fr h)).trans (h.stat i cs hs)⟩
theorem Below.fr {B : Nat} {w w' : World} (h : Below w.heap.size w w') : Fr B w w' :=
  ⟨h.os, h.tape, h.output, h.size, fun k hk _ => h.block k hk, fun k _ hs => h.block k hs.lt⟩
theorem Fr.below {B : Nat} {w w' : World} (h : Fr B w w') (hB : B ≤ w.heap.size) : Below B w w' :=
  ⟨h.os, h.tape, h.output, h.size, fun k hk => h.low k (Nat.lt_of_lt_of_le hk hB) hk⟩
theorem Stat.below {w w' : World} {b : Nat} {cs : Array Value} (h : Stat w b cs) (hf : Below w.heap.size w w') : Stat w' b cs := h.fr (Below.fr (B := 0) hf)
/-- A block of the program's own was written. -/
theorem grown_fr {B g : Nat} {w w' : World} (h : w.grownBy w' (some g)) (hB : B ≤ g) (hg : ∀ cs, ¬ Stat w g cs) : Fr B w w' :=
  ⟨h.os, h.tape, h.output, h.size, fun k hk hb => h.block k hk (by intro e; cases e; omega), fun k cs hs => h.block k hs.lt (by intro e; cases e; exact hg cs hs)⟩

/-- Such a row that is no device of the document either. -/
def RSt (w : World) (size b : Nat) (cs : Array Value) : Prop := ∃ e fr, w.heap[b]? = some (.cells cs e fr) ∧ e ≠ 65 ∧ e ≠ 81 ∧ e ≠ 33 ∧ (size = 1 → e ≠ 89 ∧ e ≠ 98)
theorem RSt.stat {w : World} {size b : Nat} {cs : Array Value} (h : RSt w size b cs) : Stat w b cs := by
  obtain ⟨e, fr, h1, h2, h3, _⟩ := h
  exact ⟨e, fr, h1, h2, h3⟩
theorem RSt.fr {B : Nat} {w w' : World} {size b : Nat} {cs : Array Value} (h : RSt w size b cs) (hf : Fr B w w') : RSt w' size b cs := by
  have := hf.stat b cs h.stat
  obtain ⟨e, fr, h1, h2⟩ := h
  exact ⟨e, fr, by rw [this]; exact h1, h2⟩
/-- A value is, in w's memory, a slice of n things of so many cells, in a row that nothing writes into. -/
def RowAt (w : World) (size : Nat) (v : Value) (n : Nat) (xs : List Value) : Prop :=
  ∃ p cap, v = .slice p n cap ∧ n ≤ cap ∧ cap ≤ maxLen ∧ xs.length = n * size ∧ (n = 0 ∨ ∃ b off cs, p = some ⟨b, off, none⟩ ∧ RSt w size b cs ∧ ∀ k u, xs[k]? = some u → cs[off + k]? = some u)
theorem RowAt.fr {B : Nat} {w w' : World} {size : Nat} {v : Value} {n : Nat} {xs : List Value} (h : RowAt w size v n xs) (hf : Fr B w w') : RowAt w' size v n xs := by
  obtain ⟨p, cap, h1, h2, h3, h4, h5⟩ := h
  refine ⟨p, cap, h1, h2, h3, h4, h5.imp id ?_⟩
  rintro ⟨b, off, cs, h6, h7, h8⟩
  exact ⟨b, off, cs, h6, h7.fr hf, h8⟩
theorem RowAt.below {w w' : World} {size : Nat} {v : Value} {n : Nat} {xs : List Value} (h : RowAt w size v n xs) (hf : Below w.heap.size w w') : RowAt w' size v n xs := h.fr (Below.fr (B := 0) hf)
/-- A device of the document is written. -/
theorem RowAt.box {w w' : World} {size : Nat} {v : Value} {n b : Nat} {xs : List Value} {c : Array Value} {fr : Nat × Nat} (h : RowAt w size v n xs) (hb : w.heap[b]? = some (.cells c 33 fr)) (hg : w.grownBy w' (some b)) : RowAt w' size v n xs := by
  obtain ⟨p, cap, h1, h2, h3, h4, h5⟩ := h
  refine ⟨p, cap, h1, h2, h3, h4, h5.imp id ?_⟩
  rintro ⟨b', off, cs, h6, ⟨e, fr', k1, k2, k3, k4⟩, h8⟩
  refine ⟨b', off, cs, h6, ⟨e, fr', ?_, k2, k3, k4⟩, h8⟩
  rw [hg.block b' (Array.getElem?_eq_some_iff.1 k1).1 (by intro e'; cases e'; rw [hb] at k1; cases k1; exact k4.1 rfl)]
  exact k1
/-- A row of pages or of changes is written. -/
theorem RowAt.other {w w' : World} {v o : Value} {n k s B : Nat} {xs ys : List Value} {e : TypeId} (h : RowAt w 1 v n xs) (ho : w.ownsRow B e s o k ys) (he : e = 89 ∨ e = 98) (hg : w.grownBy w' o.ownBlock) : RowAt w' 1 v n xs := by
  obtain ⟨p, cap, h1, h2, h3, h4, h5⟩ := h
  refine ⟨p, cap, h1, h2, h3, h4, h5.imp id ?_⟩
  rintro ⟨b', off, cs, h6, ⟨e', fr', k1, k2, k3, k4, k5⟩, h8⟩
  refine ⟨b', off, cs, h6, ⟨e', fr', ?_, k2, k3, k4, k5⟩, h8⟩
  rw [hg.block b' (Array.getElem?_eq_some_iff.1 k1).1 ?_]
  · exact k1
  · intro e2
    rcases ho.2 with ⟨rfl, _⟩ | ⟨g', cap', cur, rfl, _, hh, _⟩
    · cases e2
    · cases e2
      rw [hh] at k1
      cases k1
      have := k5 rfl
      rcases he with rfl | rfl
      · exact this.1 rfl
      · exact this.2 rfl
theorem RowAt.form {w : World} {size : Nat} {v : Value} {n : Nat} {xs : List Value} (h : RowAt w size v n xs) : ∃ p cap, v = .slice p n cap ∧ n ≤ cap ∧ cap ≤ maxLen := by
  obtain ⟨p, cap, h1, h2, h3, _⟩ := h
  exact ⟨p, cap, h1, h2, h3⟩
/-- Element by element. -/
theorem RowAt.each {w : World} {size : Nat} {v : Value} {n : Nat} {xs : List Value} (h : RowAt w size v n xs) : ∃ p cap, v = .slice p n cap ∧ n ≤ cap ∧ cap ≤ maxLen ∧ xs.length = n * size ∧
    ∀ k u, xs[k]? = some u → ∃ b off, p = some ⟨b, off, none⟩ ∧ b < w.heap.size ∧ w.cell? ⟨b, off + k, none⟩ = some u := by
  obtain ⟨p, cap, h1, h2, h3, h4, h5⟩ := h
  refine ⟨p, cap, h1, h2, h3, h4, fun k u hk => ?_⟩
  rcases h5 with rfl | ⟨b, off, cs, h6, h7, h8⟩
  · have := (List.getElem?_eq_some_iff.1 hk).1
    simp at h4
    subst h4
    simp at this
  · exact ⟨b, off, h6, h7.stat.lt, h7.stat.cell (h8 k u hk)⟩
/-- With an element. -/
theorem RowAt.elem {w : World} {size : Nat} {v : Value} {n : Nat} {xs : List Value} (h : RowAt w size v n xs) (hn : 0 < n) : ∃ b off cap, v = .slice (some ⟨b, off, none⟩) n cap ∧ n ≤ cap ∧ cap ≤ maxLen ∧ xs.length = n * size ∧ b < w.heap.size ∧
    ∀ k u, xs[k]? = some u → w.cell? ⟨b, off + k, none⟩ = some u := by
  obtain ⟨p, cap, h1, h2, h3, h4, h5⟩ := h
  rcases h5 with rfl | ⟨b, off, cs, h6, h7, h8⟩
  · omega
  · exact ⟨b, off, cap, by rw [h1, h6], h2, h3, h4, h7.stat.lt, fun k u hk => h7.stat.cell (h8 k u hk)⟩
theorem own_row {w : World} {B : Nat} {e : TypeId} {size : Nat} {v : Value} {n : Nat} {xs : List Value} (h : w.ownsRow B e size v n xs) (h1 : e ≠ 65) (h2 : e ≠ 81) (h7 : e ≠ 33 ∧ (size = 1 → e ≠ 89 ∧ e ≠ 98) := by decide) : RowAt w size v n xs := by
  have hl := h.1
  rcases h.2 with ⟨rfl, rfl⟩ | ⟨g, cap, cur, rfl, hb, hg, h3, h4, h5, h6⟩
  · exact ⟨none, 0, rfl, Nat.le_refl _, Nat.zero_le _, hl, .inl rfl⟩
  · refine ⟨_, cap, rfl, h3, h4, hl, .inr ⟨g, 0, cur, rfl, ⟨e, _, hg, h1, h2, h7⟩, fun k u hk => ?_⟩⟩
    rw [← h6, List.getElem?_take] at hk
    split at hk
    · simpa using hk
    · cases hk

/-- Bytes. -/
abbrev BAt (w : World) (v : Value) (bs : List Nat) : Prop := RowAt w 1 v bs.length (U bs)
theorem BAt.nil (w : World) : BAt w (.slice none 0 0) [] := ⟨none, 0, rfl, Nat.le_refl _, Nat.zero_le _, rfl, .inl rfl⟩

/-- Pages of the document, each with the value of its bytes. -/
abbrev Cl := Int × Value × List Nat
def clL (l : List Cl) : List Value := l.flatMap fun x => [.int .i64 x.1, x.2.1]
theorem clL_length (l : List Cl) : (clL l).length = l.length * 2 := by
  induction l with
  | nil => rfl
  | cons x r ih => simp only [clL, List.flatMap_cons, List.length_append, List.length_cons, List.length_nil] at ih ⊢; omega
theorem clL_append (a b : List Cl) : clL (a ++ b) = clL a ++ clL b := by simp [clL]
theorem clL_at {l : List Cl} {i : Nat} {x : Cl} (h : l[i]? = some x) : (clL l)[i * 2]? = some (.int .i64 x.1) ∧ (clL l)[i * 2 + 1]? = some x.2.1 := by
  induction l generalizing i with
  | nil => simp at h
  | cons y r ih =>
    cases i with
    | zero => simp at h; subst h; simp [clL]
    | succ i =>
      have := ih (i := i) (by simpa using h)
      simp only [clL, List.flatMap_cons] at this ⊢
      rw [List.getElem?_append_right (by simp; omega), List.getElem?_append_right (by simp; omega)]
      simp only [List.length_cons, List.length_nil, Nat.zero_add]
      rw [show (i + 1) * 2 - (1 + 1) = i * 2 by omega, show (i + 1) * 2 + 1 - (1 + 1) = i * 2 + 1 by omega]
      exact this
def plainC (l : List Cl) : List (Int × List Nat) := l.map fun x => (x.1, x.2.2)
def CellsAt (w : World) (v : Value) (l : List Cl) : Prop := RowAt w 2 v l.length (clL l) ∧ ∀ x ∈ l, BAt w x.2.1 x.2.2
theorem CellsAt.fr {B : Nat} {w w' : World} {v : Value} {l : List Cl} (h : CellsAt w v l) (hf : Fr B w w') : CellsAt w' v l := ⟨h.1.fr hf, fun x hx => (h.2 x hx).fr hf⟩
theorem CellsAt.below {w w' : World} {v : Value} {l : List Cl} (h : CellsAt w v l) (hf : Below w.heap.size w w') : CellsAt w' v l := h.fr (Below.fr (B := 0) hf)

theorem CellsAt.box {w w' : World} {v : Value} {b : Nat} {l : List Cl} {c : Array Value} {fr : Nat × Nat} (h : CellsAt w v l) (hb : w.heap[b]? = some (.cells c 33 fr)) (hg : w.grownBy w' (some b)) : CellsAt w' v l := ⟨h.1.box hb hg, fun x hx => (h.2 x hx).box hb hg⟩
/-- Changes of the document, each with the value of its bytes. -/
abbrev Lo := Chg × Value
def loL (l : List Lo) : List Value := l.flatMap fun x => [.int .i64 x.1.at_, x.2, .bool x.1.trim]
theorem loL_length (l : List Lo) : (loL l).length = l.length * 3 := by
  induction l with
  | nil => rfl
  | cons x r ih => simp only [loL, List.flatMap_cons, List.length_append, List.length_cons, List.length_nil] at ih ⊢; omega
theorem loL_append (a b : List Lo) : loL (a ++ b) = loL a ++ loL b := by simp [loL]
theorem loL_at {l : List Lo} {i : Nat} {x : Lo} (h : l[i]? = some x) : (loL l)[i * 3]? = some (.int .i64 x.1.at_) ∧ (loL l)[i * 3 + 1]? = some x.2 ∧ (loL l)[i * 3 + 2]? = some (.bool x.1.trim) := by
  induction l generalizing i with
  | nil => simp at h
  | cons y r ih =>
    cases i with
    | zero => simp at h; subst h; simp [loL]
    | succ i =>
      have := ih (i := i) (by simpa using h)
      simp only [loL, List.flatMap_cons] at this ⊢
      rw [List.getElem?_append_right (by simp; omega), List.getElem?_append_right (by simp; omega), List.getElem?_append_right (by simp; omega)]
      simp only [List.length_cons, List.length_nil, Nat.zero_add]
      rw [show (i + 1) * 3 - (1 + 1 + 1) = i * 3 by omega, show (i + 1) * 3 + 1 - (1 + 1 + 1) = i * 3 + 1 by omega, show (i + 1) * 3 + 2 - (1 + 1 + 1) = i * 3 + 2 by omega]
      exact this
def plainL (l : List Lo) : List Chg := l.map (·.1)
def LooseAt (w : World) (v : Value) (l : List Lo) : Prop := RowAt w 3 v l.length (loL l) ∧ ∀ x ∈ l, BAt w x.2 x.1.p
theorem LooseAt.fr {B : Nat} {w w' : World} {v : Value} {l : List Lo} (h : LooseAt w v l) (hf : Fr B w w') : LooseAt w' v l := ⟨h.1.fr hf, fun x hx => (h.2 x hx).fr hf⟩
theorem LooseAt.below {w w' : World} {v : Value} {l : List Lo} (h : LooseAt w v l) (hf : Below w.heap.size w w') : LooseAt w' v l := h.fr (Below.fr (B := 0) hf)

theorem LooseAt.box {w w' : World} {v : Value} {b : Nat} {l : List Lo} {c : Array Value} {fr : Nat × Nat} (h : LooseAt w v l) (hb : w.heap[b]? = some (.cells c 33 fr)) (hg : w.grownBy w' (some b)) : LooseAt w' v l := ⟨h.1.box hb hg, fun x hx => (h.2 x hx).box hb hg⟩
/-- How an element of the map reads: as itself. -/
def Rv (v : Value) : Option (DataW Value × List MemPlace) := some (.held v, [])
/-- Block m is a map of these pages, of which those that are blank do not stand there. -/
def MapAt (w : World) (m n : Nat) (pg : Pg) : Prop :=
  ∃ D : DataW Value, w.ownsMap Tryd.prog 3 Rv m n D ∧ ∀ k : Int, D.atKey (.int .i64 k) (.held (.agg (pgV zeros))) = .held (.agg (pgV (pg k))) ∧ Maps.has D (.int .i64 k) = !(decide (pg k = zeros))
theorem MapAt.grown {w w' : World} {m n : Nat} {pg : Pg} {row : Option Nat} (h : MapAt w m n pg) (hg : w.grownBy w' row) (hne : some m ≠ row) : MapAt w' m n pg := by
  obtain ⟨D, h1, h2⟩ := h
  exact ⟨D, h1.kept hg hne, h2⟩
theorem MapAt.lt {w : World} {m n : Nat} {pg : Pg} (h : MapAt w m n pg) : m < w.heap.size := by obtain ⟨D, h1, _⟩ := h; exact h1.lt
theorem below_grown {w w1 : World} (h : Below w.heap.size w w1) (row : Option Nat) : w.grownBy w1 row := ⟨h.os, h.tape, h.output, h.size, fun k hk _ => h.block k hk⟩
theorem MapAt.below {w w' : World} {m n : Nat} {pg : Pg} (h : MapAt w m n pg) (hb : Below w.heap.size w w') : MapAt w' m n pg := h.grown (below_grown hb none) (by simp)
theorem MapAt.notStat {w : World} {m n : Nat} {pg : Pg} (h : MapAt w m n pg) : ∀ cs, ¬ Stat w m cs := by
  obtain ⟨D, ⟨es, clock, h1, _⟩, _⟩ := h
  rintro cs ⟨e, fr, h2, _⟩
  rw [h1] at h2
  cases h2

/-- Block g is a device of the program, all whose memory lies from B on; N: so many changes there were at most. -/
def Fl (w : World) (B g N : Nat) (d : Dev) : Prop :=
  DevOk d ∧ (0 ≤ d.done ∧ d.done ≤ N ∧ -9223372036854775808 ≤ d.fuse ∧ d.fuse ≤ 9223372036854775807) ∧
  ∃ m wv n, w.heap[g]? = some (.cells #[.int .i64 d.pages, .map (some m), wv, .int .i64 d.fuse, .bool d.down, .int .i64 d.done] 65 (0, 0)) ∧ MapAt w m n d.pg ∧
    w.ownsRow B 81 258 wv d.waits.length (chgsL d.waits) ∧ B ≤ g ∧ B ≤ m ∧ n + d.waits.length ≤ N
end Go.Proofs.YtfogocappakbdaaDoor
