/-
  Memory at this seat: bytes, pages and changes as values, rows that nothing writes into, and what stays of them.
-/
import Derived.Test.YtkbfihnoohhojaaDoorQFlt
import Derived.Deep.MidRow
import Derived.Deep.QuietTactic
import Derived.Deep.RegionHeld3
import Derived.Deep.AppendLies
import Derived.Deep.DeepCutAuto
import Derived.BigQuiet
import Derived.Laws.AppendOwnNone
import Derived.Laws.CopyOwn
import Derived.Maps.OwnSet
namespace Go.Proofs.YtkbfihnoohhojaaDoor.Fla

/-- A blank page. -/
def zeros : List Nat := List.replicate 256 0
theorem zeros_length : zeros.length = 256 := by unfold zeros; rw [List.length_replicate]

/-- A change that waits. -/
structure Chg where
  at_ : Int
  trim : Bool
  p : List Nat

/-- The pages. -/
abbrev Pg := Int → List Nat

/-- How many first bytes are kept. -/
def clamp (n : Int) : Nat := (min (max n 0) 256).toNat
theorem clamp_le (n : Int) : clamp n ≤ 256 := by unfold clamp; omega

/-- First bytes of one page over another one. -/
def mix (a b : List Nat) (n : Int) : List Nat := a.take (clamp n) ++ b.drop (clamp n)
theorem mix_length {a b : List Nat} (ha : a.length = 256) (hb : b.length = 256) (n : Int) : (mix a b n).length = 256 := by
  have := clamp_le n
  simp [mix]; omega

/-- A page behind a change. -/
def overP (c : Chg) (p : List Nat) (n : Int) : List Nat := if c.trim = true then (if 256 ≤ n then zeros else p) else mix c.p p n
theorem overP_length {c : Chg} {p : List Nat} (hc : c.p.length = 256) (hp : p.length = 256) (n : Int) : (overP c p n).length = 256 := by
  unfold overP
  split
  · split
    · exact zeros_length
    · exact hp
  · exact mix_length hc hp n

def upd (pg : Pg) (k : Int) (p : List Nat) : Pg := fun j => if j = k then p else pg j
theorem upd_same (pg : Pg) (k : Int) (p : List Nat) : upd pg k p k = p := by simp [upd]
theorem upd_other (pg : Pg) (k : Int) (p : List Nat) {j : Int} (h : j ≠ k) : upd pg k p j = pg j := by simp [upd, h]
theorem upd_self (pg : Pg) (k : Int) : upd pg k (pg k) = pg := by funext j; unfold upd; split <;> simp_all

def layP (pg : Pg) (c : Chg) (n : Int) : Pg := upd pg c.at_ (overP c (pg c.at_) n)

/-- The pages behind the first i changes, of which so many bytes are kept as f says. -/
def layN (pg : Pg) (cs : List Chg) (f : Nat → Int) : Nat → Pg
  | 0 => pg
  | i + 1 => match cs[i]? with
    | some c => layP (layN pg cs f i) c (f i)
    | none => layN pg cs f i
theorem layN_succ (pg : Pg) (cs : List Chg) (f : Nat → Int) {i : Nat} {c : Chg} (h : cs[i]? = some c) : layN pg cs f (i + 1) = layP (layN pg cs f i) c (f i) := by simp [layN, h]

/-- A device, as the program keeps it. -/
structure Dev where
  pages : Int
  pg : Pg
  waits : List Chg
  fuse : Int
  down : Bool
  done : Int

def refusesP (d : Dev) (at_ : Int) : Int := if d.down = true then 11 else if at_ < 0 ∨ d.pages ≤ at_ then 2 else 0
def burnsP (d : Dev) : Dev := { d with done := d.done + 1, down := d.fuse == 0, fuse := if 0 < d.fuse then d.fuse - 1 else d.fuse }
def waitP (d : Dev) (c : Chg) : Dev := burnsP { d with waits := d.waits ++ [c] }
def codeP (d : Dev) : Int := if d.down = true then 11 else 0
def writeP (d : Dev) (at_ : Int) (b : List Nat) : Dev × Int :=
  if refusesP d at_ = 0 then (if b.length = 256 then (waitP d ⟨at_, false, b⟩, codeP (waitP d ⟨at_, false, b⟩)) else (d, 3)) else (d, refusesP d at_)
def trimP (d : Dev) (at_ : Int) : Dev × Int :=
  if refusesP d at_ = 0 then (waitP d ⟨at_, true, zeros⟩, codeP (waitP d ⟨at_, true, zeros⟩)) else (d, refusesP d at_)
def settledP (d : Dev) : Dev := { d with pg := layN d.pg d.waits (fun _ => 256) d.waits.length, waits := [] }
def flushP (d : Dev) : Dev × Int :=
  if d.down = true then (d, 11) else if (burnsP d).down = true then (burnsP d, 11) else (settledP (burnsP d), 0)
def fuseP (d : Dev) (n : Int) : Dev := { d with fuse := n }
def keepAt (keep : List Int) (i : Nat) : Int := keep.getD i 0
def crashP (d : Dev) (keep : List Int) : Dev := { d with pg := layN d.pg d.waits (keepAt keep) d.waits.length, waits := [], down := false, fuse := -1 }

/-- A page as the last change says. -/
def lastP (cs : List Chg) (at_ : Int) (p : List Nat) : List Nat := cs.foldl (fun acc c => if c.at_ = at_ then c.p else acc) p
def lookP (d : Dev) (at_ : Int) : List Nat := lastP d.waits at_ (d.pg at_)
/-- The pages that are not blank. -/
def cellsP (pg : Pg) (n : Nat) : List (Int × List Nat) := (List.range n).filterMap fun (a : Nat) => if pg (a : Int) = zeros then none else some ((a : Int), pg (a : Int))
theorem cellsP_succ (pg : Pg) (n : Nat) : cellsP pg (n + 1) = cellsP pg n ++ (if pg (n : Int) = zeros then [] else [((n : Int), pg (n : Int))]) := by
  unfold cellsP
  rw [List.range_succ, List.filterMap_append]
  congr 1
  simp only [List.filterMap_cons, List.filterMap_nil]
  split <;> simp_all
def allP (d : Dev) : List (Int × List Nat) := cellsP (layN d.pg d.waits (fun _ => 256) d.waits.length) d.pages.toNat

/-- What is fine with a device of the program. -/
structure DevOk (d : Dev) : Prop where
  pages0 : 1 ≤ d.pages
  pages1 : d.pages ≤ 4096
  len : ∀ k, (d.pg k).length = 256
  byt : ∀ k, ∀ x ∈ d.pg k, x < 256
  wlen : ∀ c ∈ d.waits, c.p.length = 256 ∧ (∀ x ∈ c.p, x < 256) ∧ (c.trim = true → c.p = zeros) ∧ 0 ≤ c.at_ ∧ c.at_ < d.pages

/-- A device, as the document says it. -/
structure Rf where
  pages : Int
  cells : List (Int × List Nat)
  loose : List Chg
  fuse : Int
  down : Bool
  done : Int

def rsafe : List (Int × List Nat) → Int → List Nat
  | [], _ => zeros
  | (a, b) :: r, k => if a = k then b else rsafe r k
def rlookL (cs : List Chg) (at_ : Int) (p : List Nat) : List Nat := cs.foldl (fun acc c => if c.at_ = at_ then (if c.trim = true then zeros else c.p) else acc) p
def rlook (r : Rf) (at_ : Int) : List Nat := rlookL r.loose at_ (rsafe r.cells at_)
def rcheck (r : Rf) (at_ : Int) : Int := if r.down = true then 11 else if at_ < 0 ∨ r.pages ≤ at_ then 2 else 0
def isBlank (b : List Nat) : Bool := b.all (· == 0)
/-- How many pages stand ahead of one. -/
def ahead : List (Int × List Nat) → Int → Nat
  | [], _ => 0
  | (a, _) :: r, k => if a < k then ahead r k + 1 else 0
def skipAt (l : List (Int × List Nat)) (i : Nat) (k : Int) : Nat := match l[i]? with
  | some (a, _) => if a = k then i + 1 else i
  | none => i
def rput (l : List (Int × List Nat)) (k : Int) (b : List Nat) : List (Int × List Nat) :=
  l.take (ahead l k) ++ ((if isBlank b = true then [] else [(k, b)]) ++ l.drop (skipAt l (ahead l k) k))
def rsettle (l : List (Int × List Nat)) (c : Chg) (keep : Int) : List (Int × List Nat) :=
  if c.trim = true then (if keep < 256 then l else rput l c.at_ zeros) else rput l c.at_ (mix c.p (rsafe l c.at_) keep)
def settleN (l : List (Int × List Nat)) (cs : List Chg) (f : Nat → Int) : Nat → List (Int × List Nat)
  | 0 => l
  | i + 1 => match cs[i]? with
    | some c => rsettle (settleN l cs f i) c (f i)
    | none => settleN l cs f i
theorem settleN_succ (l : List (Int × List Nat)) (cs : List Chg) (f : Nat → Int) {i : Nat} {c : Chg} (h : cs[i]? = some c) : settleN l cs f (i + 1) = rsettle (settleN l cs f i) c (f i) := by simp [settleN, h]
def rburns (r : Rf) : Rf × Bool :=
  if r.fuse < 0 then ({ r with done := r.done + 1 }, false) else if r.fuse = 0 then ({ r with done := r.done + 1, fuse := r.fuse - 1, down := true }, true) else ({ r with done := r.done + 1, fuse := r.fuse - 1 }, false)
def rchange (r : Rf) (c : Chg) : Rf × Int := ((rburns { r with loose := r.loose ++ [c] }).1, if (rburns { r with loose := r.loose ++ [c] }).2 = true then 11 else 0)
def rwrite (r : Rf) (at_ : Int) (b : List Nat) : Rf × Int :=
  if rcheck r at_ = 0 then (if b.length = 256 then rchange r ⟨at_, false, b⟩ else (r, 3)) else (r, rcheck r at_)
def rtrim (r : Rf) (at_ : Int) : Rf × Int := if rcheck r at_ = 0 then rchange r ⟨at_, true, []⟩ else (r, rcheck r at_)
def rflush (r : Rf) : Rf × Int :=
  if r.down = true then (r, 11) else if (rburns r).2 = true then ((rburns r).1, 11) else ({ (rburns r).1 with cells := settleN r.cells r.loose (fun _ => 256) r.loose.length, loose := [] }, 0)
def rfuse (r : Rf) (n : Int) : Rf := { r with fuse := if n < 0 then -1 else n }
def rcrash (r : Rf) (keep : List Int) : Rf := { r with cells := settleN r.cells r.loose (keepAt keep) (min r.loose.length keep.length), loose := [], down := false, fuse := -1 }
def rall (r : Rf) : List (Int × List Nat) := (List.range r.pages.toNat).filterMap fun (a : Nat) => if isBlank (rlook r (a : Int)) = true then none else some ((a : Int), rlook r (a : Int))

/-- What is fine with a device of the document: nothing in it leads out of bounds. -/
structure RfOk (r : Rf) : Prop where
  pages0 : 1 ≤ r.pages
  pages1 : r.pages ≤ 4096
  cells : ∀ x ∈ r.cells, x.2.length = 256
  loose : ∀ c ∈ r.loose, c.trim = false → c.p.length = 256
end Go.Proofs.YtkbfihnoohhojaaDoor.Fla

namespace Go.Proofs.YtkbfihnoohhojaaDoor.Fla
open Go.RowKit

/-- Bytes as values. -/
def U (l : List Nat) : List Value := l.map fun (x : Nat) => Value.int .u8 (x : Int)
theorem U_length (l : List Nat) : (U l).length = l.length := by simp [U]
theorem U_append (a b : List Nat) : U (a ++ b) = U a ++ U b := by simp [U]
theorem U_take (l : List Nat) (k : Nat) : (U l).take k = U (l.take k) := by simp [U]
theorem U_drop (l : List Nat) (k : Nat) : (U l).drop k = U (l.drop k) := by simp [U]
theorem U_at {l : List Nat} {k : Nat} {x : Nat} (h : l[k]? = some x) : (U l)[k]? = some (.int .u8 (x : Int)) := by simp [U, h]
theorem U_one (l : List Nat) : ∀ u ∈ U l, u.oneCell' = true := by
  intro u hu
  obtain ⟨x, _, rfl⟩ := List.mem_map.1 hu
  rfl

/-- A page as a value's cells. -/
def pgV (p : List Nat) : Array Value := (U p).toArray
theorem pgV_size (p : List Nat) : (pgV p).size = p.length := by simp [pgV, U_length]
theorem pgV_toList (p : List Nat) : (pgV p).toList = U p := by simp [pgV]
/-- A change of the program as a value's cells. -/
def chgL (c : Chg) : List Value := .int .i64 c.at_ :: .bool c.trim :: U c.p
def chgV (c : Chg) : Array Value := (chgL c).toArray
theorem chgL_length (c : Chg) : (chgL c).length = c.p.length + 2 := by simp [chgL, U_length]
theorem chgV_size (c : Chg) : (chgV c).size = c.p.length + 2 := by simp [chgV, chgL_length]
theorem chgV_0 (c : Chg) : (chgV c)[0]? = some (.int .i64 c.at_) := by simp [chgV, chgL]
theorem chgV_1 (c : Chg) : (chgV c)[1]? = some (.bool c.trim) := by simp [chgV, chgL]
theorem chgL_one (c : Chg) : ∀ u ∈ chgL c, u.oneCell' = true := by
  intro u hu
  simp only [chgL, List.mem_cons] at hu
  rcases hu with rfl | rfl | hu
  · rfl
  · rfl
  · exact U_one _ u hu
def chgsL (cs : List Chg) : List Value := cs.flatMap chgL
theorem chgsL_length {cs : List Chg} (h : ∀ c ∈ cs, c.p.length = 256) : (chgsL cs).length = cs.length * 258 := by
  induction cs with
  | nil => rfl
  | cons c r ih =>
    have := ih (fun x hx => h x (by simp [hx]))
    have h2 := h c (by simp)
    simp only [chgsL, List.flatMap_cons, List.length_append, chgL_length, List.length_cons] at this ⊢
    omega
theorem chgsL_append (a b : List Chg) : chgsL (a ++ b) = chgsL a ++ chgsL b := by simp [chgsL]
theorem chgsL_at {cs : List Chg} (h : ∀ c ∈ cs, c.p.length = 256) {i : Nat} {c : Chg} (hi : cs[i]? = some c) {j : Nat} {u : Value} (hj : (chgL c)[j]? = some u) : (chgsL cs)[i * 258 + j]? = some u := by
  induction cs generalizing i with
  | nil => simp at hi
  | cons x r ih =>
    have hx := h x (by simp)
    have hjl : j < 258 := by
      have := (List.getElem?_eq_some_iff.1 hj).1
      rw [chgL_length] at this
      have h3 : c.p.length = 256 := h c (List.mem_of_getElem? hi)
      omega
    simp only [chgsL, List.flatMap_cons]
    cases i with
    | zero =>
      simp at hi
      subst hi
      rw [List.getElem?_append_left (by rw [chgL_length]; omega)]
      simpa using hj
    | succ i =>
      rw [List.getElem?_append_right (by rw [chgL_length]; omega), chgL_length, hx]
      have := ih (fun y hy => h y (by simp [hy])) (by simpa using hi)
      rw [show (i + 1) * 258 + j - (256 + 2) = i * 258 + j by omega]
      exact this

theorem Tryd.info5m : (Tryd.prog.info? 5).map (fun i => (i.zero, i.size, i.bytes)) = some (some (.int .u8 0), 1, 1) := by kernel_rfl
theorem Tryd.info89m : (Tryd.prog.info? 56).map (fun i => (i.zero, i.size, i.bytes)) = some (some (.agg #[.int .i64 0, .slice none 0 0]), 2, 32) := by kernel_rfl
theorem Tryd.info98m : (Tryd.prog.info? 114).map (fun i => (i.zero, i.size, i.bytes)) = some (some (.agg #[.int .i64 0, .slice none 0 0, .bool false]), 3, 40) := by kernel_rfl
theorem Tryd.info79m : (Tryd.prog.info? 83).map (fun i => (i.zero, i.size, i.bytes)) = some (some (.agg (pgV zeros)), 256, 256) := by kernel_rfl
theorem Tryd.info81m : (Tryd.prog.info? 85).map (fun i => (i.zero, i.size, i.bytes)) = some (some (.agg (chgV ⟨0, false, zeros⟩)), 258, 272) := by kernel_rfl
theorem info_of {P : Program} {t : TypeId} {z : Value} {s b : Nat} (h : (P.info? t).map (fun i => (i.zero, i.size, i.bytes)) = some (some z, s, b)) : ∃ i, P.info? t = some i ∧ i.zero = some z ∧ i.size = s ∧ i.bytes = b := by
  obtain ⟨i, h1, h2⟩ := Option.map_eq_some_iff.1 h
  simp only [Prod.mk.injEq] at h2
  exact ⟨i, h1, h2.1, h2.2.1, h2.2.2⟩
theorem size_of {P : Program} {t : TypeId} {z : Value} {s b : Nat} (h : (P.info? t).map (fun i => (i.zero, i.size, i.bytes)) = some (some z, s, b)) : (P.info? t).map (·.size) = some s := by
  obtain ⟨i, h1, h2, h3, h4⟩ := info_of h
  simp [h1, h3]
theorem zero_run {P : Program} {t : TypeId} {z : Value} {s b : Nat} (h : (P.info? t).map (fun i => (i.zero, i.size, i.bytes)) = some (some z, s, b)) (w : World) : (zeroValue t).run P w = .ok z w := by
  obtain ⟨i, h1, h2, h3, h4⟩ := info_of h
  simp [zeroValue, typeInfo, h1, h2]
theorem Tryd.size79 : (Tryd.prog.info? 83).map (·.size) = some 256 := size_of Tryd.info79m
theorem Tryd.size81 : (Tryd.prog.info? 85).map (·.size) = some 258 := size_of Tryd.info81m
theorem Tryd.zero83 (w : World) : (zeroValue 83).run Tryd.prog w = .ok (.agg (pgV zeros)) w := zero_run Tryd.info79m w
theorem Tryd.zero85 (w : World) : (zeroValue 85).run Tryd.prog w = .ok (.agg (chgV ⟨0, false, zeros⟩)) w := zero_run Tryd.info81m w

/-- Block b is such a row, and of no type whose blocks are written into. -/
def Stat (w : World) (b : Nat) (cs : Array Value) : Prop := ∃ e fr, w.heap[b]? = some (.cells cs e fr) ∧ e ≠ 68 ∧ e ≠ 85
theorem Stat.cell {w : World} {b : Nat} {cs : Array Value} (h : Stat w b cs) {j : Nat} {u : Value} (hj : cs[j]? = some u) : w.cell? ⟨b, j, none⟩ = some u := by
  obtain ⟨e, fr, h1, _⟩ := h
  simp [World.cell?, h1, hj]
theorem Stat.lt {w : World} {b : Nat} {cs : Array Value} (h : Stat w b cs) : b < w.heap.size := by
  obtain ⟨e, fr, h1, _⟩ := h
  exact (Array.getElem?_eq_some_iff.1 h1).1

/-- What stays: what lies below B, and all rows that are not written into. -/
structure Fr (B : Nat) (w w' : World) : Prop where
  os : w'.os = w.os
  tape : w'.tape = w.tape
  output : w'.output = w.output
  size : w.heap.size ≤ w'.heap.size
  low : ∀ k, k < w.heap.size → k < B → w'.heap[k]? = w.heap[k]?
  stat : ∀ k cs, Stat w k cs → w'.heap[k]? = w.heap[k]?

theorem Fr.refl (B : Nat) (w : World) : Fr B w w := ⟨rfl, rfl, rfl, Nat.le_refl _, fun _ _ _ => rfl, fun _ _ _ => rfl⟩
theorem Stat.fr {B : Nat} {w w' : World} {b : Nat} {cs : Array Value} (h : Stat w b cs) (hf : Fr B w w') : Stat w' b cs := by
  have := hf.stat b cs h
  obtain ⟨e, fr, h1, h2⟩ := h
  exact ⟨e, fr, by rw [this]; exact h1, h2⟩
theorem Fr.trans {B : Nat} {w w1 w2 : World} (h : Fr B w w1) (k : Fr B w1 w2) : Fr B w w2 :=
  ⟨k.os.trans h.os, k.tape.trans h.tape, k.output.trans h.output, Nat.le_trans h.size k.size,
    fun i hi hb => (k.low i (Nat.lt_of_lt_of_le hi h.size) hb).trans (h.low i hi hb), fun i cs hs => (k.stat i cs (hs.fr h)).trans (h.stat i cs hs)⟩
theorem Below.fr {B : Nat} {w w' : World} (h : Below w.heap.size w w') : Fr B w w' :=
  ⟨h.os, h.tape, h.output, h.size, fun k hk _ => h.block k hk, fun k _ hs => h.block k hs.lt⟩
theorem Fr.below {B : Nat} {w w' : World} (h : Fr B w w') (hB : B ≤ w.heap.size) : Below B w w' :=
  ⟨h.os, h.tape, h.output, h.size, fun k hk => h.low k (Nat.lt_of_lt_of_le hk hB) hk⟩
theorem Stat.below {w w' : World} {b : Nat} {cs : Array Value} (h : Stat w b cs) (hf : Below w.heap.size w w') : Stat w' b cs := h.fr (Below.fr (B := 0) hf)
/-- A block of the program's own was written. -/
theorem grown_fr {B g : Nat} {w w' : World} (h : w.grownBy w' (some g)) (hB : B ≤ g) (hg : ∀ cs, ¬ Stat w g cs) : Fr B w w' :=
  ⟨h.os, h.tape, h.output, h.size, fun k hk hb => h.block k hk (by intro e; cases e; omega), fun k cs hs => h.block k hs.lt (by intro e; cases e; exact hg cs hs)⟩

/-- Such a row that is no device of the document either. -/
def RSt (w : World) (size b : Nat) (cs : Array Value) : Prop := ∃ e fr, w.heap[b]? = some (.cells cs e fr) ∧ e ≠ 68 ∧ e ≠ 85 ∧ (e ≠ 38 ∧ e ≠ 38 ∧ e ≠ 96) ∧ (size = 1 → e ≠ 56 ∧ e ≠ 114)
theorem RSt.stat {w : World} {size b : Nat} {cs : Array Value} (h : RSt w size b cs) : Stat w b cs := by
  obtain ⟨e, fr, h1, h2, h3, _⟩ := h
  exact ⟨e, fr, h1, h2, h3⟩
theorem RSt.fr {B : Nat} {w w' : World} {size b : Nat} {cs : Array Value} (h : RSt w size b cs) (hf : Fr B w w') : RSt w' size b cs := by
  have := hf.stat b cs h.stat
  obtain ⟨e, fr, h1, h2⟩ := h
  exact ⟨e, fr, by rw [this]; exact h1, h2⟩
/-- A value is, in w's memory, a slice of n things of so many cells, in a row that nothing writes into. -/
def RowAt (w : World) (size : Nat) (v : Value) (n : Nat) (xs : List Value) : Prop :=
  ∃ p cap, v = .slice p n cap ∧ n ≤ cap ∧ cap ≤ maxLen ∧ xs.length = n * size ∧ (n = 0 ∨ ∃ b off cs, p = some ⟨b, off, none⟩ ∧ RSt w size b cs ∧ ∀ k u, xs[k]? = some u → cs[off + k]? = some u)
theorem RowAt.fr {B : Nat} {w w' : World} {size : Nat} {v : Value} {n : Nat} {xs : List Value} (h : RowAt w size v n xs) (hf : Fr B w w') : RowAt w' size v n xs := by
  obtain ⟨p, cap, h1, h2, h3, h4, h5⟩ := h
  refine ⟨p, cap, h1, h2, h3, h4, h5.imp id ?_⟩
  rintro ⟨b, off, cs, h6, h7, h8⟩
  exact ⟨b, off, cs, h6, h7.fr hf, h8⟩
theorem RowAt.below {w w' : World} {size : Nat} {v : Value} {n : Nat} {xs : List Value} (h : RowAt w size v n xs) (hf : Below w.heap.size w w') : RowAt w' size v n xs := h.fr (Below.fr (B := 0) hf)
/-- A device of the document is written. -/
theorem RowAt.box {w w' : World} {size : Nat} {v : Value} {n b : Nat} {xs : List Value} {c : Array Value} {fr : Nat × Nat} (h : RowAt w size v n xs) (hb : w.heap[b]? = some (.cells c 38 fr)) (hg : w.grownBy w' (some b)) : RowAt w' size v n xs := by
  obtain ⟨p, cap, h1, h2, h3, h4, h5⟩ := h
  refine ⟨p, cap, h1, h2, h3, h4, h5.imp id ?_⟩
  rintro ⟨b', off, cs, h6, ⟨e, fr', k1, k2, k3, k4⟩, h8⟩
  refine ⟨b', off, cs, h6, ⟨e, fr', ?_, k2, k3, k4⟩, h8⟩
  rw [hg.block b' (Array.getElem?_eq_some_iff.1 k1).1 (by intro e'; cases e'; rw [hb] at k1; cases k1; exact k4.1.1 rfl)]
  exact k1
/-- A row of pages or of changes is written. -/
theorem RowAt.other {w w' : World} {v o : Value} {n k s B : Nat} {xs ys : List Value} {e : TypeId} (h : RowAt w 1 v n xs) (ho : w.ownsRow B e s o k ys) (he : e = 56 ∨ e = 114) (hg : w.grownBy w' o.ownBlock) : RowAt w' 1 v n xs := by
  obtain ⟨p, cap, h1, h2, h3, h4, h5⟩ := h
  refine ⟨p, cap, h1, h2, h3, h4, h5.imp id ?_⟩
  rintro ⟨b', off, cs, h6, ⟨e', fr', k1, k2, k3, k4, k5⟩, h8⟩
  refine ⟨b', off, cs, h6, ⟨e', fr', ?_, k2, k3, k4, k5⟩, h8⟩
  rw [hg.block b' (Array.getElem?_eq_some_iff.1 k1).1 ?_]
  · exact k1
  · intro e2
    rcases ho.2 with ⟨rfl, _⟩ | ⟨g', cap', cur, rfl, _, hh, _⟩
    · cases e2
    · cases e2
      rw [hh] at k1
      cases k1
      have := k5 rfl
      rcases he with rfl | rfl
      · exact this.1 rfl
      · exact this.2 rfl
theorem RowAt.form {w : World} {size : Nat} {v : Value} {n : Nat} {xs : List Value} (h : RowAt w size v n xs) : ∃ p cap, v = .slice p n cap ∧ n ≤ cap ∧ cap ≤ maxLen := by
  obtain ⟨p, cap, h1, h2, h3, _⟩ := h
  exact ⟨p, cap, h1, h2, h3⟩
/-- Element by element. -/
theorem RowAt.each {w : World} {size : Nat} {v : Value} {n : Nat} {xs : List Value} (h : RowAt w size v n xs) : ∃ p cap, v = .slice p n cap ∧ n ≤ cap ∧ cap ≤ maxLen ∧ xs.length = n * size ∧
    ∀ k u, xs[k]? = some u → ∃ b off, p = some ⟨b, off, none⟩ ∧ b < w.heap.size ∧ w.cell? ⟨b, off + k, none⟩ = some u := by
  obtain ⟨p, cap, h1, h2, h3, h4, h5⟩ := h
  refine ⟨p, cap, h1, h2, h3, h4, fun k u hk => ?_⟩
  rcases h5 with rfl | ⟨b, off, cs, h6, h7, h8⟩
  · have := (List.getElem?_eq_some_iff.1 hk).1
    simp at h4
    subst h4
    simp at this
  · exact ⟨b, off, h6, h7.stat.lt, h7.stat.cell (h8 k u hk)⟩
/-- With an element. -/
theorem RowAt.elem {w : World} {size : Nat} {v : Value} {n : Nat} {xs : List Value} (h : RowAt w size v n xs) (hn : 0 < n) : ∃ b off cap, v = .slice (some ⟨b, off, none⟩) n cap ∧ n ≤ cap ∧ cap ≤ maxLen ∧ xs.length = n * size ∧ b < w.heap.size ∧
    ∀ k u, xs[k]? = some u → w.cell? ⟨b, off + k, none⟩ = some u := by
  obtain ⟨p, cap, h1, h2, h3, h4, h5⟩ := h
  rcases h5 with rfl | ⟨b, off, cs, h6, h7, h8⟩
  · omega
  · exact ⟨b, off, cap, by rw [h1, h6], h2, h3, h4, h7.stat.lt, fun k u hk => h7.stat.cell (h8 k u hk)⟩
theorem own_row {w : World} {B : Nat} {e : TypeId} {size : Nat} {v : Value} {n : Nat} {xs : List Value} (h : w.ownsRow B e size v n xs) (h1 : e ≠ 68) (h2 : e ≠ 85) (h7 : (e ≠ 38 ∧ e ≠ 38 ∧ e ≠ 96) ∧ (size = 1 → e ≠ 56 ∧ e ≠ 114) := by decide) : RowAt w size v n xs := by
  have hl := h.1
  rcases h.2 with ⟨rfl, rfl⟩ | ⟨g, cap, cur, rfl, hb, hg, h3, h4, h5, h6⟩
  · exact ⟨none, 0, rfl, Nat.le_refl _, Nat.zero_le _, hl, .inl rfl⟩
  · refine ⟨_, cap, rfl, h3, h4, hl, .inr ⟨g, 0, cur, rfl, ⟨e, _, hg, h1, h2, h7⟩, fun k u hk => ?_⟩⟩
    rw [← h6, List.getElem?_take] at hk
    split at hk
    · simpa using hk
    · cases hk

/-- Bytes. -/
abbrev BAt (w : World) (v : Value) (bs : List Nat) : Prop := RowAt w 1 v bs.length (U bs)
theorem BAt.nil (w : World) : BAt w (.slice none 0 0) [] := ⟨none, 0, rfl, Nat.le_refl _, Nat.zero_le _, rfl, .inl rfl⟩

/-- Pages of the document, each with the value of its bytes. -/
abbrev Cl := Int × Value × List Nat
def clL (l : List Cl) : List Value := l.flatMap fun x => [.int .i64 x.1, x.2.1]
theorem clL_length (l : List Cl) : (clL l).length = l.length * 2 := by
  induction l with
  | nil => rfl
  | cons x r ih => simp only [clL, List.flatMap_cons, List.length_append, List.length_cons, List.length_nil] at ih ⊢; omega
theorem clL_append (a b : List Cl) : clL (a ++ b) = clL a ++ clL b := by simp [clL]
theorem clL_at {l : List Cl} {i : Nat} {x : Cl} (h : l[i]? = some x) : (clL l)[i * 2]? = some (.int .i64 x.1) ∧ (clL l)[i * 2 + 1]? = some x.2.1 := by
  induction l generalizing i with
  | nil => simp at h
  | cons y r ih =>
    cases i with
    | zero => simp at h; subst h; simp [clL]
    | succ i =>
      have := ih (i := i) (by simpa using h)
      simp only [clL, List.flatMap_cons] at this ⊢
      rw [List.getElem?_append_right (by simp; omega), List.getElem?_append_right (by simp; omega)]
      simp only [List.length_cons, List.length_nil, Nat.zero_add]
      rw [show (i + 1) * 2 - (1 + 1) = i * 2 by omega, show (i + 1) * 2 + 1 - (1 + 1) = i * 2 + 1 by omega]
      exact this
def plainC (l : List Cl) : List (Int × List Nat) := l.map fun x => (x.1, x.2.2)
def CellsAt (w : World) (v : Value) (l : List Cl) : Prop := RowAt w 2 v l.length (clL l) ∧ ∀ x ∈ l, BAt w x.2.1 x.2.2
theorem CellsAt.fr {B : Nat} {w w' : World} {v : Value} {l : List Cl} (h : CellsAt w v l) (hf : Fr B w w') : CellsAt w' v l := ⟨h.1.fr hf, fun x hx => (h.2 x hx).fr hf⟩
theorem CellsAt.below {w w' : World} {v : Value} {l : List Cl} (h : CellsAt w v l) (hf : Below w.heap.size w w') : CellsAt w' v l := h.fr (Below.fr (B := 0) hf)

theorem CellsAt.box {w w' : World} {v : Value} {b : Nat} {l : List Cl} {c : Array Value} {fr : Nat × Nat} (h : CellsAt w v l) (hb : w.heap[b]? = some (.cells c 38 fr)) (hg : w.grownBy w' (some b)) : CellsAt w' v l := ⟨h.1.box hb hg, fun x hx => (h.2 x hx).box hb hg⟩
/-- Changes of the document, each with the value of its bytes. -/
abbrev Lo := Chg × Value
def loL (l : List Lo) : List Value := l.flatMap fun x => [.int .i64 x.1.at_, x.2, .bool x.1.trim]
theorem loL_length (l : List Lo) : (loL l).length = l.length * 3 := by
  induction l with
  | nil => rfl
  | cons x r ih => simp only [loL, List.flatMap_cons, List.length_append, List.length_cons, List.length_nil] at ih ⊢; omega
theorem loL_append (a b : List Lo) : loL (a ++ b) = loL a ++ loL b := by simp [loL]
theorem loL_at {l : List Lo} {i : Nat} {x : Lo} (h : l[i]? = some x) : (loL l)[i * 3]? = some (.int .i64 x.1.at_) ∧ (loL l)[i * 3 + 1]? = some x.2 ∧ (loL l)[i * 3 + 2]? = some (.bool x.1.trim) := by
  induction l generalizing i with
  | nil => simp at h
  | cons y r ih =>
    cases i with
    | zero => simp at h; subst h; simp [loL]
    | succ i =>
      have := ih (i := i) (by simpa using h)
      simp only [loL, List.flatMap_cons] at this ⊢
      rw [List.getElem?_append_right (by simp; omega), List.getElem?_append_right (by simp; omega), List.getElem?_append_right (by simp; omega)]
      simp only [List.length_cons, List.length_nil, Nat.zero_add]
      rw [show (i + 1) * 3 - (1 + 1 + 1) = i * 3 by omega, show (i + 1) * 3 + 1 - (1 + 1 + 1) = i * 3 + 1 by omega, show (i + 1) * 3 + 2 - (1 + 1 + 1) = i * 3 + 2 by omega]
      exact this
def plainL (l : List Lo) : List Chg := l.map (·.1)
def LooseAt (w : World) (v : Value) (l : List Lo) : Prop := RowAt w 3 v l.length (loL l) ∧ ∀ x ∈ l, BAt w x.2 x.1.p
theorem LooseAt.fr {B : Nat} {w w' : World} {v : Value} {l : List Lo} (h : LooseAt w v l) (hf : Fr B w w') : LooseAt w' v l := ⟨h.1.fr hf, fun x hx => (h.2 x hx).fr hf⟩
theorem LooseAt.below {w w' : World} {v : Value} {l : List Lo} (h : LooseAt w v l) (hf : Below w.heap.size w w') : LooseAt w' v l := h.fr (Below.fr (B := 0) hf)

theorem LooseAt.box {w w' : World} {v : Value} {b : Nat} {l : List Lo} {c : Array Value} {fr : Nat × Nat} (h : LooseAt w v l) (hb : w.heap[b]? = some (.cells c 38 fr)) (hg : w.grownBy w' (some b)) : LooseAt w' v l := ⟨h.1.box hb hg, fun x hx => (h.2 x hx).box hb hg⟩
/-- How an element of the map reads: as itself. -/
def Rv (v : Value) : Option (DataW Value × List MemPlace) := some (.held v, [])
/-- Block m is a map of these pages, of which those that are blank do not stand there. -/
def MapAt (w : World) (m n : Nat) (pg : Pg) : Prop :=
  ∃ D : DataW Value, w.ownsMap Tryd.prog 3 Rv m n D ∧ ∀ k : Int, D.atKey (.int .i64 k) (.held (.agg (pgV zeros))) = .held (.agg (pgV (pg k))) ∧ Maps.has D (.int .i64 k) = !(decide (pg k = zeros))
theorem MapAt.grown {w w' : World} {m n : Nat} {pg : Pg} {row : Option Nat} (h : MapAt w m n pg) (hg : w.grownBy w' row) (hne : some m ≠ row) : MapAt w' m n pg := by
  obtain ⟨D, h1, h2⟩ := h
  exact ⟨D, h1.kept hg hne, h2⟩
theorem MapAt.lt {w : World} {m n : Nat} {pg : Pg} (h : MapAt w m n pg) : m < w.heap.size := by obtain ⟨D, h1, _⟩ := h; exact h1.lt
theorem below_grown {w w1 : World} (h : Below w.heap.size w w1) (row : Option Nat) : w.grownBy w1 row := ⟨h.os, h.tape, h.output, h.size, fun k hk _ => h.block k hk⟩
theorem MapAt.below {w w' : World} {m n : Nat} {pg : Pg} (h : MapAt w m n pg) (hb : Below w.heap.size w w') : MapAt w' m n pg := h.grown (below_grown hb none) (by simp)
theorem MapAt.notStat {w : World} {m n : Nat} {pg : Pg} (h : MapAt w m n pg) : ∀ cs, ¬ Stat w m cs := by
  obtain ⟨D, ⟨es, clock, h1, _⟩, _⟩ := h
  rintro cs ⟨e, fr, h2, _⟩
  rw [h1] at h2
  cases h2

/-- Block g is a device of the program, all whose memory lies from B on; N: so many changes there were at most. -/
def Fl (w : World) (B g N : Nat) (d : Dev) : Prop :=
  DevOk d ∧ (0 ≤ d.done ∧ d.done ≤ N ∧ -9223372036854775808 ≤ d.fuse ∧ d.fuse ≤ 9223372036854775807) ∧
  ∃ m wv n, w.heap[g]? = some (.cells #[.int .i64 d.pages, .map (some m), wv, .int .i64 d.fuse, .bool d.down, .int .i64 d.done] 68 (0, 0)) ∧ MapAt w m n d.pg ∧
    w.ownsRow B 85 258 wv d.waits.length (chgsL d.waits) ∧ B ≤ g ∧ B ≤ m ∧ n + d.waits.length ≤ N
end Go.Proofs.YtkbfihnoohhojaaDoor.Fla
