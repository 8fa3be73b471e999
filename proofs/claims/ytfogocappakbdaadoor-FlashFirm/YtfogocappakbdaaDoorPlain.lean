/-
  The plain mathematics of layer 4: a device as the program keeps it, and as the document says it. No memory here.
-/
namespace Go.Proofs.YtfogocappakbdaaDoor

/-- A blank page. -/
def zeros : List Nat := List.replicate 256 0
theorem zeros_length : zeros.length = 256 := by unfold zeros; rw [List.length_replicate]

/-- A change that waits. -/
structure Chg where
  at_ : Int
  trim : Bool
  p : List Nat

/-- The pages. -/
abbrev Pg := Int → List Nat

/-- How many first bytes are kept. -/
def clamp (n : Int) : Nat := (min (max n 0) 256).toNat
theorem clamp_le (n : Int) : clamp n ≤ 256 := by unfold clamp; omega

/-- First bytes of one page over another one. -/
def mix (a b : List Nat) (n : Int) : List Nat := a.take (clamp n) ++ b.drop (clamp n)
theorem mix_length {a b : List Nat} (ha : a.length = 256) (hb : b.length = 256) (n : Int) : (mix a b n).length = 256 := by
  have := clamp_le n
  simp [mix]; omega

/-- A page behind a change. -/
def overP (c : Chg) (p : List Nat) (n : Int) : List Nat := if c.trim = true then (if 256 ≤ n then zeros else p) else mix c.p p n
theorem overP_length {c : Chg} {p : List Nat} (hc : c.p.length = 256) (hp : p.length = 256) (n : Int) : (overP c p n).length = 256 := by
  unfold overP
  split
  · split
    · exact zeros_length
    · exact hp
  · exact mix_length hc hp n

def upd (pg : Pg) (k : Int) (p : List Nat) : Pg := fun j => if j = k then p else pg j
theorem upd_same (pg : Pg) (k : Int) (p : List Nat) : upd pg k p k = p := by simp [upd]
theorem upd_other (pg : Pg) (k : Int) (p : List Nat) {j : Int} (h : j ≠ k) : upd pg k p j = pg j := by simp [upd, h]
theorem upd_self (pg : Pg) (k : Int) : upd pg k (pg k) = pg := by funext j; unfold upd; split <;> simp_all

def layP (pg : Pg) (c : Chg) (n : Int) : Pg := upd pg c.at_ (overP c (pg c.at_) n)

/-- The pages behind the first i changes, of which so many bytes are kept as f says. -/
def layN (pg : Pg) (cs : List Chg) (f : Nat → Int) : Nat → Pg
  | 0 => pg
  | i + 1 => match cs[i]? with
    | some c => layP (layN pg cs f i) c (f i)
    | none => layN pg cs f i
theorem layN_succ (pg : Pg) (cs : List Chg) (f : Nat → Int) {i : Nat} {c : Chg} (h : cs[i]? = some c) : layN pg cs f (i + 1) = layP (layN pg cs f i) c (f i) := by simp [layN, h]

/-- A device, as the program keeps it. -/
structure Dev where
  pages : Int
  pg : Pg
  waits : List Chg
  fuse : Int
  down : Bool
  done : Int

def refusesP (d : Dev) (at_ : Int) : Int := if d.down = true then 11 else if at_ < 0 ∨ d.pages ≤ at_ then 2 else 0
def burnsP (d : Dev) : Dev := { d with done := d.done + 1, down := d.fuse == 0, fuse := if 0 < d.fuse then d.fuse - 1 else d.fuse }
def waitP (d : Dev) (c : Chg) : Dev := burnsP { d with waits := d.waits ++ [c] }
def codeP (d : Dev) : Int := if d.down = true then 11 else 0
def writeP (d : Dev) (at_ : Int) (b : List Nat) : Dev × Int :=
  if refusesP d at_ = 0 then (if b.length = 256 then (waitP d ⟨at_, false, b⟩, codeP (waitP d ⟨at_, false, b⟩)) else (d, 3)) else (d, refusesP d at_)
def trimP (d : Dev) (at_ : Int) : Dev × Int :=
  if refusesP d at_ = 0 then (waitP d ⟨at_, true, zeros⟩, codeP (waitP d ⟨at_, true, zeros⟩)) else (d, refusesP d at_)
def settledP (d : Dev) : Dev := { d with pg := layN d.pg d.waits (fun _ => 256) d.waits.length, waits := [] }
def flushP (d : Dev) : Dev × Int :=
  if d.down = true then (d, 11) else if (burnsP d).down = true then (burnsP d, 11) else (settledP (burnsP d), 0)
def fuseP (d : Dev) (n : Int) : Dev := { d with fuse := n }
def keepAt (keep : List Int) (i : Nat) : Int := keep.getD i 0
def crashP (d : Dev) (keep : List Int) : Dev := { d with pg := layN d.pg d.waits (keepAt keep) d.waits.length, waits := [], down := false, fuse := -1 }

/-- A page as the last change says. -/
def lastP (cs : List Chg) (at_ : Int) (p : List Nat) : List Nat := cs.foldl (fun acc c => if c.at_ = at_ then c.p else acc) p
def lookP (d : Dev) (at_ : Int) : List Nat := lastP d.waits at_ (d.pg at_)
/-- The pages that are not blank. -/
def cellsP (pg : Pg) (n : Nat) : List (Int × List Nat) := (List.range n).filterMap fun (a : Nat) => if pg (a : Int) = zeros then none else some ((a : Int), pg (a : Int))
theorem cellsP_succ (pg : Pg) (n : Nat) : cellsP pg (n + 1) = cellsP pg n ++ (if pg (n : Int) = zeros then [] else [((n : Int), pg (n : Int))]) := by
  unfold cellsP
  rw [List.range_succ, List.filterMap_append]
  congr 1
  simp only [List.filterMap_cons, List.filterMap_nil]
  split <;> simp_all
def allP (d : Dev) : List (Int × List Nat) := cellsP (layN d.pg d.waits (fun _ => 256) d.waits.length) d.pages.toNat

/-- What is fine with a device of the program. -/
structure DevOk (d : Dev) : Prop where
  pages0 : 1 ≤ d.pages
  pages1 : d.pages ≤ 4096
  len : ∀ k, (d.pg k).length = 256
  byt : ∀ k, ∀ x ∈ d.pg k, x < 256
  wlen : ∀ c ∈ d.waits, c.p.length = 256 ∧ (∀ x ∈ c.p, x < 256) ∧ (c.trim = true → c.p = zeros) ∧ 0 ≤ c.at_ ∧ c.at_ < d.pages

/-- A device, as the document says it. -/
structure Rf where
  pages : Int
  cells : List (Int × List Nat)
  loose : List Chg
  fuse : Int
  down : Bool
  done : Int

def rsafe : List (Int × List Nat) → Int → List Nat
  | [], _ => zeros
  | (a, b) :: r, k => if a = k then b else rsafe r k
def rlookL (cs : List Chg) (at_ : Int) (p : List Nat) : List Nat := cs.foldl (fun acc c => if c.at_ = at_ then (if c.trim = true then zeros else c.p) else acc) p
def rlook (r : Rf) (at_ : Int) : List Nat := rlookL r.loose at_ (rsafe r.cells at_)
def rcheck (r : Rf) (at_ : Int) : Int := if r.down = true then 11 else if at_ < 0 ∨ r.pages ≤ at_ then 2 else 0
def isBlank (b : List Nat) : Bool := b.all (· == 0)
/-- How many pages stand ahead of one. -/
def ahead : List (Int × List Nat) → Int → Nat
  | [], _ => 0
  | (a, _) :: r, k => if a < k then ahead r k + 1 else 0
def skipAt (l : List (Int × List Nat)) (i : Nat) (k : Int) : Nat := match l[i]? with
  | some (a, _) => if a = k then i + 1 else i
  | none => i
def rput (l : List (Int × List Nat)) (k : Int) (b : List Nat) : List (Int × List Nat) :=
  l.take (ahead l k) ++ ((if isBlank b = true then [] else [(k, b)]) ++ l.drop (skipAt l (ahead l k) k))
def rsettle (l : List (Int × List Nat)) (c : Chg) (keep : Int) : List (Int × List Nat) :=
  if c.trim = true then (if keep < 256 then l else rput l c.at_ zeros) else rput l c.at_ (mix c.p (rsafe l c.at_) keep)
def settleN (l : List (Int × List Nat)) (cs : List Chg) (f : Nat → Int) : Nat → List (Int × List Nat)
  | 0 => l
  | i + 1 => match cs[i]? with
    | some c => rsettle (settleN l cs f i) c (f i)
    | none => settleN l cs f i
theorem settleN_succ (l : List (Int × List Nat)) (cs : List Chg) (f : Nat → Int) {i : Nat} {c : Chg} (h : cs[i]? = some c) : settleN l cs f (i + 1) = rsettle (settleN l cs f i) c (f i) := by simp [settleN, h]
def rburns (r : Rf) : Rf × Bool :=
  if r.fuse < 0 then ({ r with done := r.done + 1 }, false) else if r.fuse = 0 then ({ r with done := r.done + 1, fuse := r.fuse - 1, down := true }, true) else ({ r with done := r.done + 1, fuse := r.fuse - 1 }, false)
def rchange (r : Rf) (c : Chg) : Rf × Int := ((rburns { r with loose := r.loose ++ [c] }).1, if (rburns { r with loose := r.loose ++ [c] }).2 = true then 11 else 0)
def rwrite (r : Rf) (at_ : Int) (b : List Nat) : Rf × Int :=
  if rcheck r at_ = 0 then (if b.length = 256 then rchange r ⟨at_, false, b⟩ else (r, 3)) else (r, rcheck r at_)
def rtrim (r : Rf) (at_ : Int) : Rf × Int := if rcheck r at_ = 0 then rchange r ⟨at_, true, []⟩ else (r, rcheck r at_)
def rflush (r : Rf) : Rf × Int :=
  if r.down = true then (r, 11) else if (rburns r).2 = true then ((rburns r).1, 11) else ({ (rburns r).1 with cells := settleN r.cells r.loose (fun _ => 256) r.loose.length, loose := [] }, 0)
def rfuse (r : Rf) (n : Int) : Rf := { r with fuse := if n < 0 then -1 else n }
def rcrash (r : Rf) (keep : List Int) : Rf := { r with cells := settleN r.cells r.loose (keepAt keep) (min r.loose.length keep.length), loose := [], down := false, fuse := -1 }
def rall (r : Rf) : List (Int × List Nat) := (List.range r.pages.toNat).filterMap fun (a : Nat) => if isBlank (rlook r (a : Int)) = true then none else some ((a : Int), rlook r (a : Int))

/-- What is fine with a device of the document: nothing in it leads out of bounds. -/
structure RfOk (r : Rf) : Prop where
  pages0 : 1 ≤ r.pages
  pages1 : r.pages ≤ 4096
  cells : ∀ x ∈ r.cells, x.2.length = 256
  loose : ∀ c ∈ r.loose, c.trim = false → c.p.length = 256
end Go.Proofs.YtfogocappakbdaaDoor
