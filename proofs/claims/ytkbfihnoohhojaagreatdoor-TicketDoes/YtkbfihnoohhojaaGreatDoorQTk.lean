/-
  The ticket in memory: errors under as many wraps, what stays where a stamp is written, and how the memory of leaves and that of devices meet.
-/
import Derived.Test.YtkbfihnoohhojaaGreatDoorQOpenF
import Derived.Test.YtkbfihnoohhojaaGreatDoorQFRefG
import Derived.Test.YtkbfihnoohhojaaGreatDoorQFFlush
import Derived.Test.YtkbfihnoohhojaaGreatDoorQLPage
import Derived.Test.YtkbfihnoohhojaaGreatDoorQFRead
import Derived.Test.YtkbfihnoohhojaaGreatDoorQLPuts
import Derived.Laws.ResultCell
import Derived.Laws.Tables
import Derived.Laws.Rows
import Derived.Test.YtkbfihnoohhojaaGreatDoorQFlt
import Derived.Test.YtkbfihnoohhojaaGreatDoorQFCells
import Derived.Test.YtkbfihnoohhojaaGreatDoorQFDoA
namespace Go.Proofs.YtkbfihnoohhojaaGreatDoor
open Fla (Dev Rf DevOk Sim newP writeP flushP crashP trimP fuseP readP lookP allP refusesP zeros Chg Pg layN layP overP mix clamp upd waitP burnsP settledP codeP keepAt lastP rwrite rflush rtrim rfuse rcrash rall)
open Lea (page checkC getP stampsP stampN cutAt)

/-- One page more: its two stamps. -/
def nx (n : Int) (p : Int × Int) : Int := if (if n ≤ p.1 then p.1 + 1 else n) ≤ p.2 then p.2 + 1 else if n ≤ p.1 then p.1 + 1 else n
/-- The next stamp of pages with these stamps. -/
def nextP (l : List (Int × Int)) : Int := l.foldl nx 1
theorem nx_ge (n : Int) (p : Int × Int) : n ≤ nx n p ∧ p.1 < nx n p ∧ p.2 < nx n p := by
  unfold nx
  split <;> split at * <;> omega
theorem nx_le {n m : Int} {p : Int × Int} (hn : n ≤ m + 1) (h1 : p.1 ≤ m) (h2 : p.2 ≤ m) : nx n p ≤ m + 1 := by
  unfold nx
  split <;> split at * <;> omega
theorem fold_ge (l : List (Int × Int)) (n : Int) : n ≤ l.foldl nx n := by
  induction l generalizing n with
  | nil => exact Int.le_refl _
  | cons p r ih => exact Int.le_trans (nx_ge n p).1 (ih (nx n p))
theorem fold_above (l : List (Int × Int)) (n : Int) : ∀ p ∈ l, p.1 < l.foldl nx n ∧ p.2 < l.foldl nx n := by
  induction l generalizing n with
  | nil => intro p hp; cases hp
  | cons q r ih =>
    intro p hp
    rcases List.mem_cons.1 hp with rfl | hp
    · have h1 := nx_ge n p
      have h2 := fold_ge r (nx n p)
      exact ⟨Int.lt_of_lt_of_le h1.2.1 h2, Int.lt_of_lt_of_le h1.2.2 h2⟩
    · exact ih (nx n q) p hp
theorem fold_le (l : List (Int × Int)) {n m : Int} (hn : n ≤ m + 1) (h : ∀ p ∈ l, p.1 ≤ m ∧ p.2 ≤ m) : l.foldl nx n ≤ m + 1 := by
  induction l generalizing n with
  | nil => exact hn
  | cons q r ih =>
    have h0 := h q (List.mem_cons_self ..)
    exact ih (nx_le hn h0.1 h0.2) (fun p hp => h p (List.mem_cons_of_mem _ hp))
theorem next_one (l : List (Int × Int)) : 1 ≤ nextP l := fold_ge l 1
theorem next_above {l : List (Int × Int)} {p : Int × Int} (h : p ∈ l) : p.1 < nextP l ∧ p.2 < nextP l := fold_above l 1 p h
theorem next_le {l : List (Int × Int)} {m : Int} (hm : 0 ≤ m) (h : ∀ p ∈ l, p.1 ≤ m ∧ p.2 ≤ m) : nextP l ≤ m + 1 := fold_le l (by omega) h
theorem next_snoc (l : List (Int × Int)) (p : Int × Int) : nextP (l ++ [p]) = nx (nextP l) p := by unfold nextP; rw [List.foldl_append]; rfl

/-- The greatest of three, as the program reckons it: one less than the next stamp. -/
theorem nx_max (n a b : Int) : nx (n + 1) (a, b) = max (max n a) b + 1 := by
  unfold nx
  simp only
  split <;> split at * <;> omega

/-- The stamps of pages, at both ends. -/
def stampsL (l : List (Int × List Nat)) : List (Int × Int) := l.map fun x => (((stampsP x.2).1 : Int), ((stampsP x.2).2 : Int))
theorem stampN_le (n : Nat) : stampN n ≤ 1099511627776 := by unfold stampN; split <;> omega
theorem stamps_le (b : List Nat) : (stampsP b).1 ≤ 1099511627776 ∧ (stampsP b).2 ≤ 1099511627776 := by
  unfold stampsP
  split
  · exact ⟨stampN_le _, stampN_le _⟩
  · exact ⟨Nat.zero_le _, Nat.zero_le _⟩
theorem stampsL_le (l : List (Int × List Nat)) : ∀ p ∈ stampsL l, p.1 ≤ 1099511627776 ∧ p.2 ≤ 1099511627776 := by
  intro p hp
  obtain ⟨x, _, rfl⟩ := List.mem_map.1 hp
  have := stamps_le x.2
  simp only
  omega
/-- The next stamp of a device's pages. -/
def nextL (l : List (Int × List Nat)) : Int := nextP (stampsL l)
theorem nextL_one (l : List (Int × List Nat)) : 1 ≤ nextL l := next_one _
theorem nextL_le (l : List (Int × List Nat)) : nextL l ≤ 1099511627777 := next_le (m := 1099511627776) (by omega) (stampsL_le l)
theorem nextL_above {l : List (Int × List Nat)} {x : Int × List Nat} (h : x ∈ l) : ((stampsP x.2).1 : Int) < nextL l ∧ ((stampsP x.2).2 : Int) < nextL l := next_above (List.mem_map.2 ⟨x, h, rfl⟩)
theorem nextL_snoc (l : List (Int × List Nat)) (x : Int × List Nat) : nextL (l ++ [x]) = nx (nextL l) (((stampsP x.2).1 : Int), ((stampsP x.2).2 : Int)) := by
  unfold nextL stampsL
  rw [List.map_append]
  exact next_snoc _ _
theorem nextL_nil : nextL [] = 1 := rfl
theorem nextL_take {l : List (Int × List Nat)} {k : Nat} {x : Int × List Nat} (h : l[k]? = some x) : nextL (l.take (k + 1)) = nx (nextL (l.take k)) (((stampsP x.2).1 : Int), ((stampsP x.2).2 : Int)) := by
  obtain ⟨h1, h2⟩ := List.getElem?_eq_some_iff.1 h
  rw [List.take_succ_eq_append_getElem h1, h2, nextL_snoc]

/-- A put: the device, the next stamp, and the code. -/
def tputP (d : Dev) (n at_ kind : Int) (b : List Nat) : Dev × Int × Int :=
  if checkC n kind b.length = 0 then
    (if (writeP d at_ (page n.toNat kind.toNat b)).2 = 0 then ((writeP d at_ (page n.toNat kind.toNat b)).1, n + 1, 0) else ((writeP d at_ (page n.toNat kind.toNat b)).1, n, (writeP d at_ (page n.toNat kind.toNat b)).2))
  else (d, n, checkC n kind b.length)
def tfirmP (d : Dev) (n at_ kind : Int) (b : List Nat) : Dev × Int × Int :=
  if (tputP d n at_ kind b).2.2 = 0 then ((flushP (tputP d n at_ kind b).1).1, (tputP d n at_ kind b).2.1, (flushP (tputP d n at_ kind b).1).2) else tputP d n at_ kind b
def rputP (r : Rf) (n at_ kind : Int) (b : List Nat) : Rf × Int × Int :=
  if checkC n kind b.length = 0 then
    (if (rwrite r at_ (page n.toNat kind.toNat b)).2 = 0 then ((rwrite r at_ (page n.toNat kind.toNat b)).1, n + 1, 0) else ((rwrite r at_ (page n.toNat kind.toNat b)).1, n, (rwrite r at_ (page n.toNat kind.toNat b)).2))
  else (r, n, checkC n kind b.length)
def rfirmP (r : Rf) (n at_ kind : Int) (b : List Nat) : Rf × Int × Int :=
  if (rputP r n at_ kind b).2.2 = 0 then ((rflush (rputP r n at_ kind b).1).1, (rputP r n at_ kind b).2.1, (rflush (rputP r n at_ kind b).1).2) else rputP r n at_ kind b
/-- A get of bytes: the code, the stamp, the kind, the bytes. -/
def tgetP (p : List Nat × Int) (kind : Int) : Int × Nat × Nat × List Nat :=
  if p.2 ≠ 0 then (p.2, 0, 0, []) else if (getP p.1).1 ≠ 0 then ((getP p.1).1, 0, 0, []) else if ((getP p.1).2.2.1 : Int) = kind then getP p.1 else (12, 0, 0, [])

theorem write_ok {d : Dev} (h : DevOk d) (at_ : Int) {b : List Nat} (hb : ∀ x ∈ b, x < 256) : DevOk (writeP d at_ b).1 := by
  unfold writeP
  split
  · rename_i h1
    split
    · rename_i h2
      have h3 := Fla.refuses_zero h1
      exact Fla.waitP_ok h ⟨h2, hb, fun e => by simp at e, h3.2⟩
    · exact h
  · exact h
theorem check_code {n k : Int} {l : Nat} (h : checkC n k l ≠ 0) : checkC n k l = 2 ∨ checkC n k l = 12 ∨ checkC n k l = 3 := by
  unfold checkC at h ⊢
  split
  · exact .inl rfl
  · split
    · exact .inr (.inl rfl)
    · split
      · exact .inr (.inr rfl)
      · rename_i h1 h2 h3; rw [if_neg h1, if_neg h2, if_neg h3] at h; exact absurd rfl h
theorem Sim.tput {d : Dev} {r : Rf} (h : Sim d r) (n at_ kind : Int) (b : List Nat) : Sim (tputP d n at_ kind b).1 (rputP r n at_ kind b).1 ∧ (tputP d n at_ kind b).2 = (rputP r n at_ kind b).2 := by
  unfold tputP rputP
  split
  · have hw := h.write at_ (page n.toNat kind.toNat b)
    rw [hw.2]
    split
    · exact ⟨hw.1, rfl⟩
    · exact ⟨hw.1, rfl⟩
  · exact ⟨h, rfl⟩
/-- How a put ends, in letters. -/
theorem tput_next (d : Dev) (n at_ kind : Int) (b : List Nat) (h0 : 1 ≤ n) (h1 : n ≤ 1099511627777) : 1 ≤ (tputP d n at_ kind b).2.1 ∧ (tputP d n at_ kind b).2.1 ≤ 1099511627777 := by
  unfold tputP
  split
  · rename_i hc
    have := Lea.check_zero hc
    split <;> (simp only; omega)
  · exact ⟨h0, h1⟩
theorem tfirm_next (d : Dev) (n at_ kind : Int) (b : List Nat) (h0 : 1 ≤ n) (h1 : n ≤ 1099511627777) : 1 ≤ (tfirmP d n at_ kind b).2.1 ∧ (tfirmP d n at_ kind b).2.1 ≤ 1099511627777 := by
  have := tput_next d n at_ kind b h0 h1
  unfold tfirmP
  split
  · exact this
  · exact this
theorem writeP_ok_page {d : Dev} (h : DevOk d) {n kind : Int} {b : List Nat} (hc : checkC n kind b.length = 0) (hb : ∀ x ∈ b, x < 256) (at_ : Int) : DevOk (writeP d at_ (page n.toNat kind.toNat b)).1 := by
  have hz := Lea.check_zero hc
  exact write_ok h at_ (Lea.page_byt (by omega) hz.2.2.2.2 hb)
theorem tput_ok {d : Dev} (h : DevOk d) {n at_ kind : Int} {b : List Nat} (hb : ∀ x ∈ b, x < 256) : DevOk (tputP d n at_ kind b).1 := by
  unfold tputP
  split
  · rename_i hc
    split
    · exact writeP_ok_page h hc hb at_
    · exact writeP_ok_page h hc hb at_
  · exact h
theorem Sim.tfirm {d : Dev} {r : Rf} (h : Sim d r) (hd : DevOk d) (n at_ kind : Int) {b : List Nat} (hb : ∀ x ∈ b, x < 256) : Sim (tfirmP d n at_ kind b).1 (rfirmP r n at_ kind b).1 ∧ (tfirmP d n at_ kind b).2 = (rfirmP r n at_ kind b).2 := by
  have hp := Sim.tput h n at_ kind b
  unfold tfirmP rfirmP
  rw [hp.2]
  split
  · have hf := hp.1.flush (tput_ok hd (n := n) (at_ := at_) (kind := kind) hb)
    exact ⟨hf.1, by rw [hf.2]⟩
  · exact hp
theorem Sim.tget {d : Dev} {r : Rf} (h : Sim d r) (at_ kind : Int) : tgetP (Fla.rreadP r at_) kind = tgetP (readP d at_) kind := by
  have e : Fla.rreadP r at_ = readP d at_ := by
    unfold Fla.rreadP readP
    rw [h.refuses, h.look]
  rw [e]
theorem Sim.next {d : Dev} {r : Rf} (h : Sim d r) (hd : DevOk d) : nextL (rall r) = nextL (allP d) := by rw [h.all hd]

/-- A device whose power is not near its end: what a write and a flush do. -/
theorem write_fine {d : Dev} (hd : d.down = false) (hf : d.fuse < 0) {k : Int} (h0 : 0 ≤ k) (h1 : k < d.pages) {b : List Nat} (hb : b.length = 256) :
    writeP d k b = ({ d with waits := d.waits ++ [⟨k, false, b⟩], done := d.done + 1 }, 0) := by
  have e1 : refusesP d k = 0 := by unfold refusesP; rw [hd, if_neg (by simp), if_neg (by omega)]
  have e2 : waitP d ⟨k, false, b⟩ = { d with waits := d.waits ++ [⟨k, false, b⟩], done := d.done + 1 } := by
    unfold waitP burnsP
    have q1 : (d.fuse == 0) = false := by simp; omega
    simp only [q1, if_neg (show ¬ 0 < d.fuse by omega), ← hd]
  unfold writeP
  rw [if_pos e1, if_pos hb, e2]
  unfold codeP
  simp only [hd]
  rfl
theorem flush_fine {d : Dev} (hd : d.down = false) (hf : d.fuse < 0) : flushP d = (settledP { d with done := d.done + 1 }, 0) := by
  have e2 : burnsP d = { d with done := d.done + 1 } := by
    unfold burnsP
    have q1 : (d.fuse == 0) = false := by simp; omega
    simp only [q1, if_neg (show ¬ 0 < d.fuse by omega), ← hd]
  unfold flushP
  rw [e2, hd]
  simp
theorem cut_mix (a b : List Nat) (n : Int) : mix a b n = cutAt a b (clamp n) := rfl
/-- One change that waits, of a page, kept so far. -/
theorem crash_one {d : Dev} {k : Int} {b : List Nat} (hw : d.waits = [⟨k, false, b⟩]) (keep : Int) : lookP (crashP d [keep]) k = cutAt b (d.pg k) (clamp keep) := by
  unfold lookP crashP
  rw [hw]
  show layN d.pg [⟨k, false, b⟩] (keepAt [keep]) 1 k = _
  unfold layN layN layP overP upd keepAt
  simp [cut_mix]
/-- A page that was flushed is that. -/
theorem settle_one {d : Dev} {k : Int} {b : List Nat} (hw : d.waits = [⟨k, false, b⟩]) (hb : b.length = 256) (hp : (d.pg k).length = 256) : (settledP d).pg k = b ∧ (settledP d).waits = [] := by
  unfold settledP
  rw [hw]
  refine ⟨?_, rfl⟩
  show layN d.pg [⟨k, false, b⟩] (fun _ => 256) 1 k = _
  unfold layN layN layP overP upd
  have : clamp 256 = 256 := by decide
  simp [mix, this, ← hb, List.drop_eq_nil_of_le (show (d.pg k).length ≤ b.length by omega)]
end Go.Proofs.YtkbfihnoohhojaaGreatDoor

namespace Go.Proofs.YtkbfihnoohhojaaGreatDoor
open Fla (Dev newP)

theorem all_new (p : Int) : Fla.allP (newP p) = [] := by
  unfold Fla.allP Fla.cellsP newP
  show List.filterMap _ _ = []
  rw [List.filterMap_eq_nil_iff]
  intro a _
  show (if Fla.zeros = Fla.zeros then none else _) = none
  rw [if_pos rfl]
theorem next_new (p : Int) : nextL (Fla.allP (newP p)) = 1 := by rw [all_new]; rfl

/-- A device that is calm: its power is there, and nothing waits. -/
structure CalmD (d : Dev) : Prop where
  down : d.down = false
  fuse : d.fuse < 0
  waits : d.waits = []
theorem calm_new (p : Int) : CalmD (newP p) := ⟨rfl, by show (-1 : Int) < 0; omega, rfl⟩
theorem calm_crash (d : Dev) (keep : List Int) : CalmD (Fla.crashP d keep) := ⟨rfl, by show (-1 : Int) < 0; omega, rfl⟩

/-- A put on a calm device. -/
theorem put_calm {d : Dev} (h : CalmD d) {n at_ kind : Int} {b : List Nat} (h0 : 0 ≤ at_) (h1 : at_ < d.pages) (hc : Lea.checkC n kind b.length = 0) :
    tputP d n at_ kind b = ({ d with waits := [⟨at_, false, Lea.page n.toNat kind.toNat b⟩], done := d.done + 1 }, n + 1, 0) := by
  have hz := Lea.check_zero hc
  have hw := write_fine h.down h.fuse h0 h1 (b := Lea.page n.toNat kind.toNat b) (Lea.page_length hz.2.2.2.2)
  unfold tputP
  rw [if_pos hc, hw, h.waits]
  rfl
/-- A put that is flushed. -/
theorem firm_calm {d : Dev} (h : CalmD d) {n at_ kind : Int} {b : List Nat} (h0 : 0 ≤ at_) (h1 : at_ < d.pages) (hp : (d.pg at_).length = 256) (hc : Lea.checkC n kind b.length = 0) :
    ∃ d', tfirmP d n at_ kind b = (d', n + 1, 0) ∧ CalmD d' ∧ d'.pages = d.pages ∧ d'.pg at_ = Lea.page n.toNat kind.toNat b := by
  have hz := Lea.check_zero hc
  have e := put_calm h h0 h1 hc
  unfold tfirmP
  rw [e]
  simp only [if_true]
  have hf := flush_fine (d := { d with waits := [⟨at_, false, Lea.page n.toNat kind.toNat b⟩], done := d.done + 1 }) h.down h.fuse
  rw [hf]
  have hs := settle_one (d := { d with waits := [⟨at_, false, Lea.page n.toNat kind.toNat b⟩], done := d.done + 1 + 1 }) (k := at_) rfl (Lea.page_length hz.2.2.2.2) hp
  exact ⟨_, rfl, ⟨h.down, h.fuse, hs.2⟩, rfl, hs.1⟩
theorem read_calm {d : Dev} (h : CalmD d) {at_ : Int} (h0 : 0 ≤ at_) (h1 : at_ < d.pages) : Fla.readP d at_ = (d.pg at_, 0) := by
  have e1 : Fla.refusesP d at_ = 0 := by unfold Fla.refusesP; rw [h.down, if_neg (by simp), if_neg (by omega)]
  unfold Fla.readP
  rw [if_pos e1]
  unfold Fla.lookP
  rw [h.waits]
  rfl
/-- What a get finds where one leaf was flushed and another one was put, torn anywhere. -/
theorem torn_get {d : Dev} (_h : CalmD d) {k s s' : Nat} {a b : List Nat} {keep : Int} {at_ : Int} (h0 : 0 ≤ at_) (h1 : at_ < d.pages) (hp : d.pg at_ = Lea.page s k a)
    (hs : 1 ≤ s) (hs2 : s ≤ 1099511627776) (ht : 1 ≤ s') (ht2 : s' ≤ 1099511627776) (hne : s' ≠ s) (hk : 1 ≤ k) (hk2 : k ≤ 5) (ha : a.length ≤ 233) (hb : b.length ≤ 233) :
    let r := tgetP (Fla.readP (Fla.crashP { d with waits := [⟨at_, false, Lea.page s' k b⟩], done := d.done + 1 } [keep]) at_) k
    (r.1 = 8 ∧ 0 < keep ∧ keep < 256 ∧ r.2 = (0, 0, [])) ∨ r = (0, s, k, a) ∨ r = (0, s', k, b) := by
  intro r
  have hr : Fla.readP (Fla.crashP { d with waits := [⟨at_, false, Lea.page s' k b⟩], done := d.done + 1 } [keep]) at_ = (Lea.cutAt (Lea.page s' k b) (Lea.page s k a) (Fla.clamp keep), 0) := by
    have e1 : Fla.refusesP (Fla.crashP { d with waits := [⟨at_, false, Lea.page s' k b⟩], done := d.done + 1 } [keep]) at_ = 0 := by
      unfold Fla.refusesP
      rw [if_neg (by simp [Fla.crashP]), if_neg (by show ¬ (at_ < 0 ∨ d.pages ≤ at_); omega)]
    unfold Fla.readP
    rw [if_pos e1, crash_one rfl keep]
    show (Lea.cutAt _ (d.pg at_) _, _) = _
    rw [hp]
  have hr2 : r = tgetP (Lea.cutAt (Lea.page s' k b) (Lea.page s k a) (Fla.clamp keep), 0) k := by show tgetP _ _ = _; rw [hr]
  have ga := Lea.get_page hs hs2 hk hk2 ha
  have gb := Lea.get_page ht ht2 hk hk2 hb
  have hA : tgetP (Lea.page s k a, 0) k = (0, s, k, a) := by unfold tgetP; rw [if_neg (by simp), ga, if_neg (by simp), if_pos rfl]
  have hB : tgetP (Lea.page s' k b, 0) k = (0, s', k, b) := by unfold tgetP; rw [if_neg (by simp), gb, if_neg (by simp), if_pos rfl]
  have la := Lea.page_length (s := s) (k := k) ha
  have lb := Lea.page_length (s := s') (k := k) hb
  rw [hr2]
  by_cases hlo : keep ≤ 0
  · have : Fla.clamp keep = 0 := by unfold Fla.clamp; omega
    rw [this]
    refine .inr (.inl ?_)
    rw [show Lea.cutAt (Lea.page s' k b) (Lea.page s k a) 0 = Lea.page s k a by simp [Lea.cutAt]]
    exact hA
  · by_cases hhi : 256 ≤ keep
    · have : Fla.clamp keep = 256 := by unfold Fla.clamp; omega
      rw [this]
      refine .inr (.inr ?_)
      rw [show Lea.cutAt (Lea.page s' k b) (Lea.page s k a) 256 = Lea.page s' k b by unfold Lea.cutAt; rw [List.take_of_length_le (by omega), List.drop_eq_nil_of_le (by omega), List.append_nil]]
      exact hB
    · rcases Lea.torn_told (s := s') (k := k) (s' := s) (k' := k) ht2 hs2 hne hb ha (Fla.clamp_le keep) with h8 | hx | hx
      · refine .inl ?_
        have : tgetP (Lea.cutAt (Lea.page s' k b) (Lea.page s k a) (Fla.clamp keep), 0) k = (8, 0, 0, []) := by
          unfold tgetP
          rw [if_neg (by simp), h8, if_pos (by decide)]
        rw [this]
        exact ⟨rfl, by omega, by omega, rfl⟩
      · rw [hx]; exact .inr (.inr hB)
      · rw [hx]; exact .inr (.inl hA)
end Go.Proofs.YtkbfihnoohhojaaGreatDoor

namespace Go.Proofs.YtkbfihnoohhojaaGreatDoor.Lea
open Go.RowKit

theorem Tryz.size24 : (Tryz.prog.info? 50).map (·.size) = some 3 := by kernel_rfl
theorem Tryz.und24 : ∃ fs, Tryz.prog.underlying 50 = some (.struct fs) := ⟨Tryz.prog.fieldsOf 50, by kernel_rfl⟩
theorem grown_setRow (w : World) (g : Nat) (cs : Array Value) : w.grownBy (w.setRow g cs) (some g) :=
  ⟨rfl, rfl, rfl, by simp [World.setRow], fun k _ hk => setRow_other w g k cs (by intro e; exact hk (by rw [e]))⟩
theorem run_st24 {w : World} {b : Nat} {c : Array Value} {x0 x1 x2 : Value} (hw : w.heap[b]? = some (.cells c 50 (0, 0))) (hc : c.size = 3) (h1 : x0.oneCell' = true ∧ x1.oneCell' = true ∧ x2.oneCell' = true) :
    (Instr.storeAt 50 (.pointer (some ⟨b, 0, none⟩)) (.agg #[x0, x1, x2])).run Tryz.prog w = .ok () (w.setRow b #[x0, x1, x2]) := by
  have h2 : (#[x0, x1, x2] : Array Value).all (·.oneCell') = true := by simp [h1]
  simp only [Instr.storeAt, Instr.sureAddr, Sem.run_bind, Sem.run_pure, Result.andThen]
  exact run_storeVar_row _ _ 50 50 c _ hw Tryz.size24 hc h2
section
variable {ops : Array Oper} {rest : List Oper} {op : Oper} {a : Act} {w : World}
theorem st24 {Q : Exit → Act → World → Prop} (hgd : op.guard = none) (x y : Operand) (ho : op.op = .store 50 x y) (b : Nat) (hx : a.eval x = .pointer (some ⟨b, 0, none⟩)) (c : Array Value) (x0 x1 x2 : Value)
    (hw : w.heap[b]? = some (.cells c 50 (0, 0))) (hc : c.size = 3) (hy : a.eval y = .agg #[x0, x1, x2]) (h1 : x0.oneCell' = true ∧ x1.oneCell' = true ∧ x2.oneCell' = true)
    (h : ∀ w', w'.heap[b]? = some (.cells #[x0, x1, x2] 50 (0, 0)) → w.grownBy w' (some b) → wpList Tryz.prog ops Q rest (a.put op.dst undef) w') : wpList Tryz.prog ops Q (op :: rest) a w := by
  refine wpList_plain hgd fun K hK => ?_
  unfold Oper.wp execOp
  simp only [ho, hx, hy, Sem.run_bind, run_st24 hw hc h1, Result.andThen_ok, Sem.run_pure]
  exact hK _ _ (h _ (setRow_heap w b c _ 50 (0, 0) hw) (grown_setRow w b _))
theorem step_st24 {K : Act → World → Prop} {Q : Exit → Act → World → Prop} {E : Prop} (hgd : op.guard = none) (x y : Operand) (ho : op.op = .store 50 x y) (b : Nat) (hx : a.eval x = .pointer (some ⟨b, 0, none⟩)) (c : Array Value) (x0 x1 x2 : Value)
    (hw : w.heap[b]? = some (.cells c 50 (0, 0))) (hc : c.size = 3) (hy : a.eval y = .agg #[x0, x1, x2]) (h1 : x0.oneCell' = true ∧ x1.oneCell' = true ∧ x2.oneCell' = true)
    (h : ∀ w', w'.heap[b]? = some (.cells #[x0, x1, x2] 50 (0, 0)) → w.grownBy w' (some b) → K (a.put op.dst undef) w') :
    if Region.wanted op (yielded ops a.tmps) = true then Oper.wp Tryz.prog op a w K Q else E := by
  have hwt : Region.wanted op (yielded ops a.tmps) = true := by simp [Region.wanted, hgd]
  rw [if_pos hwt]
  unfold Oper.wp execOp
  simp only [ho, hx, hy, Sem.run_bind, run_st24 hw hc h1, Result.andThen_ok, Sem.run_pure]
  exact h _ (setRow_heap w b c _ 50 (0, 0) hw) (grown_setRow w b _)
end
theorem load24 (w : World) (b : Nat) (x0 x1 x2 : Value) (t : TypeId) (fr : Nat × Nat) (hc : w.heap[b]? = some (.cells #[x0, x1, x2] t fr)) : (loadVar 50 ⟨b, 0, none⟩).run Tryz.prog w = .ok (.agg #[x0, x1, x2]) w := by
  obtain ⟨fs, hu⟩ := Tryz.und24
  exact run_loadVar_row (P := Tryz.prog) w b t 50 _ fr _ hc hu rfl Tryz.size24
theorem results24 {fn : Func} {p u : Tmp} (h : fn.results = #[.cell p 50, .tmp u]) (tmps : Array Value) (w : World) (b : Nat) (ht : tmps.getD p undef = .pointer (some ⟨b, 0, none⟩)) (x0 x1 x2 : Value) (t : TypeId) (fr : Nat × Nat)
    (hc : w.heap[b]? = some (.cells #[x0, x1, x2] t fr)) (y : Value) (hy : tmps.getD u undef = y) : (results fn tmps).run Tryz.prog w = .ok (.tuple #[.agg #[x0, x1, x2], y]) w := by
  rw [results_cell_tmp h, ht, hy]
  simp only [asAddr, Sem.run_pure, Result.andThen_ok, load24 w b x0 x1 x2 t fr hc]

theorem _root_.Go.Proofs.YtkbfihnoohhojaaGreatDoor.Lk.box {w w' : World} {v : Value} {ls : List Lnk} {b : Nat} {c : Array Value} (h : Lk w v ls) (hb : w.heap[b]? = some (.cells c 50 (0, 0))) (hg : w.grownBy w' (some b)) : Lk w' v ls := by
  induction ls generalizing v with
  | nil => exact h
  | cons l r ih =>
    obtain ⟨op, a, cc⟩ := l
    obtain ⟨b1, u, h1, h2, h3⟩ := h
    refine ⟨b1, u, h1, ?_, ih h3⟩
    refine heap_grownBy h2 hg ?_
    intro e
    cases e
    rw [hb] at h2
    cases h2
theorem fault_box {w w' : World} {v : Value} {code : Int} {b : Nat} {c : Array Value} (h : Fault w v code) (hb : w.heap[b]? = some (.cells c 50 (0, 0))) (hg : w.grownBy w' (some b)) : Fault w' v code := by
  rcases h with h | ⟨h1, dn, op, a, p, h2, h3, h4⟩
  · exact .inl h
  · exact .inr ⟨h1, dn, op, a, p, h2.box hb hg, h3, h4⟩

/-- What Get leaves, and answers: a leaf, and an error of this code. -/
def GetAt (w w' : World) (v : Value) (r : Int × Nat × Nat × List Nat) : Prop :=
  ∃ b' p' cap' u, w.heap.size ≤ b' ∧ v = .tuple #[.agg #[.int .i64 (r.2.1 : Int), .int .i64 (r.2.2.1 : Int), .slice p' r.2.2.2.length cap'], u] ∧ SlAt w' b' (.slice p' r.2.2.2.length cap') (U r.2.2.2) ∧ Fault w' u r.1 ∧ Below w.heap.size w w'
theorem GetAt.err {w w1 w' : World} {u : Value} {code : Int} {c : Array Value} (hf : Fault w1 u code) (hb : Below w.heap.size w w1) (hx : w1.heap[w.heap.size]? = some (.cells c 50 (0, 0))) (hg : w1.grownBy w' (some w.heap.size)) :
    GetAt w w' (.tuple #[.agg #[.int .i64 0, .int .i64 0, .slice none 0 0], u]) (code, 0, 0, []) :=
  ⟨w.heap.size, none, 0, u, Nat.le_refl _, rfl, SlAt.nil _ _, fault_box hf hx hg, hb.grown hg hb.size (fun k hk => by cases hk; exact Nat.le_refl _)⟩
/-- The same of the document's Get. -/
def RGetAt (w w' : World) (v : Value) (r : Int × Nat × Nat × List Nat) : Prop :=
  ∃ b' p' cap', v = .tuple #[.agg #[.int .i64 (r.2.1 : Int), .int .i64 (r.2.2.1 : Int), .slice p' r.2.2.2.length cap'], .int .i64 r.1] ∧ SlAt w' b' (.slice p' r.2.2.2.length cap') (U r.2.2.2) ∧ Below w.heap.size w w'
theorem RGetAt.err {w w1 w' : World} {code : Int} (hb : Below w.heap.size w w1) (hg : w1.grownBy w' (some w.heap.size)) :
    RGetAt w w' (.tuple #[.agg #[.int .i64 0, .int .i64 0, .slice none 0 0], .int .i64 code]) (code, 0, 0, []) :=
  ⟨0, none, 0, rfl, SlAt.nil _ _, hb.grown hg hb.size (fun k hk => by cases hk; exact Nat.le_refl _)⟩
theorem or_i64 (n d : Int) (h0 : 0 ≤ n) (h1 : n ≤ 1000) (h2 : 0 ≤ d) (h3 : d < 256) : bits .or .i64 (n * 256) d = n * 256 + d :=
  bits_join .i64 63 (by decide) (fun x a b => by rw [IntKind.wrap_i64]; simp at b; omega) 8 (n * 256) d (by omega) (by simp) (by simp; omega) h2 (by simpa using h3) (by simp; omega)
theorem at_page {l : List Nat} (h : l.length = 256) (hb : Byt l) (i : Nat) (hi : i < 256) : ∃ x, l[i]? = some x ∧ l.getD i 0 = x ∧ x < 256 := by
  refine ⟨l[i]'(by omega), List.getElem?_eq_getElem _, ?_, hb _ (List.getElem_mem _)⟩
  rw [List.getD_eq_getElem?_getD, List.getElem?_eq_getElem (by omega)]; rfl
end Go.Proofs.YtkbfihnoohhojaaGreatDoor.Lea

namespace Go.Proofs.YtkbfihnoohhojaaGreatDoor
open Go.RowKit Go.Extern.Stop Go.Stop Go.Extern

/-- An error under at most so many wraps. -/
def FltN (k : Nat) (w : World) (v : Value) (code : Int) : Prop := (code = 0 ∧ v = .nilIface) ∨ (code ≠ 0 ∧ ∃ dn op a p, Lk w v (dn ++ [(op, a, code)]) ∧ dn.length ≤ k ∧ v = .iface 113 (.pointer (some p)))
theorem FltN.nil (k : Nat) (w : World) : FltN k w .nilIface 0 := .inl ⟨rfl, rfl⟩
theorem FltN.none {k : Nat} {w : World} {v : Value} (h : FltN k w v 0) : v = .nilIface := by
  rcases h with ⟨_, h⟩ | ⟨h, _⟩
  · exact h
  · exact absurd rfl h
theorem FltN.some {k : Nat} {w : World} {v : Value} {code : Int} (h : FltN k w v code) (hc : code ≠ 0) : ∃ p, v = .iface 113 (.pointer (some p)) := by
  rcases h with ⟨h, _⟩ | ⟨_, _, _, _, p, _, _, h⟩
  · exact absurd h hc
  · exact ⟨p, h⟩
theorem FltN.below {k : Nat} {w w' : World} {v : Value} {code : Int} (h : FltN k w v code) (hb : Below w.heap.size w w') : FltN k w' v code := by
  rcases h with h | ⟨h1, dn, op, a, p, h2, h3, h4⟩
  · exact .inl h
  · exact .inr ⟨h1, dn, op, a, p, h2.stays hb, h3, h4⟩
theorem FltN.more {k k' : Nat} {w : World} {v : Value} {code : Int} (h : FltN k w v code) (hk : k ≤ k') : FltN k' w v code := by
  rcases h with h | ⟨h1, dn, op, a, p, h2, h3, h4⟩
  · exact .inl h
  · exact .inr ⟨h1, dn, op, a, p, h2, by omega, h4⟩
theorem FltN.of_lea {w : World} {v : Value} {code : Int} (h : Lea.Fault w v code) : FltN 10 w v code := h
theorem FltN.of_base {w : World} {v : Value} {code : Int} (h : Fault w v code) : FltN 10 w v code := h
theorem FltN.of_fla {w : World} {v : Value} {code : Int} (h : Fla.Fault w v code) : FltN 10 w v code := by
  rcases h with h | ⟨h, b, op, a, rfl, hh⟩
  · exact .inl h
  · exact .inr ⟨h, [], op, a, _, Lk.cons b op a code .nilIface [] hh (Lk.nil _), by simp, rfl⟩
theorem of_n {k : Nat} {w : World} {v : Value} {code : Int} (hk : k < 1000) (hg : ErrT w) (h : FltN k w v code) : Calls Tryz.prog 10 #[v] w fun e w' => e = .returned (.int .i64 code) ∧ Below w.heap.size w w' := by
  rcases h with ⟨rfl, rfl⟩ | ⟨_, dn, op, a, p, h2, h3, _⟩
  · exact of_nil w hg
  · exact of_some w hg h2 (by omega)
theorem wrap_n {k : Nat} {w : World} {v : Value} {code : Int} (op : ByteArray) (at_ : Int) (h : FltN k w v code) :
    Calls Tryz.prog 37 #[.string op, .int .i64 at_, v] w fun e w' => ∃ u, e = .returned u ∧ FltN (k + 1) w' u code ∧ Below w.heap.size w w' := by
  rcases h with ⟨rfl, rfl⟩ | ⟨hc, dn, o, a, p, h1, h2, rfl⟩
  · exact (Lea.wrap_nil op at_ w).mono fun e w' ⟨h3, h4⟩ => by subst h4; exact ⟨_, h3, .inl ⟨rfl, rfl⟩, Below.refl _ _⟩
  · refine (Lea.wrap_some op at_ p w).mono fun e w' ⟨h3, h4⟩ => ?_
    subst h4
    refine ⟨_, h3, .inr ⟨hc, (op, at_, 0) :: dn, o, a, ⟨w.heap.size, 0, none⟩, ?_, by simp; omega, rfl⟩, by go_grown⟩
    exact Lk.cons w.heap.size op at_ 0 _ _ (heap_alloc_new w _) (h1.stays (by go_grown))

/-- What stays where a ticket's calls write: what lies below B, and all rows but those of a device and of a ticket. -/
structure Fs (B : Nat) (w w' : World) : Prop where
  os : w'.os = w.os
  tape : w'.tape = w.tape
  output : w'.output = w.output
  size : w.heap.size ≤ w'.heap.size
  low : ∀ k, k < w.heap.size → k < B → w'.heap[k]? = w.heap[k]?
  stat : ∀ (k : Nat) (cs : Array Value) (e : TypeId) (fr : Nat × Nat), w.heap[k]? = some (Obj.cells cs e fr) → e ≠ 74 → e ≠ 101 → e ≠ 59 → w'.heap[k]? = w.heap[k]?
theorem Fs.of {B : Nat} {w w' : World} (h : Fla.Fr B w w') : Fs B w w' := ⟨h.os, h.tape, h.output, h.size, h.low, fun k cs e fr h1 h2 h3 _ => h.stat k cs ⟨e, fr, h1, h2, h3⟩⟩
theorem Fs.refl (B : Nat) (w : World) : Fs B w w := Fs.of (Fla.Fr.refl B w)
theorem Fs.trans {B : Nat} {w w1 w2 : World} (h : Fs B w w1) (k : Fs B w1 w2) : Fs B w w2 :=
  ⟨k.os.trans h.os, k.tape.trans h.tape, k.output.trans h.output, Nat.le_trans h.size k.size,
    fun i hi hb => (k.low i (Nat.lt_of_lt_of_le hi h.size) hb).trans (h.low i hi hb),
    fun i cs e fr h1 h2 h3 h4 => (k.stat i cs e fr ((h.stat i cs e fr h1 h2 h3 h4).trans h1) h2 h3 h4).trans (h.stat i cs e fr h1 h2 h3 h4)⟩
theorem Fs.below {B : Nat} {w w' : World} (h : Below w.heap.size w w') : Fs B w w' := Fs.of (Fla.Below.fr h)
theorem Fs.mine {B t : Nat} {w w' : World} {cs : Array Value} {fr : Nat × Nat} (ht : w.heap[t]? = some (.cells cs 59 fr)) (hB : B ≤ t) (hg : w.grownBy w' (some t)) : Fs B w w' :=
  ⟨hg.os, hg.tape, hg.output, hg.size, fun k hk hb => hg.block k hk (by intro e; cases e; omega),
    fun k cs' e fr' h1 _ _ h4 => hg.block k (Array.getElem?_eq_some_iff.1 h1).1 (by intro e'; cases e'; rw [ht] at h1; cases h1; exact h4 rfl)⟩
theorem Fs.toBelow {B : Nat} {w w' : World} (h : Fs B w w') (hB : B ≤ w.heap.size) : Below B w w' :=
  ⟨h.os, h.tape, h.output, h.size, fun k hk => h.low k (Nat.lt_of_lt_of_le hk hB) hk⟩
theorem ErrT.fs {B : Nat} {w w' : World} (h : ErrT w) (hf : Fs B w w') (hB : 0 < B) : ErrT w' := by
  have h0 : (0 : Nat) < w.heap.size := lt_of_cell h
  have := hf.low 0 h0 hB
  unfold ErrT at *
  rw [World.cell?_of_block (a := ⟨0, 0, none⟩) this]; exact h
theorem Lk.fs {B : Nat} {w w' : World} {v : Value} {ls : List Lnk} (h : Lk w v ls) (hf : Fs B w w') : Lk w' v ls := by
  induction ls generalizing v with
  | nil => exact h
  | cons l r ih =>
    obtain ⟨op, a, c⟩ := l
    obtain ⟨b, u, h1, h2, h3⟩ := h
    exact ⟨b, u, h1, by rw [hf.stat b _ _ _ h2 (by decide) (by decide) (by decide)]; exact h2, ih h3⟩
theorem FltN.fs {k B : Nat} {w w' : World} {v : Value} {code : Int} (h : FltN k w v code) (hf : Fs B w w') : FltN k w' v code := by
  rcases h with h | ⟨h1, dn, op, a, p, h2, h3, h4⟩
  · exact .inl h
  · exact .inr ⟨h1, dn, op, a, p, h2.fs hf, h3, h4⟩
theorem sl_fs {B b : Nat} {w w' : World} {v : Value} {xs : List Value} (h : Lea.SlAt w b v xs) (hf : Fs B w w') (hb : b < B) : Lea.SlAt w' b v xs := h.keeps hf.size (fun hl => hf.low b hl hb)

/-- Block t is a ticket on the device of block g, with this next stamp. -/
def Tk (w : World) (t g : Nat) (n : Int) : Prop := w.heap[t]? = some (.cells #[.pointer (some ⟨g, 0, none⟩), .int .i64 n] 59 (0, 0))
theorem Tk.below {w w' : World} {t g : Nat} {n : Int} (h : Tk w t g n) (hb : Below w.heap.size w w') : Tk w' t g n := heap_stays h hb
theorem Tk.fr {B : Nat} {w w' : World} {t g : Nat} {n : Int} (h : Tk w t g n) (hf : Fla.Fr B w w') : Tk w' t g n := Fla.heap_fr hf h
theorem Tk.cells {w : World} {t g : Nat} {n : Int} (h : Tk w t g n) : (w.cell? ⟨t, 0, none⟩ = some (.pointer (some ⟨g, 0, none⟩)) ∧ w.cell? ⟨t, 1, none⟩ = some (.int .i64 n)) ∧ ∀ o, w.frozen? ⟨t, o, none⟩ = false := by
  unfold Tk at h
  refine ⟨⟨?_, ?_⟩, ?_⟩ <;> simp [World.cell?, World.frozen?, h]
theorem Tk.lt {w : World} {t g : Nat} {n : Int} (h : Tk w t g n) : t < w.heap.size := (Array.getElem?_eq_some_iff.1 h).1
theorem Tk.next {w : World} {t g : Nat} {n m : Int} (h : Tk w t g n) : Tk (w.setCell ⟨t, 1, none⟩ (.int .i64 m)) t g m ∧ w.grownBy (w.setCell ⟨t, 1, none⟩ (.int .i64 m)) (some t) :=
  ⟨Fla.setCell_heap h _, Fla.setCell_grown h _⟩
/-- A ticket is written. -/
theorem Fl_tick {w w' : World} {B g N b : Nat} {d : Fla.Dev} {c : Array Value} (h : Fla.Fl w B g N d) (hb : w.heap[b]? = some (.cells c 59 (0, 0))) (hg : w.grownBy w' (some b)) : Fla.Fl w' B g N d := by
  obtain ⟨h1, h2, m, wv, n, h3, h4, h5, h6⟩ := h
  refine ⟨h1, h2, m, wv, n, Fla.heap_grown h3 hg (by intro e; cases e; rw [hb] at h3; cases h3), h4.grown hg ?_, h5.kept hg (.inr (Ne.symm (Fla.own_ne h5 hb (by decide)))), h6⟩
  obtain ⟨D, ⟨es, clock, k1, _⟩, _⟩ := h4
  intro e; cases e; rw [hb] at k1; cases k1

/-- Bytes of a device, as leaves see them. -/
theorem bat_sl {w : World} {v : Value} {l : List Nat} (h : Fla.BAt w v l) (hl : 0 < l.length) : ∃ b, Lea.SlAt w b v (Lea.U l) := by
  obtain ⟨b, off, cap, rfl, h1, h2, h3, h4, h5⟩ := h.elem hl
  exact ⟨b, .inr ⟨⟨b, off, none⟩, cap, by rw [Lea.U_length], by rw [Lea.U_length]; exact h1, h2, .inr ⟨off, rfl, h4, h5⟩⟩⟩
/-- Bytes of a leaf in a row of their own, as a device sees them. -/
theorem own_bat {w : World} {B : Nat} {v : Value} {l : List Nat} (h : w.ownsRow B 5 1 v l.length (Lea.U l)) : Fla.BAt w v l := Fla.own_row h (by decide) (by decide)

theorem dev_page {d : Fla.Dev} (h : Fla.DevOk d) (k : Int) : (Fla.lookP d k).length = 256 ∧ Lea.Byt (Fla.lookP d k) := by
  rw [← Fla.lookP_all h]
  exact Fla.layN_ok (fun _ => 256) (fun c hc => ⟨(h.wlen c hc).1, (h.wlen c hc).2.1⟩) (fun k => ⟨h.len k, h.byt k⟩) _ k
theorem all_page {d : Fla.Dev} (h : Fla.DevOk d) : ∀ x ∈ Fla.allP d, x.2.length = 256 ∧ Lea.Byt x.2 := by
  intro x hx
  unfold Fla.allP Fla.cellsP at hx
  obtain ⟨a, _, ha⟩ := List.mem_filterMap.1 hx
  split at ha
  · cases ha
  · cases ha
    exact Fla.layN_ok (fun _ => 256) (fun c hc => ⟨(h.wlen c hc).1, (h.wlen c hc).2.1⟩) (fun k => ⟨h.len k, h.byt k⟩) _ _
theorem plain_at {l : List Fla.Cl} {k : Nat} {x : Fla.Cl} (h : l[k]? = some x) : (Fla.plainC l)[k]? = some (x.1, x.2.2) := by simp [Fla.plainC, h]
end Go.Proofs.YtkbfihnoohhojaaGreatDoor
