/-
  An act, both ways: the acts that end in plain regions.
-/
import Derived.Test.YtkbfihnoohhojaaGreatDoorQOpenF
import Derived.Test.YtkbfihnoohhojaaGreatDoorQFRefI
import Derived.Test.YtkbfihnoohhojaaGreatDoorQFCells
namespace Go.Proofs.YtkbfihnoohhojaaGreatDoor.Fla
open Go.RowKit

theorem heap3h (w : World) (a b c : Obj) : Hid ((((w.alloc a).alloc b).alloc c).heap[w.heap.size]? = some a) ∧ Hid ((((w.alloc a).alloc b).alloc c).heap[w.heap.size + 1]? = some b) ∧ Hid ((((w.alloc a).alloc b).alloc c).heap[w.heap.size + 1 + 1]? = some c) := heap3 w a b c
theorem heap_fr {B : Nat} {w w' : World} (hf : Fr B w w') {b : Nat} {c : Array Value} {t : TypeId} {fr : Nat × Nat} (h : w.heap[b]? = some (.cells c t fr)) (h1 : t ≠ 74 := by decide) (h2 : t ≠ 101 := by decide) : w'.heap[b]? = some (.cells c t fr) := by
  rw [hf.stat b c ⟨t, fr, h, h1, h2⟩]; exact h
theorem Fr.local {B b : Nat} {w w1 w2 : World} (h : Fr B w w1) (hg : w1.grownBy w2 (some b)) (hb : w.heap.size ≤ b) : Fr B w w2 :=
  ⟨hg.os.trans h.os, hg.tape.trans h.tape, hg.output.trans h.output, Nat.le_trans h.size hg.size,
    fun k hk hB => (hg.block k (Nat.lt_of_lt_of_le hk h.size) (by intro e; cases e; omega)).trans (h.low k hk hB),
    fun k cs hs => (hg.block k (Nat.lt_of_lt_of_le hs.lt h.size) (by intro e; cases e; have := hs.lt; omega)).trans (h.stat k cs hs)⟩
theorem Fl.box {w w' : World} {B g N b : Nat} {d : Dev} {c : Array Value} (h : Fl w B g N d) (hb : w.heap[b]? = some (.cells c 36 (0, 0))) (hg : w.grownBy w' (some b)) : Fl w' B g N d := by
  obtain ⟨h1, h2, m, wv, n, h3, h4, h5, h6⟩ := h
  refine ⟨h1, h2, m, wv, n, heap_grown h3 hg (by intro e; cases e; rw [hb] at h3; cases h3), h4.grown hg ?_, h5.kept hg (.inr (Ne.symm (own_ne h5 hb (by decide)))), h6⟩
  obtain ⟨D, ⟨es, clock, k1, _⟩, _⟩ := h4
  intro e; cases e; rw [hb] at k1; cases k1
/-- What an act leaves. -/
def DoneAt (w w' : World) (B g N : Nat) (d : Dev) (rv : Value) : Prop := ∃ r, Fl w' B g N d ∧ RfAt w' rv r N ∧ Sim d r ∧ Fr B w w'
theorem DoneAt.mk' {w w1 w' : World} {B g N b : Nat} {d : Dev} {r : Rf} {rv : Value} {c : Array Value} (h1 : Fl w1 B g N d) (h2 : RfAt w1 rv r N) (h3 : Sim d r) (h4 : Fr B w w1) (hb : w1.heap[b]? = some (.cells c 36 (0, 0))) (hg : w1.grownBy w' (some b)) (hbb : w.heap.size ≤ b) : DoneAt w w' B g N d rv :=
  ⟨r, h1.box hb hg, h2.box hb hg, h3, h4.local hg hbb⟩
theorem sim_ll {d : Dev} {r : Rf} (h : Sim d r) : ∀ c ∈ r.loose, c.trim = false → c.p.length = 256 := h.len
theorem sim_ss {d : Dev} {r : Rf} (h : Sim d r) (hd : DevOk d) : ∀ f k at_, (rsafe (settleN r.cells r.loose f k) at_).length = 256 := by
  intro f k at_
  rw [(h.cells.settles hd.len (h.loosed hd) f k).eq]
  refine layN_len f ?_ hd.len k at_
  intro c hc
  rw [← h.loose] at hc
  exact (hd.wlen c hc).1

end Go.Proofs.YtkbfihnoohhojaaGreatDoor.Fla
