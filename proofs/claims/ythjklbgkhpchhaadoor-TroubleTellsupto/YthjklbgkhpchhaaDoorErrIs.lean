/-
  errors.is, errors.Is at this seat, for faults that are no two together.
-/
import Derived.Test.YthjklbgkhpchhaaDoorIs
namespace Go.Proofs.YthjklbgkhpchhaaDoor
open Go.RowKit Go.Extern.Stop Go.Stop Go.Extern

theorem Tryd.methodComparable (v : Value) (w : World) : (Go.method 253 91 v "Comparable").run Tryd.prog w = .ok (88, v) w := by kernel_rfl
theorem Tryd.comp50 : (Tryd.prog.info? 50).map (·.comparable) = some true := by kernel_rfl
theorem Tryd.size52 : (Tryd.prog.info? 52).map (·.size) = some 4 := by kernel_rfl
theorem Tryd.hasIs (v : Value) (xT : TypeId) (w : World) : (Instr.typeAssert (.iface 50 v) xT 93 true).run Tryd.prog w = .ok (.tuple #[.iface 50 v, .bool true]) w := run_typeAssert_hasB Tryd.underlying93 (by kernel_rfl) v xT w
theorem Tryd.hasUnwrap (v : Value) (xT : TypeId) (w : World) : (Instr.typeAssert (.iface 50 v) xT 96 true).run Tryd.prog w = .ok (.tuple #[.iface 50 v, .bool true]) w := run_typeAssert_hasB Tryd.underlying96 (by kernel_rfl) v xT w
theorem Tryd.methodIs (v : Value) (w : World) : (Go.method 253 50 v "Is").run Tryd.prog w = .ok (78, v) w := by kernel_rfl
theorem Tryd.methodUnwrap (v : Value) (w : World) : (Go.method 253 50 v "Unwrap").run Tryd.prog w = .ok (79, v) w := by kernel_rfl

theorem eql_other (w : World) (b tb : Nat) (ca cb : Array Value) (hne : b ≠ tb) (ha : w.heap[b]? = some (.cells ca 52 (0, 0))) (hb : w.heap[tb]? = some (.cells cb 52 (0, 0))) :
    (binOp .eql 25 (.iface 50 (.pointer (some ⟨b, 0, none⟩))) (.iface 50 (.pointer (some ⟨tb, 0, none⟩)))).run Tryd.prog w = .ok (.bool false) w := by
  obtain ⟨i, hi, hcmp⟩ := Option.map_eq_some_iff.1 Tryd.comp50
  obtain ⟨j, hj, hjs⟩ := Option.map_eq_some_iff.1 Tryd.size52
  exact run_eql_iface_ptr_other (P := Tryd.prog) w Tryd.underlying25 Tryd.underlying50 hi hcmp hj (by rw [hjs]; decide) (fun h => hne (congrArg Addr.block h)) ha hb

/-- Some link has the code. -/
def hits (tc : Int) (ls : List Lnk) : Bool := ls.any fun l => l.2.2 != 0 && l.2.2 == tc

theorem hits_append (tc : Int) (x y : List Lnk) : hits tc (x ++ y) = (hits tc x || hits tc y) := List.any_append
theorem hits_cons (tc : Int) (op : ByteArray) (a c : Int) (y : List Lnk) : hits tc ((op, a, c) :: y) = ((c != 0 && c == tc) || hits tc y) := rfl
theorem hits_nil (tc : Int) : hits tc [] = false := rfl

/-- The target of errors.is: a fault of one link, in a block of its own. -/
structure Tgt (w : World) (tb : Nat) (tc : Int) : Prop where
  lk : ∃ op a, w.heap[tb]? = some (.cells #[.string op, .int .i64 a, .int .i64 tc, .nilIface] 52 (0, 0))
theorem Tgt.stays {w w' : World} {tb : Nat} {tc : Int} (h : Tgt w tb tc) (hb : Below w.heap.size w w') : Tgt w' tb tc := by
  obtain ⟨op, a, h⟩ := h.lk
  exact ⟨op, a, by rw [hb.block tb (Array.getElem?_eq_some_iff.1 h).1]; exact h⟩

/-- x.Is(target), whatever x's code. -/
theorem fis_any (b tb : Nat) (c tc : Int) (w : World) (hg : ErrT w) (h : w.cell? ⟨b, 2, none⟩ = some (.int .i64 c)) (ht : Tgt w tb tc) :
    Calls Tryd.prog 78 #[.pointer (some ⟨b, 0, none⟩), .iface 50 (.pointer (some ⟨tb, 0, none⟩))] w fun e w' => e = .returned (.bool (c != 0 && c == tc)) ∧ Below w.heap.size w w' := by
  obtain ⟨op, a, hh⟩ := ht.lk
  by_cases hc : c = 0
  · subst hc
    exact (fis_zero b _ w h).mono fun e w' ⟨h1, h2⟩ => ⟨by rw [h1]; rfl, h2⟩
  · have hc' : (c != 0) = true := by simpa using hc
    refine (fis_some b c tc _ [] op a w hg h hc' (Lk.cons tb op a tc .nilIface [] hh (Lk.nil _)) (by decide)).mono fun e w' ⟨h1, h2⟩ => ⟨by rw [h1, hc']; rfl, h2⟩

set_option maxHeartbeats 4000000 in
set_option maxRecDepth 10000 in
theorem is_chain {w0 w : World} {v : Value} {ls : List Lnk} (tb : Nat) (tc : Int) (hg : ErrT w) (h : Lk w0 v ls) (hne : ls ≠ []) (hb0 : Below w0.heap.size w0 w) (htb : w0.heap.size ≤ tb) (ht : Tgt w tb tc) :
    Calls Tryd.prog 36 #[v, .iface 50 (.pointer (some ⟨tb, 0, none⟩)), .bool true] w fun e w' => e = .returned (.bool (hits tc ls)) ∧ Below w.heap.size w w' := by
  have hI := Tryd.hasIs
  have hU := Tryd.hasUnwrap
  have mI := Tryd.methodIs
  have mU := Tryd.methodUnwrap
  go_enter Tryd.func36, Tryd.ntmps36
  go_wp2
  go_loopg [0] ls.length (fun k x wr => ∃ pre rest, ls = pre ++ rest ∧ rest ≠ [] ∧ k = rest.length ∧ Lk w0 x rest ∧ hits tc pre = false ∧ Below w.heap.size w wr)
  case atStart => exact ⟨[], ls, rfl, hne, rfl, h, rfl, Below.refl _ _⟩
  case round =>
    obtain ⟨pre, rest, hls, hrest, hk, hx, hpre, hbr⟩ := hrel
    rcases hx.inv with ⟨_, h0⟩ | ⟨b, op, a, c, u, rest, rfl, rfl, hh, hu⟩
    · exact absurd h0 hrest
    · have hsz := hbr.size
      have hh' : w.heap[b]? = some (.cells #[.string op, .int .i64 a, .int .i64 c, u] 52 (0, 0)) := by rw [hb0.block b (Array.getElem?_eq_some_iff.1 hh).1]; exact hh
      have hbl : b < w0.heap.size := (Array.getElem?_eq_some_iff.1 hh).1
      have htw := ht.stays hbr
      have hgr := hg.below hbr
      have hcc : wr.cell? ⟨b, 2, none⟩ = some (.int .i64 c) := (cells52 hh' hbr).2.2.1
      have heq : (binOp .eql 25 (.iface 50 (.pointer (some ⟨b, 0, none⟩))) (.iface 50 (.pointer (some ⟨tb, 0, none⟩)))).run Tryd.prog wr = .ok (.bool false) wr := by
        obtain ⟨top, ta, hht⟩ := htw.lk
        exact eql_other wr b tb _ _ (by omega) (by rw [hbr.block b (Array.getElem?_eq_some_iff.1 hh').1]; exact hh') hht
      have A : Hid (ls = pre ++ (op, a, c) :: rest ∧ gk = ((op, a, c) :: rest).length ∧ hits tc pre = false) := ⟨hls, hk, hpre⟩
      clear hls hk hpre hrest hne
      cases hm : (c != 0 && c == tc) with
      | true =>
        go_wp2_with (go_at_call 78; refine (fis_any b tb c tc _ hgr hcc htw).mono ?_; rw [hm]; rintro e w2 ⟨rfl, hb2⟩)
        go_ret
        refine ⟨?_, hbr.trans (hb2.mono hsz)⟩
        obtain ⟨h1, h2, h3⟩ := A.out
        rw [h1, hits_append, hits_cons, h3, hm]; rfl
      | false =>
        rcases hu.inv with ⟨rfl, rfl⟩ | ⟨b2, op2, a2, c2, u2, rest2, rfl, rfl, hh2, hu2⟩
        · clear hu hx
          go_wp2_with (first
            | (go_at_call 78; refine (fis_any b tb c tc _ hgr hcc htw).mono ?_; rw [hm]; rintro e w2 ⟨rfl, hb2⟩; have hc3 := (cells52 hh' (hbr.trans (hb2.mono hsz))).2.2.2)
            | (go_at_call 79; refine (unwrap_any b _ _ hc3).mono ?_; rintro e w3 ⟨rfl, rfl⟩))
          go_ret
          refine ⟨?_, hbr.trans (hb2.mono hsz)⟩
          obtain ⟨h1, h2, h3⟩ := A.out
          rw [h1, hits_append, hits_cons, h3, hm]; rfl
        · clear hu hx
          go_wp2_with (first
            | (go_at_call 78; refine (fis_any b tb c tc _ hgr hcc htw).mono ?_; rw [hm]; rintro e w2 ⟨rfl, hb2⟩; have hc3 := (cells52 hh' (hbr.trans (hb2.mono hsz))).2.2.2)
            | (go_at_call 79; refine (unwrap_any b _ _ hc3).mono ?_; rintro e w3 ⟨rfl, rfl⟩))
          go_roundg (rest2.length + 1)
          case measure => rw [A.out.2.1]; simp
          case rel =>
            obtain ⟨h1, h2, h3⟩ := A.out
            refine ⟨pre ++ [(op, a, c)], (op2, a2, c2) :: rest2, by rw [h1]; simp, by simp, rfl, Lk.cons b2 op2 a2 c2 u2 rest2 hh2 hu2, ?_, hbr.trans (hb2.mono hsz)⟩
            rw [hits_append, hits_cons, h3, hm]; rfl
end Go.Proofs.YthjklbgkhpchhaaDoor
