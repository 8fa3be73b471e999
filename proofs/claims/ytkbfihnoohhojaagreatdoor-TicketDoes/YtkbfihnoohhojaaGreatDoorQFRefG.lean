/-
  The document's side: Write, Trim, Read, Fuse.
-/
import Derived.Test.YtkbfihnoohhojaaGreatDoorQFRefF
namespace Go.Proofs.YtkbfihnoohhojaaGreatDoor.Fla
open Go.RowKit

/-- A value is, in memory, the document's device; N: so many changes there were at most. -/
def RfAt (w : World) (rv : Value) (r : Rf) (N : Nat) : Prop :=
  ∃ cp cc lp lc cs lo, rv = .agg #[.int .i64 r.pages, .slice cp cs.length cc, .slice lp lo.length lc, .int .i64 r.fuse, .bool r.down, .int .i64 r.done] ∧ CellsAt w (.slice cp cs.length cc) cs ∧ (cp = none → cc = 0) ∧ plainC cs = r.cells ∧ LooseAt w (.slice lp lo.length lc) lo ∧ (lp = none → lc = 0) ∧ plainL lo = r.loose ∧
    cs.length + lo.length ≤ N ∧ 0 ≤ r.done ∧ r.done ≤ N ∧ -9223372036854775808 ≤ r.fuse ∧ r.fuse ≤ 9223372036854775807
theorem RfAt.fr {B : Nat} {w w' : World} {rv : Value} {r : Rf} {N : Nat} (h : RfAt w rv r N) (hf : Fr B w w') : RfAt w' rv r N := by
  obtain ⟨cp, cc, lp, lc, cs, lo, h1, h2, h3, h4, h5, h6⟩ := h
  exact ⟨cp, cc, lp, lc, cs, lo, h1, h2.fr hf, h3, h4, h5.fr hf, h6⟩
theorem RfAt.below {w w' : World} {rv : Value} {r : Rf} {N : Nat} (h : RfAt w rv r N) (hb : Below w.heap.size w w') : RfAt w' rv r N := h.fr (Below.fr (B := 0) hb)
theorem RfAt.box {w w' : World} {rv : Value} {r : Rf} {N b : Nat} {c : Array Value} {fr : Nat × Nat} (h : RfAt w rv r N) (hb : w.heap[b]? = some (.cells c 36 fr)) (hg : w.grownBy w' (some b)) : RfAt w' rv r N := by
  obtain ⟨cp, cc, lp, lc, cs, lo, h1, h2, h3, h4, h5, h6⟩ := h
  exact ⟨cp, cc, lp, lc, cs, lo, h1, h2.box hb hg, h3, h4, h5.box hb hg, h6⟩
theorem RfAt.more {w : World} {rv : Value} {r : Rf} {N N' : Nat} (h : RfAt w rv r N) (hN : N ≤ N') : RfAt w rv r N' := by
  obtain ⟨cp, cc, lp, lc, cs, lo, h1, h2, h3, h4, h5, h6, h7, h8, h9, h10, h11⟩ := h
  exact ⟨cp, cc, lp, lc, cs, lo, h1, h2, h3, h4, h5, h6, h7, by omega, h9, by omega, h11⟩

def bF (fuse : Int) : Int := if fuse < 0 then fuse else fuse - 1
def bD (down : Bool) (fuse : Int) : Bool := if fuse = 0 then true else down
def bG (fuse : Int) : Bool := decide (fuse = 0)
theorem rburns_eq (r : Rf) : rburns r = ({ r with done := r.done + 1, fuse := bF r.fuse, down := bD r.down r.fuse }, bG r.fuse) := by
  unfold rburns bF bD bG
  by_cases h : r.fuse < 0
  · have : r.fuse ≠ 0 := by omega
    simp [h, this]
  · by_cases h0 : r.fuse = 0
    · simp [h0]
    · simp [h, h0]
theorem rburns_all (pages fuse done : Int) (down : Bool) (hd0 : 0 ≤ done) (hd1 : done ≤ 1000) (hf1 : fuse ≤ 9223372036854775807) (cp lp : Option Addr) (cn cc ln lc : Nat) (w : World) :
    Calls Tryz.prog 70 #[.agg #[.int .i64 pages, .slice cp cn cc, .slice lp ln lc, .int .i64 fuse, .bool down, .int .i64 done]] w fun e w' => e = .returned (.tuple #[.agg #[.int .i64 pages, .slice cp cn cc, .slice lp ln lc, .int .i64 (bF fuse), .bool (bD down fuse), .int .i64 (done + 1)], .bool (bG fuse)]) ∧ Below w.heap.size w w' := by
  unfold bF bD bG
  by_cases h : fuse < 0
  · rw [if_pos h, if_neg (by omega), decide_eq_false (by omega)]
    exact rburns_neg pages fuse done down cp lp cn cc ln lc w hd0 hd1 h
  · by_cases h0 : fuse = 0
    · subst h0
      exact rburns_zero pages done down cp lp cn cc ln lc w hd0 hd1
    · rw [if_neg h, if_neg h0, decide_eq_false h0]
      exact rburns_pos pages fuse done down cp lp cn cc ln lc w hd0 hd1 (by omega) hf1
theorem loL_snoc (lo : List Lo) (c : Chg) (v : Value) : loL (lo ++ [(c, v)]) = loL lo ++ [.int .i64 c.at_, v, .bool c.trim] := by simp [loL]

/-- change, over the document's device. -/
theorem change_rf {w : World} {r : Rf} {N : Nat} {cp lp : Option Addr} {cc lc : Nat} {cs : List Cl} {lo : List Lo} (h2 : CellsAt w (.slice cp cs.length cc) cs) (h3 : cp = none → cc = 0) (h4 : plainC cs = r.cells) (h5 : LooseAt w (.slice lp lo.length lc) lo) (h6 : lp = none → lc = 0) (h7 : plainL lo = r.loose)
    (h8 : cs.length + lo.length ≤ N) (h9 : 0 ≤ r.done) (h10 : r.done ≤ N) (h11 : -9223372036854775808 ≤ r.fuse) (h12 : r.fuse ≤ 9223372036854775807) (hN : N < 900) (c : Chg) {bp : Option Addr} {bn bc : Nat} (hb : BAt w (.slice bp bn bc) c.p) :
    Calls Tryz.prog 60 #[.agg #[.int .i64 r.pages, .slice cp cs.length cc, .slice lp lo.length lc, .int .i64 r.fuse, .bool r.down, .int .i64 r.done], .agg #[.int .i64 c.at_, .slice bp bn bc, .bool c.trim]] w fun e w' => ∃ x0 x1 x2 x3 x4 x5, e = .returned (.tuple #[.agg #[x0, x1, x2, x3, x4, x5], .int .i64 (rchange r c).2]) ∧ (x0.oneCell' = true ∧ x1.oneCell' = true ∧ x2.oneCell' = true ∧ x3.oneCell' = true ∧ x4.oneCell' = true ∧ x5.oneCell' = true) ∧ RfAt w' (.agg #[x0, x1, x2, x3, x4, x5]) (rchange r c).1 (N + 1) ∧ Below w.heap.size w w' := by
  have hrc : rchange r c = ({ r with loose := r.loose ++ [c], done := r.done + 1, fuse := bF r.fuse, down := bD r.down r.fuse }, if bG r.fuse = true then 11 else 0) := by
    unfold rchange; rw [rburns_eq]
  rw [hrc]
  refine (change_any h5 h6 (by omega) h9 (by omega) .nilIface (if bG r.fuse = true then 11 else 0) (bG r.fuse) rfl (bF r.fuse) (r.done + 1) (bD r.down r.fuse) (fun p n k w => rburns_all r.pages r.fuse r.done r.down h9 (by omega) h12 cp p cs.length cc n k w)).mono ?_
  rintro e w' ⟨p, k, rfl, hown, hbw⟩
  refine ⟨_, _, _, _, _, _, rfl, ⟨rfl, rfl, rfl, rfl, rfl, rfl⟩, ⟨cp, cc, p, k, cs, lo ++ [(c, .slice bp bn bc)], by simp, h2.below hbw, h3, h4, ⟨?_, ?_⟩, ?_, ?_, ?_, ?_, ?_, ?_, ?_⟩, hbw⟩
  · rw [loL_snoc]
    have := own_row hown (by decide) (by decide)
    simpa using this
  · intro x hx
    rcases List.mem_append.1 hx with hx | hx
    · exact (h5.2 x hx).below hbw
    · simp at hx; subst hx; exact hb.below hbw
  · intro e; exact own_nilok hown _ _ (by rw [e])
  · show plainL (lo ++ [(c, _)]) = r.loose ++ [c]; rw [← h7]; simp [plainL]
  · simp; omega
  · show 0 ≤ r.done + 1; omega
  · show r.done + 1 ≤ ((N + 1 : Nat) : Int); omega
  · show _ ≤ bF r.fuse; unfold bF; split <;> omega
  · show bF r.fuse ≤ _; unfold bF; split <;> omega
theorem rcheck_eq (r : Rf) (at_ : Int) : rcheck r at_ = if r.down = true then 11 else if at_ < 0 ∨ r.pages ≤ at_ then 2 else 0 := rfl

theorem rcheck_zero {r : Rf} {at_ : Int} (h : rcheck r at_ = 0) : r.down = false ∧ 0 ≤ at_ ∧ at_ < r.pages := by
  unfold rcheck at h
  cases hd : r.down
  · rw [hd] at h
    simp at h
    exact ⟨rfl, by omega, by omega⟩
  · rw [hd] at h; simp at h
set_option maxHeartbeats 2000000 in
set_option maxRecDepth 10000 in
theorem rtrim_any {w : World} {rv : Value} {r : Rf} {N : Nat} (hR : RfAt w rv r N) (hN : N < 900) (at_ : Int) :
    Calls Tryz.prog 48 #[rv, .int .i64 at_] w fun e w' => ∃ rv', e = .returned (.tuple #[rv', .int .i64 (rtrim r at_).2]) ∧ RfAt w' rv' (rtrim r at_).1 (N + 1) ∧ Below w.heap.size w w' := by
  obtain ⟨cp, cc, lp, lc, cs, lo, rfl, h2, h3, h4, h5, h6, h7, h8, h9, h10, h11, h12⟩ := hR
  have X0 : Hid (((w.alloc (.cells #[.int .i64 r.pages, .slice cp cs.length cc, .slice lp lo.length lc, .int .i64 r.fuse, .bool r.down, .int .i64 r.done] 36)).alloc (.cells #[.int .i64 0, .slice none 0 0, .slice none 0 0, .int .i64 0, .bool false, .int .i64 0] 36)).heap[w.heap.size]? = some (.cells #[.int .i64 r.pages, .slice cp cs.length cc, .slice lp lo.length lc, .int .i64 r.fuse, .bool r.down, .int .i64 r.done] 36 (0, 0))) := heap_alloc_old (heap_alloc_last _ _) _
  have X1 : Hid (((w.alloc (.cells #[.int .i64 r.pages, .slice cp cs.length cc, .slice lp lo.length lc, .int .i64 r.fuse, .bool r.down, .int .i64 r.done] 36)).alloc (.cells #[.int .i64 0, .slice none 0 0, .slice none 0 0, .int .i64 0, .bool false, .int .i64 0] 36)).heap[w.heap.size + 1]? = some (.cells #[.int .i64 0, .slice none 0 0, .slice none 0 0, .int .i64 0, .bool false, .int .i64 0] 36 (0, 0))) := by
    have := heap_alloc_last (w.alloc (.cells #[.int .i64 r.pages, .slice cp cs.length cc, .slice lp lo.length lc, .int .i64 r.fuse, .bool r.down, .int .i64 r.done] 36)) (.cells #[.int .i64 0, .slice none 0 0, .slice none 0 0, .int .i64 0, .bool false, .int .i64 0] 36)
    show _ = _
    simpa using this
  have HBW : Hid (Below w.heap.size w ((w.alloc (.cells #[.int .i64 r.pages, .slice cp cs.length cc, .slice lp lo.length lc, .int .i64 r.fuse, .bool r.down, .int .i64 r.done] 36)).alloc (.cells #[.int .i64 0, .slice none 0 0, .slice none 0 0, .int .i64 0, .bool false, .int .i64 0] 36))) := by show Below _ _ _; go_grown
  have KC := check_any r.pages r.fuse r.done r.down cp lp cs.length cc lo.length lc at_ ((w.alloc (.cells #[.int .i64 r.pages, .slice cp cs.length cc, .slice lp lo.length lc, .int .i64 r.fuse, .bool r.down, .int .i64 r.done] 36)).alloc (.cells #[.int .i64 0, .slice none 0 0, .slice none 0 0, .int .i64 0, .bool false, .int .i64 0] 36))
  rw [← rcheck_eq] at KC
  unfold rtrim
  by_cases hc : rcheck r at_ = 0
  · rw [if_pos hc]
    rw [hc] at KC
    have HKC : Hid (Calls Tryz.prog 59 #[.agg #[.int .i64 r.pages, .slice cp cs.length cc, .slice lp lo.length lc, .int .i64 r.fuse, .bool r.down, .int .i64 r.done], .int .i64 at_] ((w.alloc (.cells #[.int .i64 r.pages, .slice cp cs.length cc, .slice lp lo.length lc, .int .i64 r.fuse, .bool r.down, .int .i64 r.done] 36)).alloc (.cells #[.int .i64 0, .slice none 0 0, .slice none 0 0, .int .i64 0, .bool false, .int .i64 0] 36)) _) := KC
    clear KC hc
    go_enter Tryz.func48, Tryz.ntmps48
    go_wp2_with (first | (go_at_call 59; refine (show Calls _ _ _ _ _ from HKC).mono ?_; rintro e w2 ⟨rfl, hb2⟩; have y0 := heap_stays X0.out hb2; have y1 := heap_stays X1.out hb2; obtain ⟨⟨d0, d1, d2, d3, d4, d5⟩, _⟩ := six' y0; have hs2 : w.heap.size + 1 < w2.heap.size := (Array.getElem?_eq_some_iff.1 y1).1; have Y1 := hid2 y1; have HB2 : Hid (Below w.heap.size w w2) := HBW.out.trans (hb2.mono HBW.out.size); clear y0 y1 hb2) | (go_at_call 60; refine (change_rf (h2.below HB2.out) h3 h4 (h5.below HB2.out) h6 h7 h8 h9 h10 h11 h12 hN ⟨at_, true, []⟩ (BAt.nil _)).mono ?_; rintro e w5 ⟨x0, x1, x2, x3, x4, x5, rfl, hone, hrf, hb5⟩; have Y5 := hid2 (heap_stays Y1.out hb5); have HO5 := hid2 hone; have HR5 := hid2 hrf; have HB5 := hid2 (HB2.out.trans (hb5.mono HB2.out.size)); have hs5 : w.heap.size + 1 < w5.heap.size := (Array.getElem?_eq_some_iff.1 Y5.out).1; clear hone hrf hb5 d0 d1 d2 d3 d4 d5) | (refine st33 rfl (.tmp 4) (.tmp 18) rfl (w.heap.size + 1) rfl _ x0 x1 x2 x3 x4 x5 Y5.out rfl rfl HO5.out ?_; intro w6 hw6 hg6))
    refine bodyPost_ret (v := .tuple #[.agg #[x0, x1, x2, x3, x4, x5], .int .i64 (rchange r ⟨at_, true, []⟩).2]) ?_ rfl ?_
    · exact results33 Tryz.results48 _ _ (w.heap.size + 1) rfl _ _ _ _ _ _ 36 (0, 0) hw6 _ rfl
    · exact ⟨_, rfl, HR5.out.box Y5.out hg6, HB5.out.trans (grown_below hg6 (by omega) HB5.out.size)⟩
  · rw [if_neg hc]
    have hq : (rcheck r at_ == 0) = false := by simpa using hc
    generalize rcheck r at_ = code at *
    have HKC : Hid (Calls Tryz.prog 59 #[.agg #[.int .i64 r.pages, .slice cp cs.length cc, .slice lp lo.length lc, .int .i64 r.fuse, .bool r.down, .int .i64 r.done], .int .i64 at_] ((w.alloc (.cells #[.int .i64 r.pages, .slice cp cs.length cc, .slice lp lo.length lc, .int .i64 r.fuse, .bool r.down, .int .i64 r.done] 36)).alloc (.cells #[.int .i64 0, .slice none 0 0, .slice none 0 0, .int .i64 0, .bool false, .int .i64 0] 36)) _) := KC
    clear KC hc
    go_enter Tryz.func48, Tryz.ntmps48
    go_wp2_with (first | (go_at_call 59; refine (show Calls _ _ _ _ _ from HKC).mono ?_; rintro e w2 ⟨rfl, hb2⟩; have y0 := heap_stays X0.out hb2; have y1 := heap_stays X1.out hb2; obtain ⟨⟨d0, d1, d2, d3, d4, d5⟩, _⟩ := six' y0; have hs2 : w.heap.size + 1 < w2.heap.size := (Array.getElem?_eq_some_iff.1 y1).1; have Y1 := hid2 y1; have HB2 : Hid (Below w.heap.size w w2) := HBW.out.trans (hb2.mono HBW.out.size); clear y0 y1 hb2) | (refine st33 rfl (.tmp 4) (.tmp 12) rfl (w.heap.size + 1) rfl _ _ _ _ _ _ _ Y1.out rfl rfl ⟨rfl, rfl, rfl, rfl, rfl, rfl⟩ ?_; intro w6 hw6 hg6))
    have HB6 : Hid (Below w.heap.size w w6) := HB2.out.trans (grown_below hg6 (by omega) HB2.out.size)
    refine bodyPost_ret (v := .tuple #[.agg #[.int .i64 r.pages, .slice cp cs.length cc, .slice lp lo.length lc, .int .i64 r.fuse, .bool r.down, .int .i64 r.done], .int .i64 code]) ?_ rfl ?_
    · exact results33 Tryz.results48 _ _ (w.heap.size + 1) rfl _ _ _ _ _ _ 36 (0, 0) hw6 _ rfl
    · exact ⟨_, rfl, RfAt.more (RfAt.below ⟨cp, cc, lp, lc, cs, lo, rfl, h2, h3, h4, h5, h6, h7, h8, h9, h10, h11, h12⟩ HB6.out) (by omega), HB6.out⟩

set_option maxHeartbeats 2000000 in
set_option maxRecDepth 10000 in
theorem rwrite_any {w : World} {rv : Value} {r : Rf} {N : Nat} (hR : RfAt w rv r N) (hN : N < 900) (at_ : Int) {bv : Value} {b : List Nat} (hb : BAt w bv b) :
    Calls Tryz.prog 34 #[rv, .int .i64 at_, bv] w fun e w' => ∃ rv', e = .returned (.tuple #[rv', .int .i64 (rwrite r at_ b).2]) ∧ RfAt w' rv' (rwrite r at_ b).1 (N + 1) ∧ Below w.heap.size w w' := by
  obtain ⟨cp, cc, lp, lc, cs, lo, rfl, h2, h3, h4, h5, h6, h7, h8, h9, h10, h11, h12⟩ := hR
  have X0 : Hid (((w.alloc (.cells #[.int .i64 r.pages, .slice cp cs.length cc, .slice lp lo.length lc, .int .i64 r.fuse, .bool r.down, .int .i64 r.done] 36)).alloc (.cells #[.int .i64 0, .slice none 0 0, .slice none 0 0, .int .i64 0, .bool false, .int .i64 0] 36)).heap[w.heap.size]? = some (.cells #[.int .i64 r.pages, .slice cp cs.length cc, .slice lp lo.length lc, .int .i64 r.fuse, .bool r.down, .int .i64 r.done] 36 (0, 0))) := heap_alloc_old (heap_alloc_last _ _) _
  have X1 : Hid (((w.alloc (.cells #[.int .i64 r.pages, .slice cp cs.length cc, .slice lp lo.length lc, .int .i64 r.fuse, .bool r.down, .int .i64 r.done] 36)).alloc (.cells #[.int .i64 0, .slice none 0 0, .slice none 0 0, .int .i64 0, .bool false, .int .i64 0] 36)).heap[w.heap.size + 1]? = some (.cells #[.int .i64 0, .slice none 0 0, .slice none 0 0, .int .i64 0, .bool false, .int .i64 0] 36 (0, 0))) := by
    have := heap_alloc_last (w.alloc (.cells #[.int .i64 r.pages, .slice cp cs.length cc, .slice lp lo.length lc, .int .i64 r.fuse, .bool r.down, .int .i64 r.done] 36)) (.cells #[.int .i64 0, .slice none 0 0, .slice none 0 0, .int .i64 0, .bool false, .int .i64 0] 36)
    show _ = _
    simpa using this
  have HBW : Hid (Below w.heap.size w ((w.alloc (.cells #[.int .i64 r.pages, .slice cp cs.length cc, .slice lp lo.length lc, .int .i64 r.fuse, .bool r.down, .int .i64 r.done] 36)).alloc (.cells #[.int .i64 0, .slice none 0 0, .slice none 0 0, .int .i64 0, .bool false, .int .i64 0] 36))) := by show Below _ _ _; go_grown
  have KC := check_any r.pages r.fuse r.done r.down cp lp cs.length cc lo.length lc at_ ((w.alloc (.cells #[.int .i64 r.pages, .slice cp cs.length cc, .slice lp lo.length lc, .int .i64 r.fuse, .bool r.down, .int .i64 r.done] 36)).alloc (.cells #[.int .i64 0, .slice none 0 0, .slice none 0 0, .int .i64 0, .bool false, .int .i64 0] 36))
  rw [← rcheck_eq] at KC
  obtain ⟨bp, bc, rfl, _, _⟩ := hb.form
  have HBV : Hid (BAt w (.slice bp b.length bc) b) := hb
  clear hb
  unfold rwrite
  by_cases hc : rcheck r at_ = 0
  · rw [if_pos hc]
    rw [hc] at KC
    have HKC : Hid (Calls Tryz.prog 59 #[.agg #[.int .i64 r.pages, .slice cp cs.length cc, .slice lp lo.length lc, .int .i64 r.fuse, .bool r.down, .int .i64 r.done], .int .i64 at_] ((w.alloc (.cells #[.int .i64 r.pages, .slice cp cs.length cc, .slice lp lo.length lc, .int .i64 r.fuse, .bool r.down, .int .i64 r.done] 36)).alloc (.cells #[.int .i64 0, .slice none 0 0, .slice none 0 0, .int .i64 0, .bool false, .int .i64 0] 36)) _) := KC
    clear KC hc
    by_cases hl : b.length = 256
    · rw [if_pos hl]
      have hq : ((b.length : Int) == 256) = true := by simp; omega
      clear hl
      go_enter Tryz.func34, Tryz.ntmps34
      go_wp2_with (first | (go_at_call 59; refine (show Calls _ _ _ _ _ from HKC).mono ?_; rintro e w2 ⟨rfl, hb2⟩; have y0 := heap_stays X0.out hb2; have y1 := heap_stays X1.out hb2; obtain ⟨⟨d0, d1, d2, d3, d4, d5⟩, _⟩ := six' y0; have hs2 : w.heap.size + 1 < w2.heap.size := (Array.getElem?_eq_some_iff.1 y1).1; have Y1 := hid2 y1; have HB2 : Hid (Below w.heap.size w w2) := HBW.out.trans (hb2.mono HBW.out.size); clear y0 y1 hb2) | (go_at_call 60; refine (change_rf (h2.below HB2.out) h3 h4 (h5.below HB2.out) h6 h7 h8 h9 h10 h11 h12 hN ⟨at_, false, b⟩ (HBV.out.below HB2.out)).mono ?_; rintro e w5 ⟨x0, x1, x2, x3, x4, x5, rfl, hone, hrf, hb5⟩; have Y5 := hid2 (heap_stays Y1.out hb5); have HO5 := hid2 hone; have HR5 := hid2 hrf; have HB5 := hid2 (HB2.out.trans (hb5.mono HB2.out.size)); have hs5 : w.heap.size + 1 < w5.heap.size := (Array.getElem?_eq_some_iff.1 Y5.out).1; clear hone hrf hb5 d0 d1 d2 d3 d4 d5) | (refine st33 rfl (.tmp 6) (.tmp 25) rfl (w.heap.size + 1) rfl _ x0 x1 x2 x3 x4 x5 Y5.out rfl rfl HO5.out ?_; intro w6 hw6 hg6))
      refine bodyPost_ret (v := .tuple #[.agg #[x0, x1, x2, x3, x4, x5], .int .i64 (rchange r ⟨at_, false, b⟩).2]) ?_ rfl ?_
      · exact results33 Tryz.results34 _ _ (w.heap.size + 1) rfl _ _ _ _ _ _ 36 (0, 0) hw6 _ rfl
      · exact ⟨_, rfl, HR5.out.box Y5.out hg6, HB5.out.trans (grown_below hg6 (by omega) HB5.out.size)⟩
    · rw [if_neg hl]
      have hq : ((b.length : Int) == 256) = false := by simp; omega
      clear hl
      go_enter Tryz.func34, Tryz.ntmps34
      go_wp2_with (first | (go_at_call 59; refine (show Calls _ _ _ _ _ from HKC).mono ?_; rintro e w2 ⟨rfl, hb2⟩; have y0 := heap_stays X0.out hb2; have y1 := heap_stays X1.out hb2; obtain ⟨⟨d0, d1, d2, d3, d4, d5⟩, _⟩ := six' y0; have hs2 : w.heap.size + 1 < w2.heap.size := (Array.getElem?_eq_some_iff.1 y1).1; have Y1 := hid2 y1; have HB2 : Hid (Below w.heap.size w w2) := HBW.out.trans (hb2.mono HBW.out.size); clear y0 y1 hb2) | (refine st33 rfl (.tmp 6) (.tmp 19) rfl (w.heap.size + 1) rfl _ _ _ _ _ _ _ Y1.out rfl rfl ⟨rfl, rfl, rfl, rfl, rfl, rfl⟩ ?_; intro w6 hw6 hg6))
      have HB6 : Hid (Below w.heap.size w w6) := HB2.out.trans (grown_below hg6 (by omega) HB2.out.size)
      refine bodyPost_ret (v := .tuple #[.agg #[.int .i64 r.pages, .slice cp cs.length cc, .slice lp lo.length lc, .int .i64 r.fuse, .bool r.down, .int .i64 r.done], .int .i64 3]) ?_ rfl ?_
      · exact results33 Tryz.results34 _ _ (w.heap.size + 1) rfl _ _ _ _ _ _ 36 (0, 0) hw6 _ rfl
      · exact ⟨_, rfl, RfAt.more (RfAt.below ⟨cp, cc, lp, lc, cs, lo, rfl, h2, h3, h4, h5, h6, h7, h8, h9, h10, h11, h12⟩ HB6.out) (by omega), HB6.out⟩
  · rw [if_neg hc]
    have hq : (rcheck r at_ == 0) = false := by simpa using hc
    generalize rcheck r at_ = code at *
    have HKC : Hid (Calls Tryz.prog 59 #[.agg #[.int .i64 r.pages, .slice cp cs.length cc, .slice lp lo.length lc, .int .i64 r.fuse, .bool r.down, .int .i64 r.done], .int .i64 at_] ((w.alloc (.cells #[.int .i64 r.pages, .slice cp cs.length cc, .slice lp lo.length lc, .int .i64 r.fuse, .bool r.down, .int .i64 r.done] 36)).alloc (.cells #[.int .i64 0, .slice none 0 0, .slice none 0 0, .int .i64 0, .bool false, .int .i64 0] 36)) _) := KC
    clear KC hc
    go_enter Tryz.func34, Tryz.ntmps34
    go_wp2_with (first | (go_at_call 59; refine (show Calls _ _ _ _ _ from HKC).mono ?_; rintro e w2 ⟨rfl, hb2⟩; have y0 := heap_stays X0.out hb2; have y1 := heap_stays X1.out hb2; obtain ⟨⟨d0, d1, d2, d3, d4, d5⟩, _⟩ := six' y0; have hs2 : w.heap.size + 1 < w2.heap.size := (Array.getElem?_eq_some_iff.1 y1).1; have Y1 := hid2 y1; have HB2 : Hid (Below w.heap.size w w2) := HBW.out.trans (hb2.mono HBW.out.size); clear y0 y1 hb2) | (refine st33 rfl (.tmp 6) (.tmp 14) rfl (w.heap.size + 1) rfl _ _ _ _ _ _ _ Y1.out rfl rfl ⟨rfl, rfl, rfl, rfl, rfl, rfl⟩ ?_; intro w6 hw6 hg6))
    have HB6 : Hid (Below w.heap.size w w6) := HB2.out.trans (grown_below hg6 (by omega) HB2.out.size)
    refine bodyPost_ret (v := .tuple #[.agg #[.int .i64 r.pages, .slice cp cs.length cc, .slice lp lo.length lc, .int .i64 r.fuse, .bool r.down, .int .i64 r.done], .int .i64 code]) ?_ rfl ?_
    · exact results33 Tryz.results34 _ _ (w.heap.size + 1) rfl _ _ _ _ _ _ 36 (0, 0) hw6 _ rfl
    · exact ⟨_, rfl, RfAt.more (RfAt.below ⟨cp, cc, lp, lc, cs, lo, rfl, h2, h3, h4, h5, h6, h7, h8, h9, h10, h11, h12⟩ HB6.out) (by omega), HB6.out⟩

/-- What the document's Read answers. -/
def rreadP (r : Rf) (at_ : Int) : List Nat × Int := if rcheck r at_ = 0 then (rlook r at_, 0) else ([], rcheck r at_)
set_option maxHeartbeats 2000000 in
set_option maxRecDepth 10000 in
theorem rread_any {w : World} {rv : Value} {r : Rf} {N : Nat} (hR : RfAt w rv r N) (at_ : Int) :
    Calls Tryz.prog 39 #[rv, .int .i64 at_] w fun e w' => ∃ v, e = .returned (.tuple #[v, .int .i64 (rreadP r at_).2]) ∧ BAt w' v (rreadP r at_).1 ∧ Below w.heap.size w w' := by
  obtain ⟨cp, cc, lp, lc, cs, lo, rfl, h2, h3, h4, h5, h6, h7, h8, h9, h10, h11, h12⟩ := hR
  have X0 : Hid ((w.alloc (.cells #[.int .i64 r.pages, .slice cp cs.length cc, .slice lp lo.length lc, .int .i64 r.fuse, .bool r.down, .int .i64 r.done] 36)).heap[w.heap.size]? = some (.cells #[.int .i64 r.pages, .slice cp cs.length cc, .slice lp lo.length lc, .int .i64 r.fuse, .bool r.down, .int .i64 r.done] 36 (0, 0))) := heap_alloc_last _ _
  have HBW : Hid (Below w.heap.size w (w.alloc (.cells #[.int .i64 r.pages, .slice cp cs.length cc, .slice lp lo.length lc, .int .i64 r.fuse, .bool r.down, .int .i64 r.done] 36))) := by show Below _ _ _; go_grown
  have KC := check_any r.pages r.fuse r.done r.down cp lp cs.length cc lo.length lc at_ (w.alloc (.cells #[.int .i64 r.pages, .slice cp cs.length cc, .slice lp lo.length lc, .int .i64 r.fuse, .bool r.down, .int .i64 r.done] 36))
  rw [← rcheck_eq] at KC
  have hrl : rlook r at_ = rlookL (plainL lo) at_ (rsafe (plainC cs) at_) := by unfold rlook; rw [h4, h7]
  unfold rreadP
  by_cases hc : rcheck r at_ = 0
  · rw [if_pos hc]
    rw [hc] at KC
    have HKC : Hid (Calls Tryz.prog 59 #[.agg #[.int .i64 r.pages, .slice cp cs.length cc, .slice lp lo.length lc, .int .i64 r.fuse, .bool r.down, .int .i64 r.done], .int .i64 at_] (w.alloc (.cells #[.int .i64 r.pages, .slice cp cs.length cc, .slice lp lo.length lc, .int .i64 r.fuse, .bool r.down, .int .i64 r.done] 36)) _) := KC
    have HRL := hid2 hrl
    clear KC hc hrl
    go_enter Tryz.func39, Tryz.ntmps39
    go_wp2_with (first | (go_at_call 59; refine (show Calls _ _ _ _ _ from HKC).mono ?_; rintro e w2 ⟨rfl, hb2⟩; have y0 := heap_stays X0.out hb2; obtain ⟨⟨d0, d1, d2, d3, d4, d5⟩, _⟩ := six' y0; have hs2 : w.heap.size < w2.heap.size := (Array.getElem?_eq_some_iff.1 y0).1; have HB2 : Hid (Below w.heap.size w w2) := HBW.out.trans (hb2.mono HBW.out.size); clear y0 hb2) | (go_at_call 52; refine (look_any (h2.below HB2.out) (h5.below HB2.out) at_).mono ?_; rintro e w3 ⟨u, rfl, hu, hb3⟩))
    go_ret2
    exact ⟨_, rfl, by rw [HRL.out]; exact hu, HB2.out.trans (hb3.mono HB2.out.size)⟩
  · rw [if_neg hc]
    have hq : (rcheck r at_ == 0) = false := by simpa using hc
    clear hrl
    generalize rcheck r at_ = code at *
    have HKC : Hid (Calls Tryz.prog 59 #[.agg #[.int .i64 r.pages, .slice cp cs.length cc, .slice lp lo.length lc, .int .i64 r.fuse, .bool r.down, .int .i64 r.done], .int .i64 at_] (w.alloc (.cells #[.int .i64 r.pages, .slice cp cs.length cc, .slice lp lo.length lc, .int .i64 r.fuse, .bool r.down, .int .i64 r.done] 36)) _) := KC
    clear KC hc
    go_enter Tryz.func39, Tryz.ntmps39
    go_wp2_with (go_at_call 59; refine (show Calls _ _ _ _ _ from HKC).mono ?_; rintro e w2 ⟨rfl, hb2⟩)
    go_ret2
    exact ⟨_, rfl, BAt.nil _, HBW.out.trans (hb2.mono HBW.out.size)⟩
theorem rfuse_rf {w : World} {rv : Value} {r : Rf} {N : Nat} (hR : RfAt w rv r N) (n : Int) (h0 : -9223372036854775808 ≤ n) (h1 : n ≤ 9223372036854775807) :
    Calls Tryz.prog 22 #[rv, .int .i64 n] w fun e w' => ∃ x0 x1 x2 x3 x4 x5, e = .returned (.agg #[x0, x1, x2, x3, x4, x5]) ∧ (x0.oneCell' = true ∧ x1.oneCell' = true ∧ x2.oneCell' = true ∧ x3.oneCell' = true ∧ x4.oneCell' = true ∧ x5.oneCell' = true) ∧ RfAt w' (.agg #[x0, x1, x2, x3, x4, x5]) (rfuse r n) N ∧ Below w.heap.size w w' := by
  obtain ⟨cp, cc, lp, lc, cs, lo, rfl, h2, h3, h4, h5, h6, h7, h8, h9, h10, h11, h12⟩ := hR
  refine (rfuse_any r.pages r.fuse r.done r.down cp lp cs.length cc lo.length lc n w).mono ?_
  rintro e w' ⟨rfl, hb⟩
  refine ⟨_, _, _, _, _, _, rfl, ⟨rfl, rfl, rfl, rfl, rfl, rfl⟩, ⟨cp, cc, lp, lc, cs, lo, rfl, h2.below hb, h3, h4, h5.below hb, h6, h7, h8, h9, h10, ?_, ?_⟩, hb⟩
  · show _ ≤ (if n < 0 then -1 else n); split <;> omega
  · show (if n < 0 then -1 else n) ≤ _; split <;> omega
end Go.Proofs.YtkbfihnoohhojaaGreatDoor.Fla
