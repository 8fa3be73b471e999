/-
  An act, both ways: the acts that end in plain regions.
-/
import Derived.Test.YtkbfihnoohhojaaDoorQOpenF
import Derived.Test.YtkbfihnoohhojaaDoorQFRefI
import Derived.Test.YtkbfihnoohhojaaDoorQFCells
namespace Go.Proofs.YtkbfihnoohhojaaDoor.Fla
open Go.RowKit

theorem heap3h (w : World) (a b c : Obj) : Hid ((((w.alloc a).alloc b).alloc c).heap[w.heap.size]? = some a) ∧ Hid ((((w.alloc a).alloc b).alloc c).heap[w.heap.size + 1]? = some b) ∧ Hid ((((w.alloc a).alloc b).alloc c).heap[w.heap.size + 1 + 1]? = some c) := heap3 w a b c
theorem heap_fr {B : Nat} {w w' : World} (hf : Fr B w w') {b : Nat} {c : Array Value} {t : TypeId} {fr : Nat × Nat} (h : w.heap[b]? = some (.cells c t fr)) (h1 : t ≠ 68 := by decide) (h2 : t ≠ 85 := by decide) : w'.heap[b]? = some (.cells c t fr) := by
  rw [hf.stat b c ⟨t, fr, h, h1, h2⟩]; exact h
theorem Fr.local {B b : Nat} {w w1 w2 : World} (h : Fr B w w1) (hg : w1.grownBy w2 (some b)) (hb : w.heap.size ≤ b) : Fr B w w2 :=
  ⟨hg.os.trans h.os, hg.tape.trans h.tape, hg.output.trans h.output, Nat.le_trans h.size hg.size,
    fun k hk hB => (hg.block k (Nat.lt_of_lt_of_le hk h.size) (by intro e; cases e; omega)).trans (h.low k hk hB),
    fun k cs hs => (hg.block k (Nat.lt_of_lt_of_le hs.lt h.size) (by intro e; cases e; have := hs.lt; omega)).trans (h.stat k cs hs)⟩
theorem Fl.box {w w' : World} {B g N b : Nat} {d : Dev} {c : Array Value} (h : Fl w B g N d) (hb : w.heap[b]? = some (.cells c 38 (0, 0))) (hg : w.grownBy w' (some b)) : Fl w' B g N d := by
  obtain ⟨h1, h2, m, wv, n, h3, h4, h5, h6⟩ := h
  refine ⟨h1, h2, m, wv, n, heap_grown h3 hg (by intro e; cases e; rw [hb] at h3; cases h3), h4.grown hg ?_, h5.kept hg (.inr (Ne.symm (own_ne h5 hb (by decide)))), h6⟩
  obtain ⟨D, ⟨es, clock, k1, _⟩, _⟩ := h4
  intro e; cases e; rw [hb] at k1; cases k1
/-- What an act leaves. -/
def DoneAt (w w' : World) (B g N : Nat) (d : Dev) (rv : Value) : Prop := ∃ r, Fl w' B g N d ∧ RfAt w' rv r N ∧ Sim d r ∧ Fr B w w'
theorem DoneAt.mk' {w w1 w' : World} {B g N b : Nat} {d : Dev} {r : Rf} {rv : Value} {c : Array Value} (h1 : Fl w1 B g N d) (h2 : RfAt w1 rv r N) (h3 : Sim d r) (h4 : Fr B w w1) (hb : w1.heap[b]? = some (.cells c 38 (0, 0))) (hg : w1.grownBy w' (some b)) (hbb : w.heap.size ≤ b) : DoneAt w w' B g N d rv :=
  ⟨r, h1.box hb hg, h2.box hb hg, h3, h4.local hg hbb⟩
theorem sim_ll {d : Dev} {r : Rf} (h : Sim d r) : ∀ c ∈ r.loose, c.trim = false → c.p.length = 256 := h.len
theorem sim_ss {d : Dev} {r : Rf} (h : Sim d r) (hd : DevOk d) : ∀ f k at_, (rsafe (settleN r.cells r.loose f k) at_).length = 256 := by
  intro f k at_
  rw [(h.cells.settles hd.len (h.loosed hd) f k).eq]
  refine layN_len f ?_ hd.len k at_
  intro c hc
  rw [← h.loose] at hc
  exact (hd.wlen c hc).1

set_option maxHeartbeats 4000000 in
set_option maxRecDepth 10000 in
theorem do_other {w : World} {B g N : Nat} {d : Dev} {r : Rf} {y0 y1 y2 y3 y4 y5 : Value} (hF : Fl w B g N d) (hR : RfAt w (.agg #[y0, y1, y2, y3, y4, y5]) r N) (hS : Sim d r) (hE : ErrT w) (_hB : 0 < B) (_hN : N < 900) (hone : y0.oneCell' = true ∧ y1.oneCell' = true ∧ y2.oneCell' = true ∧ y3.oneCell' = true ∧ y4.oneCell' = true ∧ y5.oneCell' = true)
    (at_ n : Int) (a b : Nat) (kp : Option Addr) (kn kc : Nat) (kind : Int) (k0 : kind ≠ 0) (k1 : kind ≠ 1) (k2 : kind ≠ 2) (k3 : kind ≠ 3) (k4 : kind ≠ 4) (k5 : kind ≠ 5) :
    Calls Tryd.prog 9 #[.pointer (some ⟨g, 0, none⟩), .agg #[y0, y1, y2, y3, y4, y5], .agg #[.int .i64 kind, .int .i64 at_, .int .u8 (a : Int), .int .u8 (b : Int), .int .i64 n, .slice kp kn kc]] w fun e w' => ∃ x0 x1 x2 x3 x4 x5, e = .returned (.tuple #[.agg #[x0, x1, x2, x3, x4, x5], .bool true]) ∧ DoneAt w w' B g (N + 1) d (.agg #[x0, x1, x2, x3, x4, x5]) := by
  obtain ⟨X0, X1, X2⟩ := heap3h w (.cells #[y0, y1, y2, y3, y4, y5] 38) (.cells #[.int .i64 kind, .int .i64 at_, .int .u8 (a : Int), .int .u8 (b : Int), .int .i64 n, .slice kp kn kc] 42) (.cells #[.int .i64 0, .slice none 0 0, .slice none 0 0, .int .i64 0, .bool false, .int .i64 0] 38)
  have HBW : Hid (Below w.heap.size w (((w.alloc (.cells #[y0, y1, y2, y3, y4, y5] 38)).alloc (.cells #[.int .i64 kind, .int .i64 at_, .int .u8 (a : Int), .int .u8 (b : Int), .int .i64 n, .slice kp kn kc] 42)).alloc (.cells #[.int .i64 0, .slice none 0 0, .slice none 0 0, .int .i64 0, .bool false, .int .i64 0] 38))) := by show Below _ _ _; go_grown
  have HF1 : Hid (Fl (((w.alloc (.cells #[y0, y1, y2, y3, y4, y5] 38)).alloc (.cells #[.int .i64 kind, .int .i64 at_, .int .u8 (a : Int), .int .u8 (b : Int), .int .i64 n, .slice kp kn kc] 42)).alloc (.cells #[.int .i64 0, .slice none 0 0, .slice none 0 0, .int .i64 0, .bool false, .int .i64 0] 38)) B g N d) := hF.below HBW.out
  have HR1 : Hid (RfAt (((w.alloc (.cells #[y0, y1, y2, y3, y4, y5] 38)).alloc (.cells #[.int .i64 kind, .int .i64 at_, .int .u8 (a : Int), .int .u8 (b : Int), .int .i64 n, .slice kp kn kc] 42)).alloc (.cells #[.int .i64 0, .slice none 0 0, .slice none 0 0, .int .i64 0, .bool false, .int .i64 0] 38)) (.agg #[y0, y1, y2, y3, y4, y5]) r N) := hR.below HBW.out
  have HE1 : Hid (ErrT (((w.alloc (.cells #[y0, y1, y2, y3, y4, y5] 38)).alloc (.cells #[.int .i64 kind, .int .i64 at_, .int .u8 (a : Int), .int .u8 (b : Int), .int .i64 n, .slice kp kn kc] 42)).alloc (.cells #[.int .i64 0, .slice none 0 0, .slice none 0 0, .int .i64 0, .bool false, .int .i64 0] 38))) := hE.below HBW.out
  have HS := hid2 hS
  have HONE := hid2 hone
  have hlt := hF.lt
  clear hF hR hE hS hone
  have e0 : (kind == 0) = false := by simpa using k0
  have e1 : (kind == 1) = false := by simpa using k1
  have e2 : (kind == 2) = false := by simpa using k2
  have e3 : (kind == 3) = false := by simpa using k3
  have e4 : (kind == 4) = false := by simpa using k4
  have e5 : (kind == 5) = false := by simpa using k5
  clear k0 k1 k2 k3 k4 k5
  go_enter Tryd.func9, Tryd.ntmps9
  go_wp2_with (refine st33 rfl (.tmp 6) (.tmp 127) rfl (w.heap.size + 1 + 1) rfl _ _ _ _ _ _ _ X2.out rfl rfl HONE.out ?_; intro w6 hw6 hg6)
  refine bodyPost_ret (v := .tuple #[.agg #[y0, y1, y2, y3, y4, y5], .bool true]) ?_ rfl ⟨_, _, _, _, _, _, rfl, ?_⟩
  · exact results33 Tryd.results9 _ _ (w.heap.size + 1 + 1) rfl _ _ _ _ _ _ 38 (0, 0) hw6 _ rfl
  · exact DoneAt.mk' (HF1.out.more (by omega)) (HR1.out.more (by omega)) HS.out (Below.fr HBW.out) X2.out hg6 (by omega)

set_option maxHeartbeats 4000000 in
set_option maxRecDepth 10000 in
theorem do_fuse {w : World} {B g N : Nat} {d : Dev} {r : Rf} {y0 y1 y2 y3 y4 y5 : Value} (hF : Fl w B g N d) (hR : RfAt w (.agg #[y0, y1, y2, y3, y4, y5]) r N) (hS : Sim d r) (hE : ErrT w) (_hB : 0 < B) (_hN : N < 900) (hone : y0.oneCell' = true ∧ y1.oneCell' = true ∧ y2.oneCell' = true ∧ y3.oneCell' = true ∧ y4.oneCell' = true ∧ y5.oneCell' = true)
    (at_ n : Int) (a b : Nat) (kp : Option Addr) (kn kc : Nat) (n0 : -9223372036854775808 ≤ n) (n1 : n ≤ 9223372036854775807) :
    Calls Tryd.prog 9 #[.pointer (some ⟨g, 0, none⟩), .agg #[y0, y1, y2, y3, y4, y5], .agg #[.int .i64 4, .int .i64 at_, .int .u8 (a : Int), .int .u8 (b : Int), .int .i64 n, .slice kp kn kc]] w fun e w' => ∃ x0 x1 x2 x3 x4 x5, e = .returned (.tuple #[.agg #[x0, x1, x2, x3, x4, x5], .bool true]) ∧ DoneAt w w' B g (N + 1) (fuseP d n) (.agg #[x0, x1, x2, x3, x4, x5]) := by
  obtain ⟨X0, X1, X2⟩ := heap3h w (.cells #[y0, y1, y2, y3, y4, y5] 38) (.cells #[.int .i64 4, .int .i64 at_, .int .u8 (a : Int), .int .u8 (b : Int), .int .i64 n, .slice kp kn kc] 42) (.cells #[.int .i64 0, .slice none 0 0, .slice none 0 0, .int .i64 0, .bool false, .int .i64 0] 38)
  have HBW : Hid (Below w.heap.size w (((w.alloc (.cells #[y0, y1, y2, y3, y4, y5] 38)).alloc (.cells #[.int .i64 4, .int .i64 at_, .int .u8 (a : Int), .int .u8 (b : Int), .int .i64 n, .slice kp kn kc] 42)).alloc (.cells #[.int .i64 0, .slice none 0 0, .slice none 0 0, .int .i64 0, .bool false, .int .i64 0] 38))) := by show Below _ _ _; go_grown
  have HF1 : Hid (Fl (((w.alloc (.cells #[y0, y1, y2, y3, y4, y5] 38)).alloc (.cells #[.int .i64 4, .int .i64 at_, .int .u8 (a : Int), .int .u8 (b : Int), .int .i64 n, .slice kp kn kc] 42)).alloc (.cells #[.int .i64 0, .slice none 0 0, .slice none 0 0, .int .i64 0, .bool false, .int .i64 0] 38)) B g N d) := hF.below HBW.out
  have HR1 : Hid (RfAt (((w.alloc (.cells #[y0, y1, y2, y3, y4, y5] 38)).alloc (.cells #[.int .i64 4, .int .i64 at_, .int .u8 (a : Int), .int .u8 (b : Int), .int .i64 n, .slice kp kn kc] 42)).alloc (.cells #[.int .i64 0, .slice none 0 0, .slice none 0 0, .int .i64 0, .bool false, .int .i64 0] 38)) (.agg #[y0, y1, y2, y3, y4, y5]) r N) := hR.below HBW.out
  have HE1 : Hid (ErrT (((w.alloc (.cells #[y0, y1, y2, y3, y4, y5] 38)).alloc (.cells #[.int .i64 4, .int .i64 at_, .int .u8 (a : Int), .int .u8 (b : Int), .int .i64 n, .slice kp kn kc] 42)).alloc (.cells #[.int .i64 0, .slice none 0 0, .slice none 0 0, .int .i64 0, .bool false, .int .i64 0] 38))) := hE.below HBW.out
  have HS := hid2 hS
  have HONE := hid2 hone
  have hlt := hF.lt
  clear hF hR hE hS hone
  go_enter Tryd.func9, Tryd.ntmps9
  go_wp2_with (first | (go_at_call 31; refine (fuse_fl HF1.out n n0 n1).mono ?_; rintro e w2 ⟨rfl, hF2, hR2⟩; have z0 := heap_fr hR2 X0.out; have z1 := heap_fr hR2 X1.out; have z2 := heap_fr hR2 X2.out; obtain ⟨⟨d0, d1, d2, d3, d4, d5⟩, _⟩ := six' z0; obtain ⟨⟨p0, p1, p2, p3, p4, p5⟩, _⟩ := six' z1; have hs2 : w.heap.size + 1 + 1 < w2.heap.size := (Array.getElem?_eq_some_iff.1 z2).1; have Z2 := hid2 z2; have HFR2 : Hid (Fr B w w2) := (Below.fr HBW.out).trans hR2; have HF2 := hid2 hF2; have HRF2 := hid2 (HR1.out.fr hR2); clear z0 z1 z2 hF2 hR2) | (go_at_call 32; refine (rfuse_rf HRF2.out n n0 n1).mono ?_; rintro e w3 ⟨x0, x1, x2, x3, x4, x5, rfl, hone, hrf, hb3⟩; have HO3 := hid2 hone; have HRF3 := hid2 hrf; have H3 := hid2 hb3; have Z3 := hid2 (heap_stays Z2.out hb3); clear hone hrf hb3 d0 d1 d2 d3 d4 d5 p0 p1 p2 p3 p4 p5) | (refine st33 rfl (.tmp 6) (.tmp 116) rfl (w.heap.size + 1 + 1) rfl _ _ _ _ _ _ _ Z3.out rfl rfl HO3.out ?_; intro w6 hw6 hg6))
  refine bodyPost_ret (v := .tuple #[.agg #[x0, x1, x2, x3, x4, x5], .bool true]) ?_ rfl ⟨_, _, _, _, _, _, rfl, ?_⟩
  · exact results33 Tryd.results9 _ _ (w.heap.size + 1 + 1) rfl _ _ _ _ _ _ 38 (0, 0) hw6 _ rfl
  · exact DoneAt.mk' ((HF2.out.below H3.out).more (by omega)) (HRF3.out.more (by omega)) (HS.out.setFuse n) (HFR2.out.trans (Below.fr H3.out)) Z3.out hg6 (by omega)

set_option maxHeartbeats 4000000 in
set_option maxRecDepth 10000 in
theorem do_crash {w : World} {B g N : Nat} {d : Dev} {r : Rf} {y0 y1 y2 y3 y4 y5 : Value} (hF : Fl w B g N d) (hR : RfAt w (.agg #[y0, y1, y2, y3, y4, y5]) r N) (hS : Sim d r) (hE : ErrT w) (_hB : 0 < B) (hN : N < 900) (hone : y0.oneCell' = true ∧ y1.oneCell' = true ∧ y2.oneCell' = true ∧ y3.oneCell' = true ∧ y4.oneCell' = true ∧ y5.oneCell' = true)
    (at_ n : Int) (a b : Nat) (kp : Option Addr) (kn kc : Nat) (keep : List Int) (hK : KLow w B (.slice kp kn kc) keep) :
    Calls Tryd.prog 9 #[.pointer (some ⟨g, 0, none⟩), .agg #[y0, y1, y2, y3, y4, y5], .agg #[.int .i64 5, .int .i64 at_, .int .u8 (a : Int), .int .u8 (b : Int), .int .i64 n, .slice kp kn kc]] w fun e w' => ∃ x0 x1 x2 x3 x4 x5, e = .returned (.tuple #[.agg #[x0, x1, x2, x3, x4, x5], .bool true]) ∧ DoneAt w w' B g (N + 1) (crashP d keep) (.agg #[x0, x1, x2, x3, x4, x5]) := by
  have HK1 : Hid (KLow (((w.alloc (.cells #[y0, y1, y2, y3, y4, y5] 38)).alloc (.cells #[.int .i64 5, .int .i64 at_, .int .u8 (a : Int), .int .u8 (b : Int), .int .i64 n, .slice kp kn kc] 42)).alloc (.cells #[.int .i64 0, .slice none 0 0, .slice none 0 0, .int .i64 0, .bool false, .int .i64 0] 38)) B (.slice kp kn kc) keep) := hK.fr (Below.fr (by go_grown))
  have hdo := hF.1
  clear hK
  obtain ⟨X0, X1, X2⟩ := heap3h w (.cells #[y0, y1, y2, y3, y4, y5] 38) (.cells #[.int .i64 5, .int .i64 at_, .int .u8 (a : Int), .int .u8 (b : Int), .int .i64 n, .slice kp kn kc] 42) (.cells #[.int .i64 0, .slice none 0 0, .slice none 0 0, .int .i64 0, .bool false, .int .i64 0] 38)
  have HBW : Hid (Below w.heap.size w (((w.alloc (.cells #[y0, y1, y2, y3, y4, y5] 38)).alloc (.cells #[.int .i64 5, .int .i64 at_, .int .u8 (a : Int), .int .u8 (b : Int), .int .i64 n, .slice kp kn kc] 42)).alloc (.cells #[.int .i64 0, .slice none 0 0, .slice none 0 0, .int .i64 0, .bool false, .int .i64 0] 38))) := by show Below _ _ _; go_grown
  have HF1 : Hid (Fl (((w.alloc (.cells #[y0, y1, y2, y3, y4, y5] 38)).alloc (.cells #[.int .i64 5, .int .i64 at_, .int .u8 (a : Int), .int .u8 (b : Int), .int .i64 n, .slice kp kn kc] 42)).alloc (.cells #[.int .i64 0, .slice none 0 0, .slice none 0 0, .int .i64 0, .bool false, .int .i64 0] 38)) B g N d) := hF.below HBW.out
  have HR1 : Hid (RfAt (((w.alloc (.cells #[y0, y1, y2, y3, y4, y5] 38)).alloc (.cells #[.int .i64 5, .int .i64 at_, .int .u8 (a : Int), .int .u8 (b : Int), .int .i64 n, .slice kp kn kc] 42)).alloc (.cells #[.int .i64 0, .slice none 0 0, .slice none 0 0, .int .i64 0, .bool false, .int .i64 0] 38)) (.agg #[y0, y1, y2, y3, y4, y5]) r N) := hR.below HBW.out
  have HE1 : Hid (ErrT (((w.alloc (.cells #[y0, y1, y2, y3, y4, y5] 38)).alloc (.cells #[.int .i64 5, .int .i64 at_, .int .u8 (a : Int), .int .u8 (b : Int), .int .i64 n, .slice kp kn kc] 42)).alloc (.cells #[.int .i64 0, .slice none 0 0, .slice none 0 0, .int .i64 0, .bool false, .int .i64 0] 38))) := hE.below HBW.out
  have HS := hid2 hS
  have HONE := hid2 hone
  have hlt := hF.lt
  clear hF hR hE hS hone
  go_enter Tryd.func9, Tryd.ntmps9
  go_wp2_with (first | (go_at_call 10; refine (crash_any HF1.out (by omega) HK1.out.kat).mono ?_; rintro e w2 ⟨rfl, hF2, hR2⟩; have HK2 := hid2 (HK1.out.fr hR2); have z0 := heap_fr hR2 X0.out; have z1 := heap_fr hR2 X1.out; have z2 := heap_fr hR2 X2.out; obtain ⟨⟨d0, d1, d2, d3, d4, d5⟩, _⟩ := six' z0; obtain ⟨⟨p0, p1, p2, p3, p4, p5⟩, _⟩ := six' z1; have hs2 : w.heap.size + 1 + 1 < w2.heap.size := (Array.getElem?_eq_some_iff.1 z2).1; have Z2 := hid2 z2; have HFR2 : Hid (Fr B w w2) := (Below.fr HBW.out).trans hR2; have HF2 := hid2 hF2; have HRF2 := hid2 (HR1.out.fr hR2); clear z0 z1 z2 hF2 hR2) | (go_at_call 33; refine (rcrash_any HRF2.out (by omega) HK2.out.kat (sim_ll HS.out) (sim_ss HS.out hdo)).mono ?_; rintro e w3 ⟨x0, x1, x2, x3, x4, x5, rfl, hone, hrf, hb3⟩; have HO3 := hid2 hone; have HRF3 := hid2 hrf; have H3 := hid2 hb3; have Z3 := hid2 (heap_stays Z2.out hb3); clear hone hrf hb3 d0 d1 d2 d3 d4 d5 p0 p1 p2 p3 p4 p5) | (refine st33 rfl (.tmp 6) (.tmp 126) rfl (w.heap.size + 1 + 1) rfl _ _ _ _ _ _ _ Z3.out rfl rfl HO3.out ?_; intro w6 hw6 hg6))
  refine bodyPost_ret (v := .tuple #[.agg #[x0, x1, x2, x3, x4, x5], .bool true]) ?_ rfl ⟨_, _, _, _, _, _, rfl, ?_⟩
  · exact results33 Tryd.results9 _ _ (w.heap.size + 1 + 1) rfl _ _ _ _ _ _ 38 (0, 0) hw6 _ rfl
  · exact DoneAt.mk' ((HF2.out.below H3.out).more (by omega)) (HRF3.out.more (by omega)) (HS.out.crash hdo keep) (HFR2.out.trans (Below.fr H3.out)) Z3.out hg6 (by omega)
end Go.Proofs.YtkbfihnoohhojaaDoor.Fla
