/-
  An act, both ways, where the two devices need not be the same: what each of them does, and that an answer comes.
-/
import Derived.Test.YtfogocappakbdaaDoorSame
namespace Go.Proofs.YtfogocappakbdaaDoor
open Go.RowKit

/-- What an act leaves: the program's device is d, the document's one goes with another one, dd. -/
def DoneG (w w' : World) (B g N : Nat) (d dd : Dev) (rv : Value) : Prop := ∃ r, Fl w' B g N d ∧ RfAt w' rv r N ∧ Sim dd r ∧ Fr B w w'
theorem DoneG.mk' {w w1 w' : World} {B g N b : Nat} {d dd : Dev} {r : Rf} {rv : Value} {c : Array Value} (h1 : Fl w1 B g N d) (h2 : RfAt w1 rv r N) (h3 : Sim dd r) (h4 : Fr B w w1) (hb : w1.heap[b]? = some (.cells c 33 (0, 0))) (hg : w1.grownBy w' (some b)) (hbb : w.heap.size ≤ b) : DoneG w w' B g N d dd rv :=
  ⟨r, h1.box hb hg, h2.box hb hg, h3, h4.local hg hbb⟩

set_option maxHeartbeats 4000000 in
set_option maxRecDepth 10000 in
theorem gdo_other {w : World} {B g N : Nat} {d : Dev} {r : Rf} {y0 y1 y2 y3 y4 y5 : Value} (hF : Fl w B g N d) (hR : RfAt w (.agg #[y0, y1, y2, y3, y4, y5]) r N) {dd : Dev} (hS : Sim dd r) (hE : ErrT w) (_hB : 0 < B) (_hN : N < 900) (hone : y0.oneCell' = true ∧ y1.oneCell' = true ∧ y2.oneCell' = true ∧ y3.oneCell' = true ∧ y4.oneCell' = true ∧ y5.oneCell' = true)
    (at_ n : Int) (a b : Nat) (kp : Option Addr) (kn kc : Nat) (kind : Int) (k0 : kind ≠ 0) (k1 : kind ≠ 1) (k2 : kind ≠ 2) (k3 : kind ≠ 3) (k4 : kind ≠ 4) (k5 : kind ≠ 5) :
    Calls Tryd.prog 12 #[.pointer (some ⟨g, 0, none⟩), .agg #[y0, y1, y2, y3, y4, y5], .agg #[.int .i64 kind, .int .i64 at_, .int .u8 (a : Int), .int .u8 (b : Int), .int .i64 n, .slice kp kn kc]] w fun e w' => ∃ x0 x1 x2 x3 x4 x5 ok, e = .returned (.tuple #[.agg #[x0, x1, x2, x3, x4, x5], .bool ok]) ∧ DoneG w w' B g (N + 1) d dd (.agg #[x0, x1, x2, x3, x4, x5]) := by
  obtain ⟨X0, X1, X2⟩ := heap3h w (.cells #[y0, y1, y2, y3, y4, y5] 33) (.cells #[.int .i64 kind, .int .i64 at_, .int .u8 (a : Int), .int .u8 (b : Int), .int .i64 n, .slice kp kn kc] 42) (.cells #[.int .i64 0, .slice none 0 0, .slice none 0 0, .int .i64 0, .bool false, .int .i64 0] 33)
  have HBW : Hid (Below w.heap.size w (((w.alloc (.cells #[y0, y1, y2, y3, y4, y5] 33)).alloc (.cells #[.int .i64 kind, .int .i64 at_, .int .u8 (a : Int), .int .u8 (b : Int), .int .i64 n, .slice kp kn kc] 42)).alloc (.cells #[.int .i64 0, .slice none 0 0, .slice none 0 0, .int .i64 0, .bool false, .int .i64 0] 33))) := by show Below _ _ _; go_grown
  have HF1 : Hid (Fl (((w.alloc (.cells #[y0, y1, y2, y3, y4, y5] 33)).alloc (.cells #[.int .i64 kind, .int .i64 at_, .int .u8 (a : Int), .int .u8 (b : Int), .int .i64 n, .slice kp kn kc] 42)).alloc (.cells #[.int .i64 0, .slice none 0 0, .slice none 0 0, .int .i64 0, .bool false, .int .i64 0] 33)) B g N d) := hF.below HBW.out
  have HR1 : Hid (RfAt (((w.alloc (.cells #[y0, y1, y2, y3, y4, y5] 33)).alloc (.cells #[.int .i64 kind, .int .i64 at_, .int .u8 (a : Int), .int .u8 (b : Int), .int .i64 n, .slice kp kn kc] 42)).alloc (.cells #[.int .i64 0, .slice none 0 0, .slice none 0 0, .int .i64 0, .bool false, .int .i64 0] 33)) (.agg #[y0, y1, y2, y3, y4, y5]) r N) := hR.below HBW.out
  have HE1 : Hid (ErrT (((w.alloc (.cells #[y0, y1, y2, y3, y4, y5] 33)).alloc (.cells #[.int .i64 kind, .int .i64 at_, .int .u8 (a : Int), .int .u8 (b : Int), .int .i64 n, .slice kp kn kc] 42)).alloc (.cells #[.int .i64 0, .slice none 0 0, .slice none 0 0, .int .i64 0, .bool false, .int .i64 0] 33))) := hE.below HBW.out
  have HS := hid2 hS
  have HONE := hid2 hone
  have hlt := hF.lt
  clear hF hR hE hS hone
  have e0 : (kind == 0) = false := by simpa using k0
  have e1 : (kind == 1) = false := by simpa using k1
  have e2 : (kind == 2) = false := by simpa using k2
  have e3 : (kind == 3) = false := by simpa using k3
  have e4 : (kind == 4) = false := by simpa using k4
  have e5 : (kind == 5) = false := by simpa using k5
  clear k0 k1 k2 k3 k4 k5
  go_enter Tryd.func12, Tryd.ntmps12
  go_wp2_with (refine st33 rfl (.tmp 6) (.tmp 127) rfl (w.heap.size + 1 + 1) rfl _ _ _ _ _ _ _ X2.out rfl rfl HONE.out ?_; intro w6 hw6 hg6)
  refine bodyPost_ret (v := .tuple #[.agg #[y0, y1, y2, y3, y4, y5], .bool true]) ?_ rfl ⟨_, _, _, _, _, _, _, rfl, ?_⟩
  · exact results33 Tryd.results12 _ _ (w.heap.size + 1 + 1) rfl _ _ _ _ _ _ 33 (0, 0) hw6 _ rfl
  · exact DoneG.mk' (HF1.out.more (by omega)) (HR1.out.more (by omega)) HS.out (Below.fr HBW.out) X2.out hg6 (by omega)

set_option maxHeartbeats 4000000 in
set_option maxRecDepth 10000 in
theorem gdo_fuse {w : World} {B g N : Nat} {d : Dev} {r : Rf} {y0 y1 y2 y3 y4 y5 : Value} (hF : Fl w B g N d) (hR : RfAt w (.agg #[y0, y1, y2, y3, y4, y5]) r N) {dd : Dev} (hS : Sim dd r) (hE : ErrT w) (_hB : 0 < B) (_hN : N < 900) (hone : y0.oneCell' = true ∧ y1.oneCell' = true ∧ y2.oneCell' = true ∧ y3.oneCell' = true ∧ y4.oneCell' = true ∧ y5.oneCell' = true)
    (at_ n : Int) (a b : Nat) (kp : Option Addr) (kn kc : Nat) (n0 : -9223372036854775808 ≤ n) (n1 : n ≤ 9223372036854775807) :
    Calls Tryd.prog 12 #[.pointer (some ⟨g, 0, none⟩), .agg #[y0, y1, y2, y3, y4, y5], .agg #[.int .i64 4, .int .i64 at_, .int .u8 (a : Int), .int .u8 (b : Int), .int .i64 n, .slice kp kn kc]] w fun e w' => ∃ x0 x1 x2 x3 x4 x5 ok, e = .returned (.tuple #[.agg #[x0, x1, x2, x3, x4, x5], .bool ok]) ∧ DoneG w w' B g (N + 1) (fuseP d n) (fuseP dd n) (.agg #[x0, x1, x2, x3, x4, x5]) := by
  obtain ⟨X0, X1, X2⟩ := heap3h w (.cells #[y0, y1, y2, y3, y4, y5] 33) (.cells #[.int .i64 4, .int .i64 at_, .int .u8 (a : Int), .int .u8 (b : Int), .int .i64 n, .slice kp kn kc] 42) (.cells #[.int .i64 0, .slice none 0 0, .slice none 0 0, .int .i64 0, .bool false, .int .i64 0] 33)
  have HBW : Hid (Below w.heap.size w (((w.alloc (.cells #[y0, y1, y2, y3, y4, y5] 33)).alloc (.cells #[.int .i64 4, .int .i64 at_, .int .u8 (a : Int), .int .u8 (b : Int), .int .i64 n, .slice kp kn kc] 42)).alloc (.cells #[.int .i64 0, .slice none 0 0, .slice none 0 0, .int .i64 0, .bool false, .int .i64 0] 33))) := by show Below _ _ _; go_grown
  have HF1 : Hid (Fl (((w.alloc (.cells #[y0, y1, y2, y3, y4, y5] 33)).alloc (.cells #[.int .i64 4, .int .i64 at_, .int .u8 (a : Int), .int .u8 (b : Int), .int .i64 n, .slice kp kn kc] 42)).alloc (.cells #[.int .i64 0, .slice none 0 0, .slice none 0 0, .int .i64 0, .bool false, .int .i64 0] 33)) B g N d) := hF.below HBW.out
  have HR1 : Hid (RfAt (((w.alloc (.cells #[y0, y1, y2, y3, y4, y5] 33)).alloc (.cells #[.int .i64 4, .int .i64 at_, .int .u8 (a : Int), .int .u8 (b : Int), .int .i64 n, .slice kp kn kc] 42)).alloc (.cells #[.int .i64 0, .slice none 0 0, .slice none 0 0, .int .i64 0, .bool false, .int .i64 0] 33)) (.agg #[y0, y1, y2, y3, y4, y5]) r N) := hR.below HBW.out
  have HE1 : Hid (ErrT (((w.alloc (.cells #[y0, y1, y2, y3, y4, y5] 33)).alloc (.cells #[.int .i64 4, .int .i64 at_, .int .u8 (a : Int), .int .u8 (b : Int), .int .i64 n, .slice kp kn kc] 42)).alloc (.cells #[.int .i64 0, .slice none 0 0, .slice none 0 0, .int .i64 0, .bool false, .int .i64 0] 33))) := hE.below HBW.out
  have HS := hid2 hS
  have HONE := hid2 hone
  have hlt := hF.lt
  clear hF hR hE hS hone
  go_enter Tryd.func12, Tryd.ntmps12
  go_wp2_with (first | (go_at_call 21; refine (fuse_fl HF1.out n n0 n1).mono ?_; rintro e w2 ⟨rfl, hF2, hR2⟩; have z0 := heap_fr hR2 X0.out; have z1 := heap_fr hR2 X1.out; have z2 := heap_fr hR2 X2.out; obtain ⟨⟨d0, d1, d2, d3, d4, d5⟩, _⟩ := six' z0; obtain ⟨⟨p0, p1, p2, p3, p4, p5⟩, _⟩ := six' z1; have hs2 : w.heap.size + 1 + 1 < w2.heap.size := (Array.getElem?_eq_some_iff.1 z2).1; have Z2 := hid2 z2; have HFR2 : Hid (Fr B w w2) := (Below.fr HBW.out).trans hR2; have HF2 := hid2 hF2; have HRF2 := hid2 (HR1.out.fr hR2); clear z0 z1 z2 hF2 hR2) | (go_at_call 33; refine (rfuse_rf HRF2.out n n0 n1).mono ?_; rintro e w3 ⟨x0, x1, x2, x3, x4, x5, rfl, hone, hrf, hb3⟩; have HO3 := hid2 hone; have HRF3 := hid2 hrf; have H3 := hid2 hb3; have Z3 := hid2 (heap_stays Z2.out hb3); clear hone hrf hb3 d0 d1 d2 d3 d4 d5 p0 p1 p2 p3 p4 p5) | (refine st33 rfl (.tmp 6) (.tmp 116) rfl (w.heap.size + 1 + 1) rfl _ _ _ _ _ _ _ Z3.out rfl rfl HO3.out ?_; intro w6 hw6 hg6))
  refine bodyPost_ret (v := .tuple #[.agg #[x0, x1, x2, x3, x4, x5], .bool true]) ?_ rfl ⟨_, _, _, _, _, _, _, rfl, ?_⟩
  · exact results33 Tryd.results12 _ _ (w.heap.size + 1 + 1) rfl _ _ _ _ _ _ 33 (0, 0) hw6 _ rfl
  · exact DoneG.mk' ((HF2.out.below H3.out).more (by omega)) (HRF3.out.more (by omega)) (HS.out.setFuse n) (HFR2.out.trans (Below.fr H3.out)) Z3.out hg6 (by omega)

set_option maxHeartbeats 4000000 in
set_option maxRecDepth 10000 in
theorem gdo_crash {w : World} {B g N : Nat} {d : Dev} {r : Rf} {y0 y1 y2 y3 y4 y5 : Value} (hF : Fl w B g N d) (hR : RfAt w (.agg #[y0, y1, y2, y3, y4, y5]) r N) {dd : Dev} (hS : Sim dd r) (hdd : DevOk dd) (hE : ErrT w) (_hB : 0 < B) (hN : N < 900) (hone : y0.oneCell' = true ∧ y1.oneCell' = true ∧ y2.oneCell' = true ∧ y3.oneCell' = true ∧ y4.oneCell' = true ∧ y5.oneCell' = true)
    (at_ n : Int) (a b : Nat) (kp : Option Addr) (kn kc : Nat) (keep : List Int) (hK : KLow w B (.slice kp kn kc) keep) :
    Calls Tryd.prog 12 #[.pointer (some ⟨g, 0, none⟩), .agg #[y0, y1, y2, y3, y4, y5], .agg #[.int .i64 5, .int .i64 at_, .int .u8 (a : Int), .int .u8 (b : Int), .int .i64 n, .slice kp kn kc]] w fun e w' => ∃ x0 x1 x2 x3 x4 x5 ok, e = .returned (.tuple #[.agg #[x0, x1, x2, x3, x4, x5], .bool ok]) ∧ DoneG w w' B g (N + 1) (crashP d keep) (crashP dd keep) (.agg #[x0, x1, x2, x3, x4, x5]) := by
  have HK1 : Hid (KLow (((w.alloc (.cells #[y0, y1, y2, y3, y4, y5] 33)).alloc (.cells #[.int .i64 5, .int .i64 at_, .int .u8 (a : Int), .int .u8 (b : Int), .int .i64 n, .slice kp kn kc] 42)).alloc (.cells #[.int .i64 0, .slice none 0 0, .slice none 0 0, .int .i64 0, .bool false, .int .i64 0] 33)) B (.slice kp kn kc) keep) := hK.fr (Below.fr (by go_grown))
  have hdo := hdd
  clear hK
  obtain ⟨X0, X1, X2⟩ := heap3h w (.cells #[y0, y1, y2, y3, y4, y5] 33) (.cells #[.int .i64 5, .int .i64 at_, .int .u8 (a : Int), .int .u8 (b : Int), .int .i64 n, .slice kp kn kc] 42) (.cells #[.int .i64 0, .slice none 0 0, .slice none 0 0, .int .i64 0, .bool false, .int .i64 0] 33)
  have HBW : Hid (Below w.heap.size w (((w.alloc (.cells #[y0, y1, y2, y3, y4, y5] 33)).alloc (.cells #[.int .i64 5, .int .i64 at_, .int .u8 (a : Int), .int .u8 (b : Int), .int .i64 n, .slice kp kn kc] 42)).alloc (.cells #[.int .i64 0, .slice none 0 0, .slice none 0 0, .int .i64 0, .bool false, .int .i64 0] 33))) := by show Below _ _ _; go_grown
  have HF1 : Hid (Fl (((w.alloc (.cells #[y0, y1, y2, y3, y4, y5] 33)).alloc (.cells #[.int .i64 5, .int .i64 at_, .int .u8 (a : Int), .int .u8 (b : Int), .int .i64 n, .slice kp kn kc] 42)).alloc (.cells #[.int .i64 0, .slice none 0 0, .slice none 0 0, .int .i64 0, .bool false, .int .i64 0] 33)) B g N d) := hF.below HBW.out
  have HR1 : Hid (RfAt (((w.alloc (.cells #[y0, y1, y2, y3, y4, y5] 33)).alloc (.cells #[.int .i64 5, .int .i64 at_, .int .u8 (a : Int), .int .u8 (b : Int), .int .i64 n, .slice kp kn kc] 42)).alloc (.cells #[.int .i64 0, .slice none 0 0, .slice none 0 0, .int .i64 0, .bool false, .int .i64 0] 33)) (.agg #[y0, y1, y2, y3, y4, y5]) r N) := hR.below HBW.out
  have HE1 : Hid (ErrT (((w.alloc (.cells #[y0, y1, y2, y3, y4, y5] 33)).alloc (.cells #[.int .i64 5, .int .i64 at_, .int .u8 (a : Int), .int .u8 (b : Int), .int .i64 n, .slice kp kn kc] 42)).alloc (.cells #[.int .i64 0, .slice none 0 0, .slice none 0 0, .int .i64 0, .bool false, .int .i64 0] 33))) := hE.below HBW.out
  have HS := hid2 hS
  have HONE := hid2 hone
  have hlt := hF.lt
  clear hF hR hE hS hone
  go_enter Tryd.func12, Tryd.ntmps12
  go_wp2_with (first | (go_at_call 16; refine (crash_any HF1.out (by omega) HK1.out.kat).mono ?_; rintro e w2 ⟨rfl, hF2, hR2⟩; have HK2 := hid2 (HK1.out.fr hR2); have z0 := heap_fr hR2 X0.out; have z1 := heap_fr hR2 X1.out; have z2 := heap_fr hR2 X2.out; obtain ⟨⟨d0, d1, d2, d3, d4, d5⟩, _⟩ := six' z0; obtain ⟨⟨p0, p1, p2, p3, p4, p5⟩, _⟩ := six' z1; have hs2 : w.heap.size + 1 + 1 < w2.heap.size := (Array.getElem?_eq_some_iff.1 z2).1; have Z2 := hid2 z2; have HFR2 : Hid (Fr B w w2) := (Below.fr HBW.out).trans hR2; have HF2 := hid2 hF2; have HRF2 := hid2 (HR1.out.fr hR2); clear z0 z1 z2 hF2 hR2) | (go_at_call 34; refine (rcrash_any HRF2.out (by omega) HK2.out.kat (sim_ll HS.out) (sim_ss HS.out hdo)).mono ?_; rintro e w3 ⟨x0, x1, x2, x3, x4, x5, rfl, hone, hrf, hb3⟩; have HO3 := hid2 hone; have HRF3 := hid2 hrf; have H3 := hid2 hb3; have Z3 := hid2 (heap_stays Z2.out hb3); clear hone hrf hb3 d0 d1 d2 d3 d4 d5 p0 p1 p2 p3 p4 p5) | (refine st33 rfl (.tmp 6) (.tmp 126) rfl (w.heap.size + 1 + 1) rfl _ _ _ _ _ _ _ Z3.out rfl rfl HO3.out ?_; intro w6 hw6 hg6))
  refine bodyPost_ret (v := .tuple #[.agg #[x0, x1, x2, x3, x4, x5], .bool true]) ?_ rfl ⟨_, _, _, _, _, _, _, rfl, ?_⟩
  · exact results33 Tryd.results12 _ _ (w.heap.size + 1 + 1) rfl _ _ _ _ _ _ 33 (0, 0) hw6 _ rfl
  · exact DoneG.mk' ((HF2.out.below H3.out).more (by omega)) (HRF3.out.more (by omega)) (HS.out.crash hdo keep) (HFR2.out.trans (Below.fr H3.out)) Z3.out hg6 (by omega)

set_option maxHeartbeats 4000000 in
set_option maxRecDepth 10000 in
theorem gdo_trim {w : World} {B g N : Nat} {d : Dev} {r : Rf} {y0 y1 y2 y3 y4 y5 : Value} (hF : Fl w B g N d) (hR : RfAt w (.agg #[y0, y1, y2, y3, y4, y5]) r N) {dd : Dev} (hS : Sim dd r) (hE : ErrT w) (hB : 0 < B) (hN : N < 900) (hone : y0.oneCell' = true ∧ y1.oneCell' = true ∧ y2.oneCell' = true ∧ y3.oneCell' = true ∧ y4.oneCell' = true ∧ y5.oneCell' = true)
    (at_ n : Int) (a b : Nat) (kp : Option Addr) (kn kc : Nat) :
    Calls Tryd.prog 12 #[.pointer (some ⟨g, 0, none⟩), .agg #[y0, y1, y2, y3, y4, y5], .agg #[.int .i64 1, .int .i64 at_, .int .u8 (a : Int), .int .u8 (b : Int), .int .i64 n, .slice kp kn kc]] w fun e w' => ∃ x0 x1 x2 x3 x4 x5 ok, e = .returned (.tuple #[.agg #[x0, x1, x2, x3, x4, x5], .bool ok]) ∧ DoneG w w' B g (N + 1) (trimP d at_).1 (trimP dd at_).1 (.agg #[x0, x1, x2, x3, x4, x5]) := by
  have HF0 := hid2 hF
  have HE0 := hid2 hE
  obtain ⟨X0, X1, X2⟩ := heap3h w (.cells #[y0, y1, y2, y3, y4, y5] 33) (.cells #[.int .i64 1, .int .i64 at_, .int .u8 (a : Int), .int .u8 (b : Int), .int .i64 n, .slice kp kn kc] 42) (.cells #[.int .i64 0, .slice none 0 0, .slice none 0 0, .int .i64 0, .bool false, .int .i64 0] 33)
  have HBW : Hid (Below w.heap.size w (((w.alloc (.cells #[y0, y1, y2, y3, y4, y5] 33)).alloc (.cells #[.int .i64 1, .int .i64 at_, .int .u8 (a : Int), .int .u8 (b : Int), .int .i64 n, .slice kp kn kc] 42)).alloc (.cells #[.int .i64 0, .slice none 0 0, .slice none 0 0, .int .i64 0, .bool false, .int .i64 0] 33))) := by show Below _ _ _; go_grown
  have HF1 : Hid (Fl (((w.alloc (.cells #[y0, y1, y2, y3, y4, y5] 33)).alloc (.cells #[.int .i64 1, .int .i64 at_, .int .u8 (a : Int), .int .u8 (b : Int), .int .i64 n, .slice kp kn kc] 42)).alloc (.cells #[.int .i64 0, .slice none 0 0, .slice none 0 0, .int .i64 0, .bool false, .int .i64 0] 33)) B g N d) := hF.below HBW.out
  have HR1 : Hid (RfAt (((w.alloc (.cells #[y0, y1, y2, y3, y4, y5] 33)).alloc (.cells #[.int .i64 1, .int .i64 at_, .int .u8 (a : Int), .int .u8 (b : Int), .int .i64 n, .slice kp kn kc] 42)).alloc (.cells #[.int .i64 0, .slice none 0 0, .slice none 0 0, .int .i64 0, .bool false, .int .i64 0] 33)) (.agg #[y0, y1, y2, y3, y4, y5]) r N) := hR.below HBW.out
  have HE1 : Hid (ErrT (((w.alloc (.cells #[y0, y1, y2, y3, y4, y5] 33)).alloc (.cells #[.int .i64 1, .int .i64 at_, .int .u8 (a : Int), .int .u8 (b : Int), .int .i64 n, .slice kp kn kc] 42)).alloc (.cells #[.int .i64 0, .slice none 0 0, .slice none 0 0, .int .i64 0, .bool false, .int .i64 0] 33))) := hE.below HBW.out
  have HS := hid2 hS
  have HONE := hid2 hone
  have hlt := hF.lt
  clear hF hR hE hS hone
  have hsim := (HS.out.trim at_).1
  have KP := fun w' (hF : Fl w' B g N d) => trim_any hF hN at_
  generalize (trimP d at_).2 = cp at *
  have KT := rtrim_any HR1.out hN at_
  generalize (rtrim r at_).2 = code at *
  generalize (rtrim r at_).1 = r' at *
  have HKT : Hid (Calls Tryd.prog 30 #[.agg #[y0, y1, y2, y3, y4, y5], .int .i64 at_] (((w.alloc (.cells #[y0, y1, y2, y3, y4, y5] 33)).alloc (.cells #[.int .i64 1, .int .i64 at_, .int .u8 (a : Int), .int .u8 (b : Int), .int .i64 n, .slice kp kn kc] 42)).alloc (.cells #[.int .i64 0, .slice none 0 0, .slice none 0 0, .int .i64 0, .bool false, .int .i64 0] 33)) _) := KT
  have HKP : Hid (∀ w', Fl w' B g N d → Calls Tryd.prog 20 #[.pointer (some ⟨g, 0, none⟩), .int .i64 at_] w' fun e w'' => ∃ v, e = .returned v ∧ Fault w'' v cp ∧ Fl w'' B g (N + 1) (trimP d at_).1 ∧ Fr B w' w'') := KP
  have HSIM := hid2 hsim
  have Q1 := X1
  have Q2 := X2
  clear KT KP hsim
  go_enter Tryd.func12, Tryd.ntmps12
  go_wp2_with (first | (go_at_call 30; refine (show Calls _ _ _ _ _ from HKT).mono ?_; rintro e w2 ⟨rv', rfl, hrf, hb2⟩; obtain ⟨x0, x1, x2, x3, x4, x5, hrv, hon⟩ := hrf.parts; subst hrv; have z1 := heap_stays Q1.out hb2; have z2 := heap_stays Q2.out hb2; obtain ⟨⟨p0, p1, p2, p3, p4, p5⟩, _⟩ := six' z1; have hs2 : w.heap.size + 1 + 1 < w2.heap.size := (Array.getElem?_eq_some_iff.1 z2).1; have Z1 := hid2 z1; have Z2 := hid2 z2; have HRF2 := hid2 hrf; have HON := hid2 hon; have HB2 := hid2 hb2; clear z1 z2 hrf hon hb2) | (refine st_new w2 33 6 (size_of Tryd.info33m) rfl (.tmp 11) (.tmp 58) rfl _ rfl rfl #[.int .i64 0, .slice none 0 0, .slice none 0 0, .int .i64 0, .bool false, .int .i64 0] #[x0, x1, x2, x3, x4, x5] rfl rfl rfl rfl (all6 HON.out) ?_))
  have HS3 : Hid ((w2.alloc (.cells #[x0, x1, x2, x3, x4, x5] 33)).drew.heap[w2.heap.size]? = some (.cells #[x0, x1, x2, x3, x4, x5] 33 (0, 0))) := heap_alloc_last _ _
  have HO3 : Hid ((w2.alloc (.cells #[x0, x1, x2, x3, x4, x5] 33)).drew.heap[w.heap.size + 1]? = some (.cells #[.int .i64 1, .int .i64 at_, .int .u8 (a : Int), .int .u8 (b : Int), .int .i64 n, .slice kp kn kc] 42 (0, 0))) := heap_alloc_old Z1.out _
  have HZ3 : Hid ((w2.alloc (.cells #[x0, x1, x2, x3, x4, x5] 33)).drew.heap[w.heap.size + 1 + 1]? = some (.cells #[.int .i64 0, .slice none 0 0, .slice none 0 0, .int .i64 0, .bool false, .int .i64 0] 33 (0, 0))) := heap_alloc_old Z2.out _
  have HBA : Hid (Below w.heap.size w (w2.alloc (.cells #[x0, x1, x2, x3, x4, x5] 33)).drew) := ((HBW.out.trans (HB2.out.mono HBW.out.size)).alloc (by have := HBW.out.size; have := HB2.out.size; omega) _).drew
  have HF3 : Hid (Fl (w2.alloc (.cells #[x0, x1, x2, x3, x4, x5] 33)).drew B g N d) := HF0.out.below HBA.out
  have HRF3 : Hid (RfAt (w2.alloc (.cells #[x0, x1, x2, x3, x4, x5] 33)).drew (.agg #[x0, x1, x2, x3, x4, x5]) r' (N + 1)) := HRF2.out.below (by go_grown)
  have HE3 : Hid (ErrT (w2.alloc (.cells #[x0, x1, x2, x3, x4, x5] 33)).drew) := HE0.out.below HBA.out

  refine wp_region_held_drew (S := fun w' => w'.heap[w2.heap.size]? = some (.cells #[x0, x1, x2, x3, x4, x5] 33 (0, 0)) ∧ w'.heap[w.heap.size + 1]? = some (.cells #[.int .i64 1, .int .i64 at_, .int .u8 (a : Int), .int .u8 (b : Int), .int .i64 n, .slice kp kn kc] 42 (0, 0))) (by kernel_rfl) (⟨HS3.out, HO3.out⟩) (fun hS => ?_)
  change wpAnyH _ _ _ _ _ _ _ _ (World.drew _)
  refine wpAnyH_take (i := 0) (v := .agg #[x0, x1, x2, x3, x4, x5]) rfl (by kernel_rfl) (by kernel_rfl) (by kernel_rfl) (fun _ _ _ h => h) (Or.inl ⟨by kernel_rfl, ?_⟩) hS ?_
  · intro W hw
    obtain ⟨⟨q0, q1, q2, q3, q4, q5⟩, _⟩ := six' hw.1
    clear hw
    go_simp
  change wpAnyH _ _ _ _ _ _ _ (Act.put _ (some 60) _) _
  simp only [Act.put, List.setIfInBounds_toArray, List.set_cons_succ, List.set_cons_zero]
  refine wpAnyH_take (i := 1) (v := .pointer (some ⟨g, 0, none⟩)) rfl (by kernel_rfl) (by kernel_rfl) (by kernel_rfl) (fun _ _ _ h => h) (Or.inl ⟨by kernel_rfl, ?_⟩) hS ?_
  · intro w hw; clear hw; go_simp
  change wpAnyH _ _ _ _ _ _ _ (Act.put _ (some 61) _) _
  simp only [Act.put, List.setIfInBounds_toArray, List.set_cons_succ, List.set_cons_zero]
  refine wpAnyH_take (i := 2) (v := .pointer (some ⟨w.heap.size + 1, 1, none⟩)) rfl (by kernel_rfl) (by kernel_rfl) (by kernel_rfl) (fun _ _ _ h => h) (Or.inl ⟨by kernel_rfl, ?_⟩) hS ?_
  · intro w hw; clear hw; go_simp
  change wpAnyH _ _ _ _ _ _ _ (Act.put _ (some 62) _) _
  simp only [Act.put, List.setIfInBounds_toArray, List.set_cons_succ, List.set_cons_zero]
  refine wpAnyH_take (i := 3) (v := .int .i64 at_) rfl (by kernel_rfl) (by kernel_rfl) (by kernel_rfl) (fun _ _ _ h => h) (Or.inl ⟨by kernel_rfl, ?_⟩) hS ?_
  · intro W hw
    obtain ⟨⟨q0, q1, q2, q3, q4, q5⟩, _⟩ := six' hw.2
    clear hw
    go_simp
  change wpAnyH _ _ _ _ _ _ _ (Act.put _ (some 63) _) _
  simp only [Act.put, List.setIfInBounds_toArray, List.set_cons_succ, List.set_cons_zero]
  refine wpAnyH_take (i := 6) (v := .int .i64 code) rfl (by kernel_rfl) (by kernel_rfl) (by kernel_rfl) (fun _ _ _ h => h) (Or.inl ⟨by kernel_rfl, ?_⟩) hS ?_
  · intro w hw; clear hw; go_simp
  change wpAnyH _ _ _ _ _ _ _ (Act.put _ (some 66) _) _
  simp only [Act.put, List.setIfInBounds_toArray, List.set_cons_succ, List.set_cons_zero]
  refine wpAnyH_ready (rs := [4]) (by kernel_rfl) (by simp) ?_
  refine AllReadyH.cons rfl (fun K hK => ?_) AllReadyH.nil
  go_simp
  go_wp2_with (go_at_call 20; refine (HKP.out _ HF3.out).mono ?_; rintro e w4 ⟨v, rfl, hv, hF4, hR4⟩)
  refine hK.out _ _ (⟨heap_fr hR4 HS3.out, heap_fr hR4 HO3.out⟩) (fun hS => ?_)
  clear hK K
  skip
  refine wpAnyH_ready (rs := [5]) (by kernel_rfl) (by simp) ?_
  refine AllReadyH.cons rfl (fun K hK => ?_) AllReadyH.nil
  go_simp
  go_wp2_with (go_at_call 11; refine (of_code (HE3.out.fr hR4 hB) hv).mono ?_; rintro e w5 ⟨rfl, hb5⟩)
  refine hK.out _ _ (⟨heap_stays (heap_fr hR4 HS3.out) hb5, heap_stays (heap_fr hR4 HO3.out) hb5⟩) (fun hS => ?_)
  clear hK K
  skip
  refine wpAnyH_take (i := 7) (v := .bool (cp == code)) rfl (by kernel_rfl) (by kernel_rfl) (by kernel_rfl) (fun _ _ _ h => h) (Or.inl ⟨by kernel_rfl, ?_⟩) hS ?_
  · intro w hw; clear hw; go_simp
  change wpAnyH _ _ _ _ _ _ _ (Act.put _ (some 67) _) _
  simp only [Act.put, List.setIfInBounds_toArray, List.set_cons_succ, List.set_cons_zero]
  refine wpAnyH_ready (rs := [8]) (by kernel_rfl) (by simp) ?_
  refine AllReadyH.cons rfl (fun K hK => ?_) AllReadyH.nil
  refine step_st33 rfl (.tmp 6) (.tmp 60) rfl (w.heap.size + 1 + 1) rfl _ _ _ _ _ _ _ (heap_stays (heap_fr hR4 HZ3.out) hb5) rfl rfl HON.out ?_
  intro w6 hw6 hg6
  refine hK.out _ _ (⟨heap_grown (heap_stays (heap_fr hR4 HS3.out) hb5) hg6 (by simp; omega), heap_grown (heap_stays (heap_fr hR4 HO3.out) hb5) hg6 (by simp)⟩) (fun hS => ?_)
  clear hK K
  change wpAnyH _ _ _ _ _ _ _ (Act.put _ (none) _) _
  simp only [Act.put]
  refine wpAnyH_take (i := 9) (v := .bool (cp == code)) rfl (by kernel_rfl) (by kernel_rfl) (by kernel_rfl) (fun _ _ _ h => h) (Or.inl ⟨by kernel_rfl, ?_⟩) hS ?_
  · intro w hw; clear hw; go_simp
  change wpAnyH _ _ _ _ _ _ _ (Act.put _ (some 7) _) _
  simp only [Act.put, List.setIfInBounds_toArray, List.set_cons_succ, List.set_cons_zero]
  refine wpAnyH_done (by kernel_rfl) ?_ _
  go_wp2
  refine bodyPost_ret (v := .tuple #[.agg #[x0, x1, x2, x3, x4, x5], .bool (cp == code)]) ?_ rfl ⟨_, _, _, _, _, _, _, rfl, ?_⟩
  · exact results33 Tryd.results12 _ _ (w.heap.size + 1 + 1) rfl _ _ _ _ _ _ 33 (0, 0) hw6 _ rfl
  · exact DoneG.mk' (hF4.below hb5) ((HRF3.out.fr hR4).below hb5) HSIM.out (((Below.fr HBA.out).trans hR4).trans (Below.fr hb5)) (heap_stays (heap_fr hR4 HZ3.out) hb5) hg6 (by omega)

set_option maxHeartbeats 4000000 in
set_option maxRecDepth 10000 in
theorem gdo_flush {w : World} {B g N : Nat} {d : Dev} {r : Rf} {y0 y1 y2 y3 y4 y5 : Value} (hF : Fl w B g N d) (hR : RfAt w (.agg #[y0, y1, y2, y3, y4, y5]) r N) {dd : Dev} (hS : Sim dd r) (hdd : DevOk dd) (hE : ErrT w) (hB : 0 < B) (hN : N < 900) (hone : y0.oneCell' = true ∧ y1.oneCell' = true ∧ y2.oneCell' = true ∧ y3.oneCell' = true ∧ y4.oneCell' = true ∧ y5.oneCell' = true)
    (at_ n : Int) (a b : Nat) (kp : Option Addr) (kn kc : Nat) :
    Calls Tryd.prog 12 #[.pointer (some ⟨g, 0, none⟩), .agg #[y0, y1, y2, y3, y4, y5], .agg #[.int .i64 3, .int .i64 at_, .int .u8 (a : Int), .int .u8 (b : Int), .int .i64 n, .slice kp kn kc]] w fun e w' => ∃ x0 x1 x2 x3 x4 x5 ok, e = .returned (.tuple #[.agg #[x0, x1, x2, x3, x4, x5], .bool ok]) ∧ DoneG w w' B g (N + 1) (flushP d).1 (flushP dd).1 (.agg #[x0, x1, x2, x3, x4, x5]) := by
  have HF0 := hid2 hF
  have HE0 := hid2 hE
  have hdo := hdd
  obtain ⟨X0, X1, X2⟩ := heap3h w (.cells #[y0, y1, y2, y3, y4, y5] 33) (.cells #[.int .i64 3, .int .i64 at_, .int .u8 (a : Int), .int .u8 (b : Int), .int .i64 n, .slice kp kn kc] 42) (.cells #[.int .i64 0, .slice none 0 0, .slice none 0 0, .int .i64 0, .bool false, .int .i64 0] 33)
  have HBW : Hid (Below w.heap.size w (((w.alloc (.cells #[y0, y1, y2, y3, y4, y5] 33)).alloc (.cells #[.int .i64 3, .int .i64 at_, .int .u8 (a : Int), .int .u8 (b : Int), .int .i64 n, .slice kp kn kc] 42)).alloc (.cells #[.int .i64 0, .slice none 0 0, .slice none 0 0, .int .i64 0, .bool false, .int .i64 0] 33))) := by show Below _ _ _; go_grown
  have HF1 : Hid (Fl (((w.alloc (.cells #[y0, y1, y2, y3, y4, y5] 33)).alloc (.cells #[.int .i64 3, .int .i64 at_, .int .u8 (a : Int), .int .u8 (b : Int), .int .i64 n, .slice kp kn kc] 42)).alloc (.cells #[.int .i64 0, .slice none 0 0, .slice none 0 0, .int .i64 0, .bool false, .int .i64 0] 33)) B g N d) := hF.below HBW.out
  have HR1 : Hid (RfAt (((w.alloc (.cells #[y0, y1, y2, y3, y4, y5] 33)).alloc (.cells #[.int .i64 3, .int .i64 at_, .int .u8 (a : Int), .int .u8 (b : Int), .int .i64 n, .slice kp kn kc] 42)).alloc (.cells #[.int .i64 0, .slice none 0 0, .slice none 0 0, .int .i64 0, .bool false, .int .i64 0] 33)) (.agg #[y0, y1, y2, y3, y4, y5]) r N) := hR.below HBW.out
  have HE1 : Hid (ErrT (((w.alloc (.cells #[y0, y1, y2, y3, y4, y5] 33)).alloc (.cells #[.int .i64 3, .int .i64 at_, .int .u8 (a : Int), .int .u8 (b : Int), .int .i64 n, .slice kp kn kc] 42)).alloc (.cells #[.int .i64 0, .slice none 0 0, .slice none 0 0, .int .i64 0, .bool false, .int .i64 0] 33))) := hE.below HBW.out
  have HS := hid2 hS
  have HONE := hid2 hone
  have hlt := hF.lt
  clear hF hR hE hS hone
  have hsim := (HS.out.flush hdo).1
  have KP := fun w' (hF : Fl w' B g N d) => flush_any hF hN
  generalize (flushP d).2 = cp at *
  have KT := rflush_any HR1.out hN (sim_ll HS.out) (sim_ss HS.out hdo)
  generalize (rflush r).2 = code at *
  generalize (rflush r).1 = r' at *
  have HKT : Hid (Calls Tryd.prog 32 #[.agg #[y0, y1, y2, y3, y4, y5]] (((w.alloc (.cells #[y0, y1, y2, y3, y4, y5] 33)).alloc (.cells #[.int .i64 3, .int .i64 at_, .int .u8 (a : Int), .int .u8 (b : Int), .int .i64 n, .slice kp kn kc] 42)).alloc (.cells #[.int .i64 0, .slice none 0 0, .slice none 0 0, .int .i64 0, .bool false, .int .i64 0] 33)) _) := KT
  have HKP : Hid (∀ w', Fl w' B g N d → Calls Tryd.prog 14 #[.pointer (some ⟨g, 0, none⟩)] w' fun e w'' => ∃ v, e = .returned v ∧ Fault w'' v cp ∧ Fl w'' B g (N + 1) (flushP d).1 ∧ Fr B w' w'') := KP
  have HSIM := hid2 hsim
  have Q1 := X1
  have Q2 := X2
  clear KT KP hsim
  go_enter Tryd.func12, Tryd.ntmps12
  go_wp2_with (first | (go_at_call 32; refine (show Calls _ _ _ _ _ from HKT).mono ?_; rintro e w2 ⟨rv', rfl, hrf, hb2⟩; obtain ⟨x0, x1, x2, x3, x4, x5, hrv, hon⟩ := hrf.parts; subst hrv; have z1 := heap_stays Q1.out hb2; have z2 := heap_stays Q2.out hb2; obtain ⟨⟨p0, p1, p2, p3, p4, p5⟩, _⟩ := six' z1; have hs2 : w.heap.size + 1 + 1 < w2.heap.size := (Array.getElem?_eq_some_iff.1 z2).1; have Z1 := hid2 z1; have Z2 := hid2 z2; have HRF2 := hid2 hrf; have HON := hid2 hon; have HB2 := hid2 hb2; clear z1 z2 hrf hon hb2) | (refine st_new w2 33 6 (size_of Tryd.info33m) rfl (.tmp 17) (.tmp 99) rfl _ rfl rfl #[.int .i64 0, .slice none 0 0, .slice none 0 0, .int .i64 0, .bool false, .int .i64 0] #[x0, x1, x2, x3, x4, x5] rfl rfl rfl rfl (all6 HON.out) ?_))
  have HS3 : Hid ((w2.alloc (.cells #[x0, x1, x2, x3, x4, x5] 33)).drew.heap[w2.heap.size]? = some (.cells #[x0, x1, x2, x3, x4, x5] 33 (0, 0))) := heap_alloc_last _ _
  have HO3 : Hid ((w2.alloc (.cells #[x0, x1, x2, x3, x4, x5] 33)).drew.heap[w.heap.size + 1]? = some (.cells #[.int .i64 3, .int .i64 at_, .int .u8 (a : Int), .int .u8 (b : Int), .int .i64 n, .slice kp kn kc] 42 (0, 0))) := heap_alloc_old Z1.out _
  have HZ3 : Hid ((w2.alloc (.cells #[x0, x1, x2, x3, x4, x5] 33)).drew.heap[w.heap.size + 1 + 1]? = some (.cells #[.int .i64 0, .slice none 0 0, .slice none 0 0, .int .i64 0, .bool false, .int .i64 0] 33 (0, 0))) := heap_alloc_old Z2.out _
  have HBA : Hid (Below w.heap.size w (w2.alloc (.cells #[x0, x1, x2, x3, x4, x5] 33)).drew) := ((HBW.out.trans (HB2.out.mono HBW.out.size)).alloc (by have := HBW.out.size; have := HB2.out.size; omega) _).drew
  have HF3 : Hid (Fl (w2.alloc (.cells #[x0, x1, x2, x3, x4, x5] 33)).drew B g N d) := HF0.out.below HBA.out
  have HRF3 : Hid (RfAt (w2.alloc (.cells #[x0, x1, x2, x3, x4, x5] 33)).drew (.agg #[x0, x1, x2, x3, x4, x5]) r' (N + 1)) := HRF2.out.below (by go_grown)
  have HE3 : Hid (ErrT (w2.alloc (.cells #[x0, x1, x2, x3, x4, x5] 33)).drew) := HE0.out.below HBA.out

  refine wp_region_held_drew (S := fun w' => w'.heap[w2.heap.size]? = some (.cells #[x0, x1, x2, x3, x4, x5] 33 (0, 0)) ∧ w'.heap[w.heap.size + 1]? = some (.cells #[.int .i64 3, .int .i64 at_, .int .u8 (a : Int), .int .u8 (b : Int), .int .i64 n, .slice kp kn kc] 42 (0, 0))) (by kernel_rfl) (⟨HS3.out, HO3.out⟩) (fun hS => ?_)
  change wpAnyH _ _ _ _ _ _ _ _ (World.drew _)
  refine wpAnyH_take (i := 0) (v := .agg #[x0, x1, x2, x3, x4, x5]) rfl (by kernel_rfl) (by kernel_rfl) (by kernel_rfl) (fun _ _ _ h => h) (Or.inl ⟨by kernel_rfl, ?_⟩) hS ?_
  · intro W hw
    obtain ⟨⟨q0, q1, q2, q3, q4, q5⟩, _⟩ := six' hw.1
    clear hw
    go_simp
  change wpAnyH _ _ _ _ _ _ _ (Act.put _ (some 101) _) _
  simp only [Act.put, List.setIfInBounds_toArray, List.set_cons_succ, List.set_cons_zero]
  refine wpAnyH_take (i := 1) (v := .pointer (some ⟨g, 0, none⟩)) rfl (by kernel_rfl) (by kernel_rfl) (by kernel_rfl) (fun _ _ _ h => h) (Or.inl ⟨by kernel_rfl, ?_⟩) hS ?_
  · intro w hw; clear hw; go_simp
  change wpAnyH _ _ _ _ _ _ _ (Act.put _ (some 102) _) _
  simp only [Act.put, List.setIfInBounds_toArray, List.set_cons_succ, List.set_cons_zero]
  refine wpAnyH_take (i := 4) (v := .int .i64 code) rfl (by kernel_rfl) (by kernel_rfl) (by kernel_rfl) (fun _ _ _ h => h) (Or.inl ⟨by kernel_rfl, ?_⟩) hS ?_
  · intro w hw; clear hw; go_simp
  change wpAnyH _ _ _ _ _ _ _ (Act.put _ (some 105) _) _
  simp only [Act.put, List.setIfInBounds_toArray, List.set_cons_succ, List.set_cons_zero]
  refine wpAnyH_ready (rs := [2]) (by kernel_rfl) (by simp) ?_
  refine AllReadyH.cons rfl (fun K hK => ?_) AllReadyH.nil
  go_simp
  go_wp2_with (go_at_call 14; refine (HKP.out _ HF3.out).mono ?_; rintro e w4 ⟨v, rfl, hv, hF4, hR4⟩)
  refine hK.out _ _ (⟨heap_fr hR4 HS3.out, heap_fr hR4 HO3.out⟩) (fun hS => ?_)
  clear hK K
  skip
  refine wpAnyH_ready (rs := [3]) (by kernel_rfl) (by simp) ?_
  refine AllReadyH.cons rfl (fun K hK => ?_) AllReadyH.nil
  go_simp
  go_wp2_with (go_at_call 11; refine (of_code (HE3.out.fr hR4 hB) hv).mono ?_; rintro e w5 ⟨rfl, hb5⟩)
  refine hK.out _ _ (⟨heap_stays (heap_fr hR4 HS3.out) hb5, heap_stays (heap_fr hR4 HO3.out) hb5⟩) (fun hS => ?_)
  clear hK K
  skip
  refine wpAnyH_take (i := 5) (v := .bool (cp == code)) rfl (by kernel_rfl) (by kernel_rfl) (by kernel_rfl) (fun _ _ _ h => h) (Or.inl ⟨by kernel_rfl, ?_⟩) hS ?_
  · intro w hw; clear hw; go_simp
  change wpAnyH _ _ _ _ _ _ _ (Act.put _ (some 106) _) _
  simp only [Act.put, List.setIfInBounds_toArray, List.set_cons_succ, List.set_cons_zero]
  refine wpAnyH_ready (rs := [6]) (by kernel_rfl) (by simp) ?_
  refine AllReadyH.cons rfl (fun K hK => ?_) AllReadyH.nil
  refine step_st33 rfl (.tmp 6) (.tmp 101) rfl (w.heap.size + 1 + 1) rfl _ _ _ _ _ _ _ (heap_stays (heap_fr hR4 HZ3.out) hb5) rfl rfl HON.out ?_
  intro w6 hw6 hg6
  refine hK.out _ _ (⟨heap_grown (heap_stays (heap_fr hR4 HS3.out) hb5) hg6 (by simp; omega), heap_grown (heap_stays (heap_fr hR4 HO3.out) hb5) hg6 (by simp)⟩) (fun hS => ?_)
  clear hK K
  change wpAnyH _ _ _ _ _ _ _ (Act.put _ (none) _) _
  simp only [Act.put]
  refine wpAnyH_take (i := 7) (v := .bool (cp == code)) rfl (by kernel_rfl) (by kernel_rfl) (by kernel_rfl) (fun _ _ _ h => h) (Or.inl ⟨by kernel_rfl, ?_⟩) hS ?_
  · intro w hw; clear hw; go_simp
  change wpAnyH _ _ _ _ _ _ _ (Act.put _ (some 7) _) _
  simp only [Act.put, List.setIfInBounds_toArray, List.set_cons_succ, List.set_cons_zero]
  refine wpAnyH_done (by kernel_rfl) ?_ _
  go_wp2
  refine bodyPost_ret (v := .tuple #[.agg #[x0, x1, x2, x3, x4, x5], .bool (cp == code)]) ?_ rfl ⟨_, _, _, _, _, _, _, rfl, ?_⟩
  · exact results33 Tryd.results12 _ _ (w.heap.size + 1 + 1) rfl _ _ _ _ _ _ 33 (0, 0) hw6 _ rfl
  · exact DoneG.mk' (hF4.below hb5) ((HRF3.out.fr hR4).below hb5) HSIM.out (((Below.fr HBA.out).trans hR4).trans (Below.fr hb5)) (heap_stays (heap_fr hR4 HZ3.out) hb5) hg6 (by omega)
end Go.Proofs.YtfogocappakbdaaDoor
