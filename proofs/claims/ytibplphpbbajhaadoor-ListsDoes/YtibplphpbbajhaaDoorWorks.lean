/-
  The fixed example.
-/
import Derived.Test.YtibplphpbbajhaaDoorAct
import Derived.Test.YtibplphpbbajhaaDoorRead
namespace Go.Proofs.YtibplphpbbajhaaDoor
open Go.RowKit

theorem one_true {w : World} {B B' : Nat} {v u : Value} {l : List Int} (ha : Ls w B v l) (hb : Ls w B' u l) : Calls Tryd.prog 19 #[v, u] w fun e w' => e = .returned (.bool true) ∧ Below w.heap.size w w' := by
  have := ints_any ha hb
  simpa using this
/-- An error in a block from B on. -/
def FaultB (w : World) (B : Nat) (v : Value) (code : Int) : Prop := ∃ b op a, B ≤ b ∧ v = .iface 72 (.pointer (some ⟨b, 0, none⟩)) ∧ w.heap[b]? = some (.cells #[.string op, .int .i64 a, .int .i64 code, .nilIface] 74 (0, 0))
theorem new_at (op : ByteArray) (at_ code : Int) (w : World) (hc : code ≠ 0) : Calls Tryd.prog 23 #[.string op, .int .i64 at_, .int .i64 code] w fun e w' => ∃ v, e = .returned v ∧ FaultB w' w.heap.size v code ∧ Below w.heap.size w w' := by
  refine (new_some op at_ code w (by simpa using hc)).mono fun e w' ⟨h1, h2⟩ => ?_
  subst h2
  exact ⟨_, h1, ⟨w.heap.size, op, at_, Nat.le_refl _, rfl, heap_alloc_new w _⟩, by go_grown⟩
theorem FaultB.mid {B0 B : Nat} {w w' : World} {v : Value} {code : Int} (h : FaultB w B v code) (m : Mid B0 B w w') : FaultB w' B v code := by
  obtain ⟨b, op, a, hb, h1, h2⟩ := h
  exact ⟨b, op, a, hb, h1, m.cells h2 hb⟩
theorem FaultB.lower {B B' : Nat} {w : World} {v : Value} {code : Int} (h : FaultB w B v code) (k : B' ≤ B) : FaultB w B' v code := by
  obtain ⟨b, op, a, hb, h1⟩ := h
  exact ⟨b, op, a, Nat.le_trans k hb, h1⟩
theorem FaultB.fault {B : Nat} {w : World} {v : Value} {code : Int} (h : FaultB w B v code) (hc : code ≠ 0) : Fault w v code := by
  obtain ⟨b, op, a, _, h1, h2⟩ := h
  refine .inr ⟨hc, [], op, a, _, ?_, by simp, h1⟩
  rw [h1]
  exact Lk.cons b op a code .nilIface [] h2 (Lk.nil _)
theorem new_none (w : World) : Calls Tryd.prog 7 #[.int .i64 0, .int .i64 3] w fun e w' => ∃ v, e = .returned (.tuple #[.pointer none, v]) ∧ FaultB w' w.heap.size v 2 ∧ Below w.heap.size w w' := by
  go_enter Tryd.func7, Tryd.ntmps7
  go_wp2_with (go_at_call 23; refine (new_at _ _ _ _ (by decide)).mono ?_; rintro e w1 ⟨v, rfl, hf, hb⟩; have HF := hid2 hf; clear hf)
  refine bodyPost_ret (v := .tuple #[.pointer none, v]) (by simp [results, Tryd.results7, go_sem]) rfl ⟨_, rfl, HF.out, hb⟩

/-- The example's states. -/
def ex1 : Lst := ⟨[[], [0]], [1, 2], [0], 3⟩
def ex2 : Lst := ⟨[[], [1, 0]], [2], [1, 0], 3⟩
def ex3 : Lst := ⟨[[], [0, 1]], [2], [0, 1], 3⟩
theorem ex_a : addP (newP 2 3) 1 = (ex1, 0, 0) := by kernel_rfl
theorem ex_b : addP ex1 1 = (ex2, 1, 0) := by kernel_rfl
theorem ex_c : touchP ex2 0 = (ex3, 0) := by kernel_rfl
theorem ex_d : dropP ex3 9 = (ex3, 2) := by kernel_rfl

set_option maxHeartbeats 2000000 in
set_option maxRecDepth 10000 in
/-- The fixed example. -/
theorem works_any {w : World} (hE : ErrT w) : Calls Tryd.prog 6 #[] w fun e w' => e = .returned (.bool true) ∧ Below w.heap.size w w' := by
  have h0 : 0 < w.heap.size := lt_of_cell hE
  have HE := hid2 hE
  have KN := hid2 (show Calls Tryd.prog 7 #[.int .i64 2, .int .i64 3] w _ from made_any w 2 3 (by omega) (by omega) (by omega) (by omega))
  clear hE
  go_enter Tryd.func6, Tryd.ntmps6
  go_wp2_with fail
  refine (show Calls _ _ _ _ _ from KN.out).mono ?_
  rintro e w1 ⟨g, rfl, x1, b1⟩
  obtain ⟨B0, hB0⟩ : ∃ B0, B0 = w.heap.size := ⟨_, rfl⟩
  obtain ⟨B, hB⟩ : ∃ B, B = w1.heap.size := ⟨_, rfl⟩
  rw [← hB0, ← hB] at x1
  have X1 := hid2 x1
  have E1 := hid2 (HE.out.below b1)
  have B1 := hid2 b1
  have HB0 := hid2 hB0
  have HBB := hid2 hB
  clear x1 b1 hB0 hB KN
  go_wp2_with fail
  refine (new_none _).mono ?_
  rintro e w2 ⟨vf, rfl, f2, b2⟩
  have hb02 : Hid (B ≤ w2.heap.size) := by have := HBB.out; have := b2.size; show _ ≤ _; omega
  have F2 := hid2 (show FaultB w2 B vf 2 from f2.lower (Nat.le_of_eq HBB.out))
  have X2 := hid2 (X1.out.below b2)
  have E2 := hid2 (E1.out.below b2)
  have B2 := hid2 (B1.out.trans (b2.mono B1.out.size))
  clear f2 b2 X1 E1 B1
  have h00 : 0 < B0 := by rw [HB0.out]; exact h0
  have H00 := hid2 h00
  clear h0 h00
  have T2 := add_lx X2.out (by omega) 1
  rw [ex_a] at T2
  go_wp2_with fail
  refine (show Calls _ _ _ _ _ from T2).mono ?_
  clear T2
  rintro e w3 ⟨v3, rfl, f3, x3, m3⟩
  obtain rfl := f3.fault.none
  have X3 := hid2 x3
  have F3 := hid2 (F2.out.mid m3)
  have E3 := hid2 (E2.out.mid m3 H00.out)
  have M3 := hid2 m3
  clear f3 x3 m3 X2 F2 E2
  have T3 := add_lx X3.out (by omega) 1
  rw [ex_b] at T3
  go_wp2_with fail
  refine (show Calls _ _ _ _ _ from T3).mono ?_
  clear T3
  rintro e w4 ⟨v4, rfl, f4, x4, m4⟩
  obtain rfl := f4.fault.none
  have X4 := hid2 x4
  have F4 := hid2 (F3.out.mid m4)
  have E4 := hid2 (E3.out.mid m4 H00.out)
  have M4 := hid2 (M3.out.trans m4)
  clear f4 x4 m4 X3 F3 E3 M3
  have T4 := touch_lx X4.out (by omega) 0
  rw [ex_c] at T4
  go_wp2_with fail
  refine (show Calls _ _ _ _ _ from T4).mono ?_
  clear T4
  rintro e w5 ⟨v5, rfl, f5, x5, m5⟩
  obtain rfl := f5.fault.none
  have X5 := hid2 x5
  have F5 := hid2 (F4.out.mid m5)
  have E5 := hid2 (E4.out.mid m5 H00.out)
  have M5 := hid2 (M4.out.trans m5)
  clear f5 x5 m5 X4 F4 E4 M4
  have T5 := drop_lx X5.out 9
  rw [ex_d] at T5
  go_wp2_with fail
  refine (show Calls _ _ _ _ _ from T5).mono ?_
  clear T5
  rintro e w6 ⟨v6, rfl, f6, x6, m6⟩
  have X6 := hid2 x6
  have D6 := hid2 f6
  have F6 := hid2 (F5.out.mid m6)
  have E6 := hid2 (E5.out.mid m6 H00.out)
  have M6 := hid2 (M5.out.trans m6)
  clear f6 x6 m6 X5 F5 E5 M5
  go_wp2_with fail
  refine (of_code E6.out (F6.out.fault (by decide))).mono ?_
  rintro e w7 ⟨rfl, b7⟩
  have X7 := hid2 (X6.out.below b7)
  have D7 := hid2 (D6.out.below b7)
  have E7 := hid2 (E6.out.below b7)
  have M7 := hid2 (M6.out.then_ b7)
  clear b7 X6 D6 E6 M6 F6
  go_wp2_with fail
  refine (of_code E7.out D7.out.fault).mono ?_
  rintro e w8 ⟨rfl, b8⟩
  have X8 := hid2 (X7.out.below b8)
  have M8 := hid2 (M7.out.then_ b8)
  clear b8 X7 D7 E7 M7
  go_wp2_with fail
  have T8 := order_lx X8.out 1
  rw [show orderP ex3 1 = [0, 1] by decide] at T8
  refine (show Calls _ _ _ _ _ from T8).mono ?_
  clear T8
  rintro e w9 ⟨v9, rfl, l9, b9⟩
  obtain ⟨p9, m9, c9, rfl⟩ := l9.letters
  have X9 := hid2 (X8.out.below b9)
  have M9 := hid2 (M8.out.then_ b9)
  have L9 := hid2 l9
  clear b9 l9 X8 M8
  go_wp2_with fail
  obtain ⟨wa, hwa⟩ : ∃ wa, wa = w9.alloc (.cells #[.int .i64 0, .int .i64 1] 3) := ⟨_, rfl⟩
  rw [← hwa]
  have Aa : Below w9.heap.size w9 wa := by rw [hwa]; go_grown
  have La : Ls wa w9.heap.size (.slice (some ⟨w9.heap.size, 0, none⟩) 2 2) [0, 1] := by
    rw [hwa]
    exact Ls.own (World.ownsRow_lit (base := w9.heap.size) (e := 3) (size := 1) w9 #[.int .i64 0, .int .i64 1] 2 (Nat.le_refl _) (by unfold maxLen; omega) rfl) (Nat.le_refl _)
  have Xa := hid2 (X9.out.below Aa)
  have Ma := hid2 (M9.out.then_ Aa)
  refine (one_true (L9.out.stays Aa) La).mono ?_
  rintro e wb ⟨rfl, bb⟩
  have Xb := hid2 (Xa.out.below bb)
  have Mb := hid2 (Ma.out.then_ bb)
  clear bb Xa Ma Aa La hwa X9 M9 L9
  have Tb := last_lx Xb.out 1
  rw [show lastP (orderP ex3 1) = 1 by decide] at Tb
  go_wp2_with fail
  refine (show Calls _ _ _ _ _ from Tb).mono ?_
  clear Tb
  rintro e wc ⟨rfl, bc⟩
  have Xc := hid2 (Xb.out.below bc)
  have Mc := hid2 (Mb.out.then_ bc)
  clear bc Xb Mb
  have Tc := oldest_lx Xc.out
  rw [show lastP ex3.U = 1 by decide] at Tc
  go_wp2_with fail
  refine (show Calls _ _ _ _ _ from Tc).mono ?_
  clear Tc
  rintro e wd ⟨rfl, bd⟩
  have Xd := hid2 (Xc.out.below bd)
  have Md := hid2 (Mc.out.then_ bd)
  clear bd Xc Mc
  have Td := list_lx Xd.out 0
  rw [show whereP ex3.L 0 = 1 by decide] at Td
  go_wp2_with fail
  refine (show Calls _ _ _ _ _ from Td).mono ?_
  clear Td
  rintro e we ⟨rfl, be⟩
  have Xe := hid2 (Xd.out.below be)
  have Me := hid2 (Md.out.then_ be)
  clear be Xd Md
  have Te := len_lx Xe.out 1
  rw [show ((orderP ex3 1).length : Int) = 2 by decide] at Te
  go_wp2_with fail
  refine (show Calls _ _ _ _ _ from Te).mono ?_
  clear Te
  rintro e wf ⟨rfl, hw⟩
  cases hw
  go_wp2_with fail
  refine (sound_lx Xe.out).mono ?_
  rintro e wg ⟨rfl, bg⟩
  have Mg := hid2 (Me.out.then_ bg)
  clear bg Xe Me
  go_wp2
  go_ret
  refine ⟨rfl, B2.out.trans ?_⟩
  have := HB0.out
  rw [← this]
  exact Mg.out.below (by have := B2.out.size; omega)
end Go.Proofs.YtibplphpbbajhaaDoor
