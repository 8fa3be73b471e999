/-
  The fixed example.
-/
import Derived.Test.YtfogocappakbdaaDoorSame
namespace Go.Proofs.YtfogocappakbdaaDoor
open Go.RowKit

/-- The example's device behind its write, and behind the crash. -/
def exW : Dev := (writeP (newP 4) 1 ((bytP 7 7).take 256)).1
def exC : Dev := crashP exW [3]
theorem ex_code : (writeP (newP 4) 1 ((bytP 7 7).take 256)).2 = 0 := by kernel_rfl
theorem ex_read : (readP exC 1).2 = 0 := by kernel_rfl
theorem ex_read4 : (readP exC 4).2 = 2 := by kernel_rfl
theorem ex_len : (readP exC 1).1.length = 256 := by kernel_rfl
theorem ex_2 : (readP exC 1).1[2]? = some 7 := by kernel_rfl
theorem ex_3 : (readP exC 1).1[3]? = some 0 := by kernel_rfl
theorem ex_all : (allP exC).length = 1 := by kernel_rfl
theorem ex_pages : exC.pages = 4 := by kernel_rfl
theorem ex_done : exC.done = 1 := by kernel_rfl
theorem bytes77 (w : World) (bn : Nat) (hbn : w.heap.size = bn) : Calls Tryd.prog 19 #[.int .u8 7, .int .u8 7] w fun e w' => e = .returned (.slice (some ⟨bn, 0, none⟩) 256 256) ∧ w'.heap[bn]? = some (.cells (pgV (bytP 7 7)) 5 (0, 0)) ∧ Below w.heap.size w w' := bytes_at w 7 7 bn hbn
theorem Fault.none {w : World} {v : Value} (h : Fault w v 0) : v = .nilIface := by
  rcases h with ⟨_, h⟩ | ⟨h, _⟩
  · exact h
  · exact absurd rfl h
theorem kat3 (w : World) : KAt (w.alloc (.cells #[.int .i64 3] 3)) (.slice (some ⟨w.heap.size, 0, none⟩) 1 1) [3] := by
  refine ⟨_, _, rfl, by simp, by unfold maxLen; omega, fun k z hk => ?_⟩
  cases k with
  | zero => simp at hk; subst hk; exact ⟨w.heap.size, 0, rfl, by simp, by simp⟩
  | succ k => simp at hk

set_option maxHeartbeats 4000000 in
set_option maxRecDepth 10000 in
theorem works_any (w : World) (hE : ErrT w) (h0 : 0 < w.heap.size) : Calls Tryd.prog 8 #[] w fun e w' => e = .returned (.bool true) ∧ Below w.heap.size w w' := by
  have HE := hid2 hE
  clear hE
  go_enter Tryd.func8, Tryd.ntmps8
  go_wp2_with fail
  refine (new_good 4 w (B := w.heap.size) (Nat.le_refl _) (by omega) (by omega)).mono ?_
  rintro e w1 ⟨g, rfl, hF1, hb1⟩
  have HF1 := hid2 hF1
  have HB1 := hid2 hb1
  clear hF1 hb1
  go_wp2_with fail
  refine (bytes77 _ w1.heap.size rfl).mono ?_
  rintro e w2 ⟨rfl, hh2, hb2⟩
  have HBV := hid2 (row5 hh2 (bytN_length 7 7 256) (n := 256) (by omega))
  have HF2 := hid2 (HF1.out.below hb2)
  have HB2 := hid2 (HB1.out.trans (hb2.mono HB1.out.size))
  clear hh2 hb2
  go_wp2_with fail
  refine (write_any HF2.out (by omega) 1 HBV.out (fun x hx => bytN_byt (by omega) (by omega) 256 x (List.mem_of_mem_take hx))).mono ?_
  rintro e w3 ⟨xv, rfl, hx, hF3, hR3⟩
  rw [ex_code] at hx
  obtain rfl := hx.none
  have HF3 : Hid (Fl w3 w.heap.size g 1 exW) := hF3
  have HR3 : Hid (Fr w.heap.size w w3) := (Below.fr HB2.out).trans hR3
  clear hx hF3 hR3
  go_wp2_with fail
  refine (crash_any (HF3.out.below (by go_grown)) (by omega) (kat3 w3)).mono ?_
  rintro e w4 ⟨rfl, hF4, hR4⟩
  have HF4 : Hid (Fl w4 w.heap.size g 1 exC) := hF4
  have HR4 : Hid (Fr w.heap.size w w4) := (HR3.out.trans (Below.fr (by go_grown))).trans hR4
  clear hF4 hR4
  go_wp2_with fail
  refine (read_any HF4.out (by omega) 1).mono ?_
  rintro e w5 ⟨bv, yv, rfl, hy, hbv, hb5⟩
  rw [ex_read] at hy
  obtain rfl := hy.none
  obtain ⟨bb, off, cap, rfl, hrg⟩ := hbv.page ex_len
  have c2 := hrg 2 (.int .u8 7) (by have := U_at ex_2; simpa using this)
  have c3 := hrg 3 (.int .u8 0) (by have := U_at ex_3; simpa using this)
  have hbb : bb < w5.heap.size := lt_of_cell c2
  have HB5 := hid2 hb5
  have HF5 := hid2 (HF4.out.below hb5)
  have C2 := hid2 c2
  have C3 := hid2 c3
  clear hy hbv hb5 hrg c2 c3
  go_wp2_with fail
  refine (read_any HF5.out (by omega) 4).mono ?_
  rintro e w6 ⟨bv2, zv, rfl, hz, hbv2, hb6⟩
  rw [ex_read4] at hz
  have HZ := hid2 hz
  have HF6 := hid2 (HF5.out.below hb6)
  have HB6 := hid2 (HB5.out.trans (hb6.mono HB5.out.size))
  have C2' := hid2 ((hb6.cell (p := ⟨bb, off + 2, none⟩) hbb).trans C2.out)
  have C3' := hid2 ((hb6.cell (p := ⟨bb, off + 3, none⟩) hbb).trans C3.out)
  have hbb6 : bb < w6.heap.size := by have := hb6.size; omega
  clear hz hbv2 hb6
  go_wp2_with fail
  refine (new_bad 0 w6 (by omega)).mono ?_
  rintro e w7 ⟨wv, rfl, hw7, hb7⟩
  have HW := hid2 hw7
  have HZ7 := hid2 (HZ.out.below hb7)
  have HF7 := hid2 (HF6.out.below hb7)
  have HB7 := hid2 (HB6.out.trans (hb7.mono HB6.out.size))
  have c2 := (hb7.cell (p := ⟨bb, off + 2, none⟩) hbb6).trans C2'.out
  have c3 := (hb7.cell (p := ⟨bb, off + 3, none⟩) hbb6).trans C3'.out
  have HFr7 : Hid (Fr w.heap.size w w7) := HR4.out.trans (Below.fr HB7.out)
  have HE7 := hid2 (HE.out.fr HFr7.out h0)
  clear hw7 hb7
  go_wp2_with fail
  refine (of_code HE7.out HZ7.out).mono ?_
  rintro e w8 ⟨rfl, hb8⟩
  have HF8 := hid2 (HF7.out.below hb8)
  have HW8 := hid2 (HW.out.below hb8)
  have HE8 := hid2 (HE7.out.below hb8)
  have HFr8 := hid2 (HFr7.out.trans (Below.fr hb8))
  clear hb8
  go_wp2_with fail
  refine (of_code HE8.out HW8.out).mono ?_
  rintro e w9 ⟨rfl, hb9⟩
  have HF9 := hid2 (HF8.out.below hb9)
  have HFr9 := hid2 (HFr8.out.trans (Below.fr hb9))
  have KP := pages_fl HF9.out
  have KD := done_fl HF9.out
  have KC := cells_any HF9.out (by omega)
  rw [ex_pages] at KP
  rw [ex_done] at KD
  have HKP : Hid (Calls Tryd.prog 25 #[.pointer (some ⟨g, 0, none⟩)] w9 _) := KP
  have HKD : Hid (Calls Tryd.prog 26 #[.pointer (some ⟨g, 0, none⟩)] w9 _) := KD
  have HKC : Hid (Calls Tryd.prog 23 #[.pointer (some ⟨g, 0, none⟩)] w9 _) := KC
  clear hb9 KP KD KC
  go_wp2_with (first | (go_at_call 25; refine (show Calls _ _ _ _ _ from HKP).mono ?_; rintro e wa ⟨rfl, hww⟩; cases hww) | (go_at_call 26; refine (show Calls _ _ _ _ _ from HKD).mono ?_; rintro e wa ⟨rfl, hww⟩; cases hww) | (go_at_call 23; refine (show Calls _ _ _ _ _ from HKC).mono ?_; rintro e wb ⟨v1, l1, rfl, hC1, hP1, hbb1⟩; have hl1 : l1.length = 1 := (by rw [← plainC_length, hP1]; exact ex_all); obtain ⟨p1, k1, hv1, _⟩ := hC1.each; rw [hl1] at hv1; subst hv1; clear hl1))
  go_ret
  exact ⟨rfl, (HFr9.out.trans (Below.fr hbb1)).below (Nat.le_refl _)⟩
end Go.Proofs.YtfogocappakbdaaDoor
