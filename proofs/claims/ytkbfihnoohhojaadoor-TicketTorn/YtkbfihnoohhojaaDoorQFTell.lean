/-
  Read, and the calls that only tell, over a device.
-/
import Derived.Test.YtkbfihnoohhojaaDoorQFRead
namespace Go.Proofs.YtkbfihnoohhojaaDoor.Fla
open Go.RowKit

/-- What Read answers. -/
def readP (d : Dev) (at_ : Int) : List Nat × Int := if refusesP d at_ = 0 then (lookP d at_, 0) else ([], refusesP d at_)
theorem lookP_length {d : Dev} (h : DevOk d) (at_ : Int) : (lookP d at_).length = 256 := lastP_length (fun c hc => (h.wlen c hc).1) (h.len _)
theorem page_row {w : World} {b : Nat} {l : List Nat} (h : w.heap[b]? = some (.cells (pgV l) 83 (0, 0))) (hl : l.length = 256) : BAt w (.slice (some ⟨b, 0, none⟩) 256 256) l :=
  ⟨some ⟨b, 0, none⟩, 256, by rw [hl], by omega, by unfold maxLen; omega, by rw [U_length]; omega, .inr ⟨b, 0, pgV l, rfl, ⟨83, (0, 0), h, by decide, by decide, by decide, by decide⟩, fun k u hk => by simpa [pgV] using hk⟩⟩
set_option maxHeartbeats 1000000 in
set_option maxRecDepth 10000 in
theorem read_any {w : World} {B g N : Nat} {d : Dev} (hF : Fl w B g N d) (hN : N ≤ 900) (at_ : Int) :
    Calls Tryd.prog 27 #[.pointer (some ⟨g, 0, none⟩), .int .i64 at_] w fun e w' => ∃ v u, e = .returned (.tuple #[v, u]) ∧ Fault w' u (readP d at_).2 ∧ BAt w' v (readP d at_).1 ∧ Below w.heap.size w w' := by
  have hz := Tryd.zero83
  have HF : Hid (Fl w B g N d) := hF
  have hok := hF.1
  clear hF
  unfold readP
  by_cases hr : refusesP d at_ = 0
  · obtain ⟨_, r1, r2⟩ := refuses_zero hr
    have hp1 := hok.pages1
    have KR := refuses_fl HF.out at_
    rw [hr] at KR
    have HKR : Hid (Calls Tryd.prog 38 #[.pointer (some ⟨g, 0, none⟩), .int .i64 at_] w _) := KR
    have KL := last_any HF.out hN at_ r1 (by omega)
    have hll := lookP_length hok at_
    rw [if_pos hr]
    generalize lookP d at_ = q at *
    have HKL : Hid (Calls Tryd.prog 51 #[.pointer (some ⟨g, 0, none⟩), .int .i64 at_] w _) := KL
    have HL : Hid (q.length = 256) := hll
    have hsl := sl79all
    clear KR KL hr hok hll
    go_enter Tryd.func27, Tryd.ntmps27
    go_wp2_with (first | (go_at_call 38; refine (show Calls _ _ _ _ _ from HKR).mono ?_; rintro e w1 ⟨rfl, rfl⟩) | (go_at_call 51; refine (show Calls _ _ _ _ _ from HKL).mono ?_; rintro e w2 ⟨rfl, hb2⟩) | (refine st79 w2 rfl (.tmp 7) (.tmp 18) rfl _ rfl rfl q zeros rfl rfl zeros_length HL.out ?_))
    go_ret2
    exact ⟨_, _, rfl, Fault.nil _, page_row (heap_alloc_last _ _) HL.out, hb2.alloc hb2.size _⟩
  · have hq : (refusesP d at_ == 0) = false := by simpa using hr
    have KR := refuses_fl HF.out at_
    rw [if_neg hr]
    generalize refusesP d at_ = code at *
    have HKR : Hid (Calls Tryd.prog 38 #[.pointer (some ⟨g, 0, none⟩), .int .i64 at_] w _) := KR
    clear KR hr
    go_enter Tryd.func27, Tryd.ntmps27
    go_wp2_with (first | (go_at_call 38; refine (show Calls _ _ _ _ _ from HKR).mono ?_; rintro e w1 ⟨rfl, rfl⟩) | (go_at_call 21; refine (new_code _ _ _ _).mono ?_; rintro e w3 ⟨v, rfl, hv, hb⟩))
    go_ret2
    exact ⟨_, v, rfl, hv, BAt.nil _, hb⟩

theorem fuse_fl {w : World} {B g N : Nat} {d : Dev} (hF : Fl w B g N d) (n : Int) (h0 : -9223372036854775808 ≤ n) (h1 : n ≤ 9223372036854775807) :
    Calls Tryd.prog 31 #[.pointer (some ⟨g, 0, none⟩), .int .i64 n] w fun e w' => e = .returned (.tuple #[]) ∧ Fl w' B g N (fuseP d n) ∧ Fr B w w' := by
  obtain ⟨k1, ⟨k2, k3, k4, k5⟩, m, wv, nn, h6, h7, h8, h9, h10, h11⟩ := hF
  refine (fuse_any d n h6).mono ?_
  rintro e w' ⟨rfl, hg, hh⟩
  refine ⟨rfl, ⟨⟨k1.pages0, k1.pages1, k1.len, k1.byt, k1.wlen⟩, ⟨k2, k3, h0, h1⟩, m, wv, nn, hh, h7.grown hg (by have := map_ne_dev h7 h6; simpa using this), h8.kept hg (.inr (Ne.symm (own_ne h8 h6 (by decide)))), h9, h10, h11⟩, dev_fr h6 h9 hg⟩
theorem down_fl {w : World} {B g N : Nat} {d : Dev} (hF : Fl w B g N d) : Calls Tryd.prog 40 #[.pointer (some ⟨g, 0, none⟩)] w fun e w' => e = .returned (.bool d.down) ∧ w' = w := by
  obtain ⟨m, wv, h⟩ := dev_cells hF
  exact down_any d h
end Go.Proofs.YtkbfihnoohhojaaDoor.Fla
