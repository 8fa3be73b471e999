/-
  Write and Trim, over a device.
-/
import Derived.Test.YtkbfihnoohhojaaGreatDoorQFWait
import Derived.Test.YtkbfihnoohhojaaGreatDoorQFLay
import Derived.Laws.Cover3
namespace Go.Proofs.YtkbfihnoohhojaaGreatDoor.Fla
open Go.RowKit

/-- An error with this code alone; none, if it is 0. -/
def Fault (w : World) (v : Value) (code : Int) : Prop := (code = 0 ∧ v = .nilIface) ∨ (code ≠ 0 ∧ ∃ b op a, v = .iface 113 (.pointer (some ⟨b, 0, none⟩)) ∧ w.heap[b]? = some (.cells #[.string op, .int .i64 a, .int .i64 code, .nilIface] 115 (0, 0)))
theorem Fault.fr {B : Nat} {w w' : World} {v : Value} {code : Int} (h : Fault w v code) (hf : Fr B w w') : Fault w' v code := by
  rcases h with h | ⟨h0, b, op, a, h1, h2⟩
  · exact .inl h
  · refine .inr ⟨h0, b, op, a, h1, ?_⟩
    rw [hf.stat b _ ⟨115, _, h2, by decide, by decide⟩]; exact h2
theorem Fault.below {w w' : World} {v : Value} {code : Int} (h : Fault w v code) (hb : Below w.heap.size w w') : Fault w' v code := h.fr (Below.fr (B := 0) hb)
theorem Fault.nil (w : World) : Fault w .nilIface 0 := .inl ⟨rfl, rfl⟩

theorem of_code {w : World} {v : Value} {code : Int} (hg : ErrT w) (h : Fault w v code) : Calls Tryz.prog 10 #[v] w fun e w' => e = .returned (.int .i64 code) ∧ Below w.heap.size w w' := by
  rcases h with ⟨rfl, rfl⟩ | ⟨h0, b, op, a, rfl, h2⟩
  · exact of_nil w hg
  · exact of_some w hg (dn := []) (Lk.cons b op a code .nilIface [] h2 (Lk.nil _)) (by simp)
theorem new_code (op : ByteArray) (at_ code : Int) (w : World) : Calls Tryz.prog 29 #[.string op, .int .i64 at_, .int .i64 code] w fun e w' => ∃ v, e = .returned v ∧ Fault w' v code ∧ Below w.heap.size w w' := by
  by_cases h : code = 0
  · subst h
    refine (new_zero op at_ w).mono ?_
    rintro e w' ⟨rfl, rfl⟩
    exact ⟨_, rfl, Fault.nil _, Below.refl _ _⟩
  · refine (new_some op at_ code w (by simpa using h)).mono ?_
    rintro e w' ⟨rfl, rfl⟩
    exact ⟨_, rfl, .inr ⟨h, _, op, at_, rfl, heap_alloc_last w _⟩, by go_grown⟩

theorem ErrT.fr {B : Nat} {w w' : World} (h : ErrT w) (hf : Fr B w w') (hB : 0 < B) : ErrT w' := by
  have h0 : (0 : Nat) < w.heap.size := lt_of_cell h
  have := hf.low 0 h0 hB
  unfold ErrT at *
  rw [World.cell?_of_block (a := ⟨0, 0, none⟩) this]; exact h

theorem own_fr {B : Nat} {w w1 : World} {v : Value} {n : Nat} {xs : List Value} (h : w.ownsRow B 101 258 v n xs) (hg : w.grownBy w1 v.ownBlock) : Fr B w w1 := by
  refine ⟨hg.os, hg.tape, hg.output, hg.size, fun k hk hb => hg.block k hk ?_, fun k cs hs => hg.block k hs.lt ?_⟩
  · intro e; have := (h.lt k e.symm).1; omega
  · obtain ⟨e, fr, h1, h2, h3⟩ := hs
    exact own_ne h h1 h3
theorem dev_fr {B g : Nat} {w w1 : World} {cs : Array Value} (h : w.heap[g]? = some (.cells cs 74 (0, 0))) (hB : B ≤ g) (hg : w.grownBy w1 (some g)) : Fr B w w1 :=
  grown_fr hg hB (by rintro cs' ⟨e, fr, h1, h2, _⟩; rw [h] at h1; cases h1; exact h2 rfl)
theorem map_ne_own {w : World} {B m n k : Nat} {pg : Pg} {v : Value} {xs : List Value} (hm : MapAt w m n pg) (h : w.ownsRow B 101 258 v k xs) : some m ≠ v.ownBlock := by
  obtain ⟨D, ⟨es, clock, h1, _⟩, _⟩ := hm
  rcases h.2 with ⟨rfl, _⟩ | ⟨g', cap, cur, rfl, _, hh, _⟩
  · simp [Value.ownBlock]
  · intro e
    simp only [Value.ownBlock, Option.some.injEq] at e
    subst e
    rw [hh] at h1
    cases h1
theorem map_ne_dev {w : World} {m n g : Nat} {pg : Pg} {cs : Array Value} (hm : MapAt w m n pg) (h : w.heap[g]? = some (.cells cs 74 (0, 0))) : m ≠ g := by
  obtain ⟨D, ⟨es, clock, h1, _⟩, _⟩ := hm
  intro e; subst e; rw [h] at h1; cases h1

theorem Fl.below {w w' : World} {B g N : Nat} {d : Dev} (h : Fl w B g N d) (hb : Below w.heap.size w w') : Fl w' B g N d := by
  obtain ⟨h1, h2, m, wv, n, h3, h4, h5, h6⟩ := h
  exact ⟨h1, h2, m, wv, n, heap_stays h3 hb, h4.below hb, own_below h5 hb, h6⟩
theorem Fl.lt {w : World} {B g N : Nat} {d : Dev} (h : Fl w B g N d) : B ≤ w.heap.size ∧ g < w.heap.size := by
  obtain ⟨h1, h2, m, wv, n, h3, h4, h5, h6, h7, h8⟩ := h
  have : g < w.heap.size := (Array.getElem?_eq_some_iff.1 h3).1
  exact ⟨by omega, this⟩
theorem Fl.more {w : World} {B g N N' : Nat} {d : Dev} (h : Fl w B g N d) (hN : N ≤ N') : Fl w B g N' d := by
  obtain ⟨h1, ⟨h2, h3, h4, h5⟩, m, wv, n, h6, h7, h8, h9, h10, h11⟩ := h
  exact ⟨h1, ⟨h2, by omega, h4, h5⟩, m, wv, n, h6, h7, h8, h9, h10, by omega⟩

theorem waitP_ok {d : Dev} {c : Chg} (h : DevOk d) (hc : c.p.length = 256 ∧ (∀ x ∈ c.p, x < 256) ∧ (c.trim = true → c.p = zeros) ∧ 0 ≤ c.at_ ∧ c.at_ < d.pages) : DevOk (waitP d c) :=
  ⟨h.pages0, h.pages1, h.len, h.byt, fun x hx => by
    have hx' : x ∈ d.waits ++ [c] := hx
    rcases List.mem_append.1 hx' with h1 | h1
    · exact h.wlen x h1
    · simp at h1; subst h1; exact hc⟩

/-- What a call of wait leaves. -/
theorem wait_fl {w : World} {B g N : Nat} {d : Dev} (hF : Fl w B g N d) (hN : N < 900) (c : Chg) (hc : c.p.length = 256 ∧ (∀ x ∈ c.p, x < 256) ∧ (c.trim = true → c.p = zeros) ∧ 0 ≤ c.at_ ∧ c.at_ < d.pages) :
    Calls Tryz.prog 50 #[.pointer (some ⟨g, 0, none⟩), .agg (chgV c)] w fun e w' => e = .returned (.int .i64 (codeP (waitP d c))) ∧ Fl w' B g (N + 1) (waitP d c) ∧ Fr B w w' := by
  have hlt := hF.lt
  obtain ⟨h1, ⟨h2, h3, h4, h5⟩, m, wv, n, h6, h7, h8, h9, h10, h11⟩ := hF
  refine (wait_any d c hc.1 h6 h8 hlt.1 (by omega) h2 (by omega) h4 h5).mono ?_
  rintro e w' ⟨rfl, wv', w1, k1, k2, k3, k4⟩
  have kd := heap_grown h6 k3 (own_ne h8 h6 (by decide))
  have km := (h7.grown k3 (map_ne_own h7 h8)).grown k4 (by have := map_ne_dev h7 h6; simpa using this)
  refine ⟨rfl, ⟨waitP_ok h1 hc, ⟨?_, ?_, ?_, ?_⟩, m, wv', n, k1, km, k2, h9, h10, ?_⟩, (own_fr h8 k3).trans (dev_fr kd h9 k4)⟩
  · show 0 ≤ d.done + 1; omega
  · show d.done + 1 ≤ ((N + 1 : Nat) : Int); omega
  · show _ ≤ (if 0 < d.fuse then d.fuse - 1 else d.fuse); split <;> omega
  · show (if 0 < d.fuse then d.fuse - 1 else d.fuse) ≤ _; split <;> omega
  · show n + (d.waits ++ [c]).length ≤ N + 1; simp; omega

theorem dev_cells {w : World} {B g N : Nat} {d : Dev} (h : Fl w B g N d) : ∃ m wv, w.heap[g]? = some (.cells #[.int .i64 d.pages, .map (some m), wv, .int .i64 d.fuse, .bool d.down, .int .i64 d.done] 74 (0, 0)) := by
  obtain ⟨_, _, m, wv, _, h1, _⟩ := h
  exact ⟨m, wv, h1⟩
theorem refuses_fl {w : World} {B g N : Nat} {d : Dev} (hF : Fl w B g N d) (at_ : Int) : Calls Tryz.prog 49 #[.pointer (some ⟨g, 0, none⟩), .int .i64 at_] w fun e w' => e = .returned (.int .i64 (refusesP d at_)) ∧ w' = w := by
  obtain ⟨m, wv, h⟩ := dev_cells hF
  exact refuses_any d at_ h
theorem refuses_zero {d : Dev} {at_ : Int} (h : refusesP d at_ = 0) : d.down = false ∧ 0 ≤ at_ ∧ at_ < d.pages := by
  unfold refusesP at h
  cases hd : d.down
  · rw [hd] at h
    simp at h
    exact ⟨rfl, by omega, by omega⟩
  · rw [hd] at h; simp at h

theorem zeros_byt : ∀ x ∈ zeros, x < 256 := by intro x hx; rw [List.eq_of_mem_replicate hx]; omega
set_option maxHeartbeats 1000000 in
set_option maxRecDepth 10000 in
theorem trim_any {w : World} {B g N : Nat} {d : Dev} (hF : Fl w B g N d) (hN : N < 900) (at_ : Int) :
    Calls Tryz.prog 24 #[.pointer (some ⟨g, 0, none⟩), .int .i64 at_] w fun e w' => ∃ v, e = .returned v ∧ Fault w' v (trimP d at_).2 ∧ Fl w' B g (N + 1) (trimP d at_).1 ∧ Fr B w w' := by
  have HF : Hid (Fl w B g N d) := hF
  clear hF
  unfold trimP
  by_cases hr : refusesP d at_ = 0
  · obtain ⟨_, r1, r2⟩ := refuses_zero hr
    have KR := refuses_fl HF.out at_
    rw [hr] at KR
    have HKR : Hid (Calls Tryz.prog 49 #[.pointer (some ⟨g, 0, none⟩), .int .i64 at_] w _) := KR
    have KW := wait_fl HF.out hN ⟨at_, true, zeros⟩ ⟨zeros_length, zeros_byt, fun _ => rfl, r1, r2⟩
    rw [if_pos hr]
    generalize codeP (waitP d ⟨at_, true, zeros⟩) = code at *
    have HKW : Hid (Calls Tryz.prog 50 #[.pointer (some ⟨g, 0, none⟩), .agg (chgV ⟨at_, true, zeros⟩)] w _) := KW
    clear KR KW hr
    go_enter Tryz.func24, Tryz.ntmps24
    go_wp2_with (first | (go_at_call 49; refine (show Calls _ _ _ _ _ from HKR).mono ?_; rintro e w1 ⟨rfl, rfl⟩) | (refine wl_bd81t rfl (.tmp 16) rfl at_ rfl ?_) | (go_at_call 50; refine (show Calls _ _ _ _ _ from HKW).mono ?_; rintro e w2 ⟨rfl, hF2, hR2⟩) | (go_at_call 29; refine (new_code _ _ _ _).mono ?_; rintro e w3 ⟨v, rfl, hv, hb⟩))
    go_ret
    exact ⟨v, rfl, hv, hF2.below hb, hR2.trans (Below.fr hb)⟩
  · have hq : (refusesP d at_ == 0) = false := by simpa using hr
    have KR := refuses_fl HF.out at_
    rw [if_neg hr]
    generalize refusesP d at_ = code at *
    have HKR : Hid (Calls Tryz.prog 49 #[.pointer (some ⟨g, 0, none⟩), .int .i64 at_] w _) := KR
    clear KR hr
    go_enter Tryz.func24, Tryz.ntmps24
    go_wp2_with (first | (go_at_call 49; refine (show Calls _ _ _ _ _ from HKR).mono ?_; rintro e w1 ⟨rfl, rfl⟩) | (go_at_call 29; refine (new_code _ _ _ _).mono ?_; rintro e w3 ⟨v, rfl, hv, hb⟩))
    go_ret
    exact ⟨v, rfl, hv, (HF.out.below hb).more (by omega), Below.fr hb⟩

/-- Bytes of a whole page. -/
theorem BAt.page {w : World} {v : Value} {b : List Nat} (h : BAt w v b) (hl : b.length = 256) : ∃ bb off cap, v = .slice (some ⟨bb, off, none⟩) 256 cap ∧ w.rangeAt bb off (U b) := by
  obtain ⟨p, cap, h1, h2, h3, h4, h5⟩ := h
  rcases h5 with h5 | ⟨bb, off, cs, rfl, h7, h8⟩
  · omega
  · exact ⟨bb, off, cap, by rw [h1, hl], fun j u hj => h7.stat.cell (h8 j u hj)⟩
set_option maxHeartbeats 1000000 in
set_option maxRecDepth 10000 in
theorem write_any {w : World} {B g N : Nat} {d : Dev} (hF : Fl w B g N d) (hN : N < 900) (at_ : Int) {v : Value} {b : List Nat} (hb : BAt w v b) (hby : ∀ x ∈ b, x < 256) :
    Calls Tryz.prog 38 #[.pointer (some ⟨g, 0, none⟩), .int .i64 at_, v] w fun e w' => ∃ v, e = .returned v ∧ Fault w' v (writeP d at_ b).2 ∧ Fl w' B g (N + 1) (writeP d at_ b).1 ∧ Fr B w w' := by
  have HF : Hid (Fl w B g N d) := hF
  clear hF
  unfold writeP
  by_cases hr : refusesP d at_ = 0
  · obtain ⟨_, r1, r2⟩ := refuses_zero hr
    have KR := refuses_fl HF.out at_
    rw [hr] at KR
    have HKR : Hid (Calls Tryz.prog 49 #[.pointer (some ⟨g, 0, none⟩), .int .i64 at_] w _) := KR
    rw [if_pos hr]
    by_cases hl : b.length = 256
    · rw [if_pos hl]
      have KW := wait_fl HF.out hN ⟨at_, false, b⟩ ⟨hl, hby, fun h => (by cases h), r1, r2⟩
      generalize codeP (waitP d ⟨at_, false, b⟩) = code at *
      have HKW : Hid (Calls Tryz.prog 50 #[.pointer (some ⟨g, 0, none⟩), .agg (chgV ⟨at_, false, b⟩)] w _) := KW
      obtain ⟨bb, off, cap, rfl, hrg⟩ := hb.page hl
      have HRG : Hid (w.rangeAt bb off (U b)) := hrg
      have ha := fun a cap w => run_arrayAt (P := Tryz.prog) (w := w) 99 5 256 a 256 cap Tryz.underlying99 (Nat.le_refl _)
      have HL : Hid (b.length = 256) := hl
      clear KR KW hr hb hrg hl
      go_enter Tryz.func38, Tryz.ntmps38
      go_wp2_with (first | (go_at_call 49; refine (show Calls _ _ _ _ _ from HKR).mono ?_; rintro e w1 ⟨rfl, rfl⟩) | (refine ld79 rfl (.tmp 25) rfl bb off rfl b HL.out HRG.out ?_) | (refine wl_bd81w rfl (.tmp 23) (.tmp 26) rfl at_ b HL.out rfl rfl ?_) | (go_at_call 50; refine (show Calls _ _ _ _ _ from HKW).mono ?_; rintro e w2 ⟨rfl, hF2, hR2⟩) | (go_at_call 29; refine (new_code _ _ _ _).mono ?_; rintro e w3 ⟨v, rfl, hv, hb⟩))
      go_ret
      exact ⟨v, rfl, hv, hF2.below hb, hR2.trans (Below.fr hb)⟩
    · rw [if_neg hl]
      obtain ⟨p, cap, rfl, _, _⟩ := hb.form
      have hq : ((b.length : Int) == 256) = false := by simp; omega
      clear KR hr hb hl
      go_enter Tryz.func38, Tryz.ntmps38
      go_wp2_with (first | (go_at_call 49; refine (show Calls _ _ _ _ _ from HKR).mono ?_; rintro e w1 ⟨rfl, rfl⟩) | (go_at_call 29; refine (new_code _ _ _ _).mono ?_; rintro e w3 ⟨v, rfl, hv, hb⟩))
      go_ret
      exact ⟨v, rfl, hv, (HF.out.below hb).more (by omega), Below.fr hb⟩
  · have hq : (refusesP d at_ == 0) = false := by simpa using hr
    have KR := refuses_fl HF.out at_
    rw [if_neg hr]
    generalize refusesP d at_ = code at *
    have HKR : Hid (Calls Tryz.prog 49 #[.pointer (some ⟨g, 0, none⟩), .int .i64 at_] w _) := KR
    clear KR hr
    go_enter Tryz.func38, Tryz.ntmps38
    go_wp2_with (first | (go_at_call 49; refine (show Calls _ _ _ _ _ from HKR).mono ?_; rintro e w1 ⟨rfl, rfl⟩) | (go_at_call 29; refine (new_code _ _ _ _).mono ?_; rintro e w3 ⟨v, rfl, hv, hb⟩))
    go_ret
    exact ⟨v, rfl, hv, (HF.out.below hb).more (by omega), Below.fr hb⟩
end Go.Proofs.YtkbfihnoohhojaaGreatDoor.Fla
