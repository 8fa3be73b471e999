/-
  The ticket's calls: Open, Next, Put, Firm.
-/
import Derived.Test.YtkbfihnoohhojaaGreatDoorQOpens
import Derived.Test.YtkbfihnoohhojaaGreatDoorQFFlush
namespace Go.Proofs.YtkbfihnoohhojaaGreatDoor
open Go.RowKit Go.Extern.Stop Go.Stop Go.Extern

set_option maxHeartbeats 1000000 in
theorem open_good {w : World} {B g N : Nat} {d : Fla.Dev} (hF : Fla.Fl w B g N d) (hN : N ≤ 900) (hd : d.down = false) :
    Calls Tryz.prog 7 #[.pointer (some ⟨g, 0, none⟩)] w fun e w' => ∃ t, e = .returned (.tuple #[.pointer (some ⟨t, 0, none⟩), .nilIface]) ∧ w.heap.size ≤ t ∧ Tk w' t g (nextL (Fla.allP d)) ∧ Below w.heap.size w w' := by
  have KD := Fla.down_fl hF
  rw [hd] at KD
  have KD := hid2 KD
  have KG := hid2 (greatest_any hF hN)
  have h1 := nextL_one (Fla.allP d)
  have h2 := nextL_le (Fla.allP d)
  clear hF hd
  generalize nextL (Fla.allP d) = n at *
  go_enter Tryz.func7, Tryz.ntmps7
  go_wp2_with fail
  refine (show Calls _ _ _ _ _ from KD).mono ?_
  rintro e w1 ⟨rfl, rfl⟩
  go_wp2_with fail
  refine (show Calls _ _ _ _ _ from KG).mono ?_
  rintro e w2 ⟨rfl, hb2⟩
  have hs := hb2.size
  go_wp2
  go_ret2
  refine ⟨w2.heap.size, rfl, hs, ?_, hb2.alloc hs _⟩
  have := heap_alloc_last w2 (.cells #[.pointer (some ⟨g, 0, none⟩), .int .i64 n] 59)
  exact this

set_option maxHeartbeats 1000000 in
theorem open_down {w : World} {B g N : Nat} {d : Fla.Dev} (hF : Fla.Fl w B g N d) (hd : d.down = true) :
    Calls Tryz.prog 7 #[.pointer (some ⟨g, 0, none⟩)] w fun e w' => ∃ u, e = .returned (.tuple #[.pointer none, u]) ∧ FltN 12 w' u 11 ∧ Below w.heap.size w w' := by
  have KD := Fla.down_fl hF
  rw [hd] at KD
  have KD := hid2 KD
  clear hF hd
  go_enter Tryz.func7, Tryz.ntmps7
  go_wp2_with fail
  refine (show Calls _ _ _ _ _ from KD).mono ?_
  rintro e w1 ⟨rfl, rfl⟩
  go_wp2_with fail
  refine (new_code _ _ _ _).mono ?_
  rintro e w2 ⟨v, rfl, hv, hb⟩
  go_wp2
  go_ret2
  exact ⟨_, rfl, (FltN.of_base hv).more (by omega), hb⟩

set_option maxHeartbeats 1000000 in
theorem open_nil (w : World) :
    Calls Tryz.prog 7 #[.pointer none] w fun e w' => ∃ u, e = .returned (.tuple #[.pointer none, u]) ∧ FltN 12 w' u 1 ∧ Below w.heap.size w w' := by
  go_enter Tryz.func7, Tryz.ntmps7
  go_wp2_with fail
  refine (new_code _ _ _ _).mono ?_
  rintro e w2 ⟨v, rfl, hv, hb⟩
  go_wp2
  go_ret2
  exact ⟨_, rfl, (FltN.of_base hv).more (by omega), hb⟩

set_option maxHeartbeats 1000000 in
theorem next_any {w : World} {t g : Nat} {n : Int} (hT : Tk w t g n) : Calls Tryz.prog 25 #[.pointer (some ⟨t, 0, none⟩)] w fun e w' => e = .returned (.int .i64 n) ∧ w' = w := by
  obtain ⟨⟨c0, c1⟩, _⟩ := hT.cells
  clear hT
  go_enter Tryz.func25, Tryz.ntmps25
  go_wp2
  go_ret
  exact ⟨rfl, rfl⟩

set_option maxHeartbeats 2000000 in
set_option maxRecDepth 10000 in
theorem tput_bad {w : World} {B g N t : Nat} {d : Fla.Dev} {n : Int} (hF : Fla.Fl w B g N d) (hT : Tk w t g n) {p : Option Addr} {cap : Nat} {b : List Nat} (hl : b.length ≤ 9223372036854775807) (at_ kind : Int) (hc : Lea.checkC n kind b.length ≠ 0) :
    Calls Tryz.prog 11 #[.pointer (some ⟨t, 0, none⟩), .int .i64 at_, .int .i64 kind, .slice p b.length cap] w fun e w' => ∃ u, e = .returned u ∧ FltN 12 w' u (tputP d n at_ kind b).2.2 ∧ Fla.Fl w' B g (N + 1) (tputP d n at_ kind b).1 ∧ Tk w' t g (tputP d n at_ kind b).2.1 ∧ Fs B w w' := by
  have e0 : tputP d n at_ kind b = (d, n, Lea.checkC n kind b.length) := by unfold tputP; rw [if_neg hc]
  rw [e0]
  obtain ⟨⟨c0, c1⟩, _⟩ := hT.cells
  have HF := hid2 hF
  have HT := hid2 hT
  have HC := hid2 hc
  have KP := hid2 (Lea.put_bad (s := n) (k := kind) (p := p) (cap := cap) w hl hc)
  clear hF hT hc e0 hl
  generalize b.length = m at *
  generalize Lea.checkC n kind m = code at *
  go_enter Tryz.func11, Tryz.ntmps11
  go_wp2_with fail
  refine (show Calls _ _ _ _ _ from KP).mono ?_
  rintro e w1 ⟨u, rfl, hu, hb1⟩
  obtain ⟨a, rfl⟩ := (FltN.of_lea hu).some HC.out
  have HU := hid2 (FltN.of_lea hu)
  have HB1 := hid2 hb1
  clear hu hb1 c0 c1
  go_wp2_with fail
  refine (wrap_n _ _ HU.out).mono ?_
  rintro e w2 ⟨u2, rfl, hu2, hb2⟩
  have hb : Below w.heap.size w w2 := HB1.out.trans (hb2.mono HB1.out.size)
  go_wp2
  go_ret
  exact ⟨_, rfl, hu2.more (by omega), (HF.out.below hb).more (by omega), HT.out.below hb, Fs.below hb⟩

set_option maxHeartbeats 4000000 in
set_option maxRecDepth 10000 in
theorem tput_good {w : World} {B g N t : Nat} {d : Fla.Dev} {n kind : Int} (hF : Fla.Fl w B g N d) (hN : N < 900) (hT : Tk w t g n) (hBt : B ≤ t) {bb : Nat} {p : Option Addr} {cap : Nat} {b : List Nat} (hb : Lea.SlAt w bb (.slice p b.length cap) (Lea.U b)) (hby : Lea.Byt b) (at_ : Int) (hc : Lea.checkC n kind b.length = 0) :
    Calls Tryz.prog 11 #[.pointer (some ⟨t, 0, none⟩), .int .i64 at_, .int .i64 kind, .slice p b.length cap] w fun e w' => ∃ u, e = .returned u ∧ FltN 12 w' u (tputP d n at_ kind b).2.2 ∧ Fla.Fl w' B g (N + 1) (tputP d n at_ kind b).1 ∧ Tk w' t g (tputP d n at_ kind b).2.1 ∧ Fs B w w' := by
  have hz := Lea.check_zero hc
  obtain ⟨s, rfl⟩ : ∃ s : Nat, n = (s : Int) := ⟨n.toNat, by omega⟩
  obtain ⟨k, rfl⟩ : ∃ k : Nat, kind = (k : Int) := ⟨kind.toNat, by omega⟩
  have hs1 : 1 ≤ s := by omega
  have hs2 : s ≤ 1099511627776 := by omega
  have hk1 : 1 ≤ k := by omega
  have hk2 : k ≤ 5 := by omega
  have hpl := Lea.page_length (s := s) (k := k) hz.2.2.2.2
  have hpb := Lea.page_byt (s := s) (k := k) (by omega) hz.2.2.2.2 hby
  obtain ⟨⟨c0, c1⟩, _⟩ := hT.cells
  have KP := hid2 (Lea.put_good hb hby hs1 hs2 hk1 hk2 hz.2.2.2.2)
  have e0 : tputP d s at_ k b = if (Fla.writeP d at_ (Lea.page s k b)).2 = 0 then ((Fla.writeP d at_ (Lea.page s k b)).1, (s : Int) + 1, 0) else ((Fla.writeP d at_ (Lea.page s k b)).1, (s : Int), (Fla.writeP d at_ (Lea.page s k b)).2) := by unfold tputP; rw [if_pos hc]; rfl
  rw [e0]
  have HF := hid2 hF
  have HT := hid2 hT
  have HPL := hid2 hpl
  have HPB := hid2 hpb
  clear hF hT hc e0 hz hb hby hpl hpb
  generalize Lea.page s k b = pg at *
  generalize b.length = m at *
  generalize hr : Fla.writeP d at_ pg = r
  obtain ⟨d2, code⟩ := r
  have HR := hid2 hr
  clear hr
  dsimp only
  go_enter Tryz.func11, Tryz.ntmps11
  go_wp2_with fail
  refine (show Calls _ _ _ _ _ from KP).mono ?_
  rintro e w1 ⟨b1, o1, cap1, rfl, _, hown, hb1⟩
  have HBA : Hid (Fla.BAt w1 (.slice (some ⟨b1, o1, none⟩) 256 cap1) pg) := own_bat (by rw [HPL.out]; exact hown)
  have HF1 := hid2 (HF.out.below hb1)
  have HT1 := hid2 (HT.out.below hb1)
  have HB1 := hid2 hb1
  obtain ⟨⟨d0, d1⟩, _⟩ := HT1.out.cells
  clear hb1 c0 c1 hown
  have KW := hid2 (Fla.write_any HF1.out hN at_ HBA.out HPB.out)
  go_wp2_with fail
  refine (show Calls _ _ _ _ _ from KW).mono ?_
  rintro e w2 ⟨u, rfl, hu, hf2, hfr⟩
  rw [HR.out] at hu hf2
  have HF2 := hid2 hf2
  have HT2 := hid2 (HT1.out.fr hfr)
  have HFR := hid2 ((Fs.below (B := B) HB1.out).trans (Fs.of hfr))
  obtain ⟨⟨q0, q1⟩, qf⟩ := HT2.out.cells
  clear hf2 hfr d0 d1 KW
  by_cases hcode : code = 0
  · subst hcode
    obtain rfl := (FltN.of_fla hu).none
    clear hu
    have hs3 : (s : Int) ≤ 1099511627776 := by omega
    have hs4 : (1 : Int) ≤ (s : Int) := by omega
    go_wp2
    go_ret
    obtain ⟨ht3, hg3⟩ := HT2.out.next (m := (s : Int) + 1)
    refine ⟨_, rfl, ?_⟩
    exact ⟨FltN.nil _ _, Fl_tick HF2.out HT2.out hg3, ht3, HFR.out.trans (Fs.mine HT2.out hBt hg3)⟩
  · obtain ⟨a, rfl⟩ := (FltN.of_fla hu).some hcode
    have HU := hid2 (FltN.of_fla hu)
    have HC := hid2 hcode
    clear hu hcode
    go_wp2_with fail
    refine (wrap_n _ _ HU.out).mono ?_
    rintro e w3 ⟨u3, rfl, hu3, hb3⟩
    go_wp2
    go_ret
    refine ⟨_, rfl, ?_⟩
    try rw [if_neg HC.out]
    exact ⟨hu3.more (by omega), HF2.out.below hb3, HT2.out.below hb3, HFR.out.trans (Fs.below hb3)⟩

theorem tput_any {w : World} {B g N t : Nat} {d : Fla.Dev} {n kind : Int} (hF : Fla.Fl w B g N d) (hN : N < 900) (hT : Tk w t g n) (hBt : B ≤ t) {bb : Nat} {p : Option Addr} {cap : Nat} {b : List Nat} (hb : Lea.SlAt w bb (.slice p b.length cap) (Lea.U b)) (hby : Lea.Byt b) (at_ : Int) :
    Calls Tryz.prog 11 #[.pointer (some ⟨t, 0, none⟩), .int .i64 at_, .int .i64 kind, .slice p b.length cap] w fun e w' => ∃ u, e = .returned u ∧ FltN 12 w' u (tputP d n at_ kind b).2.2 ∧ Fla.Fl w' B g (N + 1) (tputP d n at_ kind b).1 ∧ Tk w' t g (tputP d n at_ kind b).2.1 ∧ Fs B w w' := by
  by_cases hc : Lea.checkC n kind b.length = 0
  · exact tput_good hF hN hT hBt hb hby at_ hc
  · obtain ⟨p', cap', hv, hl, hm⟩ := hb.form
    unfold maxLen at hm
    rw [Lea.U_length] at hl
    exact tput_bad hF hT (by omega) at_ kind hc

set_option maxHeartbeats 4000000 in
set_option maxRecDepth 10000 in
theorem tfirm_any {w : World} {B g N t : Nat} {d : Fla.Dev} {n kind : Int} (hF : Fla.Fl w B g N d) (hN : N < 890) (hT : Tk w t g n) (hBt : B ≤ t) {bb : Nat} {p : Option Addr} {cap : Nat} {b : List Nat} (hb : Lea.SlAt w bb (.slice p b.length cap) (Lea.U b)) (hby : Lea.Byt b) (at_ : Int) :
    Calls Tryz.prog 13 #[.pointer (some ⟨t, 0, none⟩), .int .i64 at_, .int .i64 kind, .slice p b.length cap] w fun e w' => ∃ u, e = .returned u ∧ FltN 13 w' u (tfirmP d n at_ kind b).2.2 ∧ Fla.Fl w' B g (N + 2) (tfirmP d n at_ kind b).1 ∧ Tk w' t g (tfirmP d n at_ kind b).2.1 ∧ Fs B w w' := by
  have KP := hid2 (tput_any (kind := kind) hF (by omega) hT hBt hb hby at_)
  unfold tfirmP
  clear hF hT hb hby
  generalize tputP d n at_ kind b = r at *
  obtain ⟨d1, n1, code⟩ := r
  dsimp only at *
  go_enter Tryz.func13, Tryz.ntmps13
  go_wp2_with fail
  refine (show Calls _ _ _ _ _ from KP).mono ?_
  rintro e w1 ⟨u, rfl, hu, hf1, ht1, hfs1⟩
  have HF1 := hid2 hf1
  have HT1 := hid2 ht1
  have HFS1 := hid2 hfs1
  obtain ⟨⟨c0, c1⟩, _⟩ := HT1.out.cells
  clear hf1 ht1 hfs1 KP
  by_cases hcode : code = 0
  · subst hcode
    obtain rfl := hu.none
    clear hu
    have KF := hid2 (Fla.flush_any HF1.out (by omega))
    go_wp2_with fail
    refine (show Calls _ _ _ _ _ from KF).mono ?_
    rintro e w2 ⟨u2, rfl, hu2, hf2, hfr2⟩
    have HU2 := hid2 (FltN.of_fla hu2)
    have HF2 := hid2 hf2
    have HT2 := hid2 (HT1.out.fr hfr2)
    have HFS2 := hid2 (HFS1.out.trans (Fs.of hfr2))
    clear hu2 hf2 hfr2 KF c0 c1
    go_wp2_with fail
    refine (wrap_n _ _ HU2.out).mono ?_
    rintro e w3 ⟨u3, rfl, hu3, hb3⟩
    go_wp2
    go_ret
    refine ⟨_, rfl, ?_⟩
    try rw [if_pos rfl]
    exact ⟨hu3.more (by omega), HF2.out.below hb3, HT2.out.below hb3, HFS2.out.trans (Fs.below hb3)⟩
  · obtain ⟨a, rfl⟩ := hu.some hcode
    have HU := hid2 hu
    have HC := hid2 hcode
    clear hu hcode c0 c1
    go_wp2
    go_ret
    refine ⟨_, rfl, ?_⟩
    try rw [if_neg HC.out]
    exact ⟨HU.out.more (by omega), HF1.out.more (by omega), HT1.out, HFS1.out⟩
end Go.Proofs.YtkbfihnoohhojaaGreatDoor
