/-
  The fixed example of the laws.
-/
import Derived.Test.YtkbfihnoohhojaaDoorQPuts
import Derived.Test.YtkbfihnoohhojaaDoorQGets
import Derived.Test.YtkbfihnoohhojaaDoorQMathB
import Derived.Lib.SlBytesConst
namespace Go.Proofs.YtkbfihnoohhojaaDoor
open Go.RowKit Go.Extern.Stop Go.Stop Go.Extern

def ab : List Nat := [97, 98]
theorem ab_byt : Lea.Byt ab := by intro x hx; simp [ab] at hx; omega
theorem ab_str : Lea.strB ab = { data := #[97, 98] } := by decide
theorem ab_check : Lea.checkC 1 2 ab.length = 0 := by decide
theorem sl_ab (w : World) : Lea.SlAt (w.alloc (.cells #[.int .u8 97, .int .u8 98] 5 (2, 3))) w.heap.size (.slice (some ⟨w.heap.size, 0, none⟩) ab.length 2) (Lea.U ab) := by
  have h := heap_alloc_new w (.cells #[.int .u8 97, .int .u8 98] 5 (2, 3))
  have hs : Fla.Stat (w.alloc (.cells #[.int .u8 97, .int .u8 98] 5 (2, 3))) w.heap.size #[.int .u8 97, .int .u8 98] := ⟨5, (2, 3), h, by decide, by decide⟩
  refine .inr ⟨⟨w.heap.size, 0, none⟩, 2, rfl, Nat.le_refl _, by unfold maxLen; decide, .inr ⟨0, rfl, by simp, fun k u hk => ?_⟩⟩
  rcases k with _ | _ | k
  · simp [Lea.U, ab] at hk; subst hk; exact hs.cell rfl
  · simp [Lea.U, ab] at hk; subst hk; exact hs.cell rfl
  · simp [Lea.U, ab] at hk

theorem ab_get {d : Fla.Dev} (h : CalmD d) (hp : d.pages = 4) (hg : d.pg 2 = Lea.page 1 2 ab) : tgetP (Fla.readP d 2) 2 = (0, 1, 2, ab) ∧ tgetP (Fla.readP d 2) 3 = (12, 0, 0, []) := by
  have e := read_calm h (at_ := 2) (by omega) (by omega)
  have g := Lea.get_page (s := 1) (k := 2) (l := ab) (by omega) (by omega) (by omega) (by omega) (by decide)
  rw [e, hg]
  unfold tgetP
  simp only [g]
  exact ⟨by decide, by decide⟩

set_option maxHeartbeats 8000000 in
set_option maxRecDepth 10000 in
theorem works_any (w : World) (hE : ErrT w) (h0 : 0 < w.heap.size) : Calls Tryd.prog 6 #[] w fun e w' => e = .returned (.bool true) ∧ Below w.heap.size w w' := by
  obtain ⟨d1, hfirm, hcalm, hpages, hpg⟩ := firm_calm (calm_new 4) (n := 1) (at_ := 2) (kind := 2) (b := ab) (by omega) (by decide) (Fla.zeros_length) ab_check
  obtain ⟨g1, g2⟩ := ab_get hcalm hpages hpg
  have HFM := hid2 hfirm
  have HG1 := hid2 g1
  have HG2 := hid2 g2
  have HE := hid2 hE
  have HN1 := hid2 (next_new 4)
  clear hfirm hcalm hpages hpg g1 g2 hE
  go_enter Tryd.func6, Tryd.ntmps6
  go_wp2_with fail
  refine (Fla.new_good 4 _ (B := w.heap.size) (Nat.le_refl _) (by omega) (by omega)).mono ?_
  rintro e w1 ⟨g, rfl, hF1, hb1⟩
  have HF1 := hid2 hF1
  have HB1 := hid2 hb1
  clear hF1 hb1
  go_wp2_with fail
  refine (open_good HF1.out (by omega) rfl).mono ?_
  rintro e w2 ⟨t, rfl, ht, hT2, hb2⟩
  rw [HN1.out] at hT2
  have HT2 := hid2 hT2
  have HF2 := hid2 (HF1.out.below hb2)
  have HB2 := hid2 (HB1.out.trans (hb2.mono HB1.out.size))
  have hBt : w.heap.size ≤ t := by have := HB1.out.size; omega
  clear hT2 hb2
  go_wp2_with fail
  refine (open_nil _).mono ?_
  rintro e w3 ⟨u3, rfl, hu3, hb3⟩
  have HU3 := hid2 hu3
  have HT3 := hid2 (HT2.out.below hb3)
  have HF3 := hid2 (HF2.out.below hb3)
  have HB3 := hid2 (HB2.out.trans (hb3.mono HB2.out.size))
  clear hu3 hb3
  have cs := fun (w : World) (C : Array Value) (n c : Nat) => Lib.run_convert_bytes_const (P := Tryd.prog) w 23 5 C n c Tryd.underlying23 Tryd.underlying5
  go_wp2_with fail
  clear cs
  have hA : Below w3.heap.size w3 (w3.alloc (.cells #[.int .u8 97, .int .u8 98] 5 (2, 3))) := by go_grown
  refine (tfirm_any (kind := 2) (b := ab) (HF3.out.below hA) (by omega) (HT3.out.below hA) hBt (sl_ab _) ab_byt 2).mono ?_
  rintro e w4 ⟨u4, rfl, hu4, hf4, ht4, hfs4⟩
  rw [HFM.out] at hu4 hf4 ht4
  obtain rfl := hu4.none
  have HF4 := hid2 hf4
  have HT4 := hid2 ht4
  have HFS4 : Hid (Fs w.heap.size w w4) := (Fs.below (HB3.out.trans (hA.mono HB3.out.size))).trans hfs4
  have HE4 := hid2 (HE.out.fs HFS4.out h0)
  skip
  have HU4 : Hid (FltN 12 w4 u3 1) := ((HU3.out.below hA).fs hfs4)
  clear hu4 hf4 ht4 hfs4 hA
  go_wp2_with fail
  refine (tget_any HF4.out (by omega) HT4.out 2 2).mono ?_
  rintro e w5 ⟨rv5, rfl, h5⟩
  rw [HG1.out] at h5
  obtain ⟨b5, p5, c5, u5, hb5, hrv, hsl5, hu5, hb5'⟩ := h5
  dsimp only at hrv hsl5 hu5
  subst hrv
  obtain rfl := hu5.none
  have HS5 := hid2 hsl5
  have HT5 := hid2 (HT4.out.below hb5')
  have HF5 := hid2 (HF4.out.below hb5')
  have HE5 := hid2 (HE4.out.below hb5')
  have HU5 := hid2 (HU4.out.below hb5')
  have HB5 := hid2 (HFS4.out.trans (Fs.below (B := w.heap.size) hb5'))
  have HA5 := hid2 (heap_alloc_new w5 (.cells #[.int .i64 0, .int .i64 0, .slice none 0 0] 25))
  clear hb5 hsl5 hu5 hb5'
  go_wp2_with (refine Lea.st24 rfl (.tmp 7) (.tmp 43) rfl w5.heap.size rfl _ _ _ _ HA5.out rfl rfl ⟨rfl, rfl, rfl⟩ ?_; intro w6 hz6 hg6)
  have hb6 := box_below hg6
  have HZ6 := hid2 hz6
  have HS6 := hid2 (HS5.out.stays hb6)
  have HT6 := hid2 (HT5.out.below hb6)
  have HF6 := hid2 (HF5.out.below hb6)
  have HE6 := hid2 (HE5.out.below hb6)
  have HU6 := hid2 (HU5.out.below hb6)
  have HB6 := hid2 (HB5.out.trans (Fs.below hb6))
  clear hb6 hz6 hg6
  refine (tget_any HF6.out (by omega) HT6.out 2 3).mono ?_
  rintro e w7 ⟨rv7, rfl, h7⟩
  rw [HG2.out] at h7
  obtain ⟨b7, p7, c7, u7, hb7, hrv, hsl7, hu7, hb7'⟩ := h7
  dsimp only at hrv hsl7 hu7
  subst hrv
  have HZ7 := hid2 (heap_stays HZ6.out hb7')
  have HS7 := hid2 (HS6.out.stays hb7')
  have HT7 := hid2 (HT6.out.below hb7')
  have HE7 := hid2 (HE6.out.below hb7')
  have HU7 := hid2 (HU6.out.below hb7')
  have HV7 := hid2 hu7
  have HB7 := hid2 (HB6.out.trans (Fs.below hb7'))
  have HA7 := hid2 (heap_alloc_new w7 (.cells #[.int .i64 0, .int .i64 0, .slice none 0 0] 25))
  clear hb7 hsl7 hu7 hb7'
  go_wp2_with (refine Lea.st24 rfl (.tmp 9) (.tmp 48) rfl w7.heap.size rfl _ _ _ _ HA7.out rfl rfl ⟨rfl, rfl, rfl⟩ ?_; intro w8 hz8 hg8)
  have hb8 := box_below hg8
  have HZ8 := hid2 (heap_stays HZ7.out hb8)
  have HS8 := hid2 (HS7.out.stays hb8)
  have HT8 := hid2 (HT7.out.below hb8)
  have HE8 := hid2 (HE7.out.below hb8)
  have HU8 := hid2 (HU7.out.below hb8)
  have HV8 := hid2 (HV7.out.below hb8)
  have HB8 := hid2 (HB7.out.trans (Fs.below hb8))
  clear hb8 hz8 hg8
  refine (of_n (by omega) HE8.out HU8.out).mono ?_
  rintro e w9 ⟨rfl, hb9⟩
  have HT9 := hid2 (HT8.out.below hb9)
  have HE9 := hid2 (HE8.out.below hb9)
  have HV9 := hid2 (HV8.out.below hb9)
  have HB9 := hid2 (HB8.out.trans (Fs.below hb9))
  obtain ⟨⟨q0, q1, q2⟩, qf⟩ := Lea.three24 (heap_stays HZ8.out hb9)
  have cv := Lea.conv_any (HS8.out.stays hb9)
  rw [ab_str] at cv
  clear hb9
  go_wp2_with fail
  refine (of_n (by omega) HE9.out HV9.out).mono ?_
  rintro e w10 ⟨rfl, hb10⟩
  have HT10 := hid2 (HT9.out.below hb10)
  have HB10 := hid2 (HB9.out.trans (Fs.below hb10))
  clear hb10 q0 q1 q2 qf cv
  go_wp2_with fail
  refine (next_any HT10.out).mono ?_
  rintro e w11 ⟨rfl, rfl⟩
  go_wp2
  go_ret
  exact ⟨rfl, HB10.out.toBelow (Nat.le_refl _)⟩
end Go.Proofs.YtkbfihnoohhojaaDoor
