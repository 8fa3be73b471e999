/-
  What is torn is not read: the walk of that law.
-/
import Derived.Test.YtkbfihnoohhojaaDoorQWorks
import Derived.Test.YtkbfihnoohhojaaDoorQLow
namespace Go.Proofs.YtkbfihnoohhojaaDoor
open Go.RowKit Go.Extern.Stop Go.Stop Go.Extern

theorem wpList_put {P : Program} {ops : Array Oper} {Q : Exit → Act → World → Prop} {a : Act} {w : World} {rest : List Oper} {o : Oper} {v : Value} (hw : Region.wanted o (yielded ops a.tmps) = true)
    (hr : ∀ K : Act → World → Prop, K (a.put o.dst v) w → o.wp P a w K Q) (h : wpList P ops Q rest (a.put o.dst v) w) : wpList P ops Q (o :: rest) a w := by
  unfold wpList
  rw [if_pos hw]
  exact .inl (hr _ h)

/-- A sentence that is not looked into. -/
structure Shut (p : Prop) : Prop where
  out : p
theorem wpList_putS {P : Program} {ops : Array Oper} {Q : Exit → Act → World → Prop} {a : Act} {w : World} {rest : List Oper} {o : Oper} {v : Value} (hw : Region.wanted o (yielded ops a.tmps) = true)
    (hr : ∀ K : Act → World → Prop, K (a.put o.dst v) w → o.wp P a w K Q) (h : Shut (wpList P ops Q rest (a.put o.dst v) w)) : wpList P ops Q (o :: rest) a w := wpList_put hw hr h.out
theorem wpList_skipS {P : Program} {ops : Array Oper} {Q : Exit → Act → World → Prop} {a : Act} {w : World} {rest : List Oper} {o : Oper} (hw : Region.wanted o (yielded ops a.tmps) = false) (hp : a.put o.dst undef = a)
    (h : Shut (wpList P ops Q rest a w)) : Shut (wpList P ops Q (o :: rest) a w) := ⟨wpList_skip hw (by rw [hp]; exact h.out)⟩

set_option maxHeartbeats 4000000 in
set_option maxRecDepth 10000 in
theorem torn_out {w : World} {pa pb : Option Addr} {na nb ca cb : Nat} (hE : ErrT w) (h0 : 0 < w.heap.size) (keep : Int) (hna : na ≤ 9223372036854775807) (hnb : nb ≤ 9223372036854775807) (hout : 233 < na ∨ (na ≤ 233 ∧ 233 < nb)) :
    Calls Tryd.prog 4 #[.slice pa na ca, .slice pb nb cb, .int .i64 keep] w fun e w' => e = .returned (.bool true) ∧ Below w.heap.size w w' := by
  have HE := hid2 hE
  clear hE
  rcases hout with h1 | ⟨h1, h2⟩
  · have h1' : (233 : Int) < (na : Int) := by omega
    clear h1
    go_enter Tryd.func4, Tryd.ntmps4
    go_wp2_with fail
    refine (works_any _ HE.out h0).mono ?_
    rintro e w1 ⟨rfl, hb1⟩
    go_wp2
    go_ret
    exact ⟨rfl, hb1⟩
  · have h1' : ¬ (233 : Int) < (na : Int) := by omega
    have h2' : (233 : Int) < (nb : Int) := by omega
    clear h1 h2
    go_enter Tryd.func4, Tryd.ntmps4
    go_wp2_with fail
    refine (works_any _ HE.out h0).mono ?_
    rintro e w1 ⟨rfl, hb1⟩
    go_wp2
    go_ret
    exact ⟨rfl, hb1⟩

set_option maxHeartbeats 8000000 in
set_option maxRecDepth 10000 in
theorem torn_go {w : World} {pa pb : Option Addr} {ca cb ba bb : Nat} {a b : List Nat} (hE : ErrT w) (h0 : 0 < w.heap.size) (keep : Int) (ha : Lea.SlAt w ba (.slice pa a.length ca) (Lea.U a)) (hb : Lea.SlAt w bb (.slice pb b.length cb) (Lea.U b)) (hya : Lea.Byt a) (hyb : Lea.Byt b) (hla : a.length ≤ 233) (hlb : b.length ≤ 233) :
    Calls Tryd.prog 4 #[.slice pa a.length ca, .slice pb b.length cb, .int .i64 keep] w fun e w' => e = .returned (.bool true) ∧ Below w.heap.size w w' := by
  obtain ⟨ba, hba, ha⟩ := sl_low ha h0
  obtain ⟨bb, hbb, hb⟩ := sl_low hb h0
  have hca : Lea.checkC 1 1 a.length = 0 := Lea.check_fine (by omega) (by omega) (by omega) (by omega) hla
  have hcb : Lea.checkC (1 + 1) 1 b.length = 0 := Lea.check_fine (by omega) (by omega) (by omega) (by omega) hlb
  obtain ⟨d1, hfirm, hcalm, hpages, hpg⟩ := firm_calm (calm_new 2) (n := 1) (at_ := 1) (kind := 1) (b := a) (by omega) (by decide) Fla.zeros_length hca
  have hp2 : d1.pages = 2 := hpages
  have hput := put_calm hcalm (n := 1 + 1) (at_ := 1) (kind := 1) (b := b) (by omega) (by omega) hcb
  obtain ⟨rc, rs, rk, rb, hreq, htn⟩ := torn_letters hcalm (keep := keep) (by omega) hpg hla hlb
  have HFM := hid2 hfirm
  have HPT : Hid (tputP d1 (1 + 1) 1 1 b = ({ d1 with waits := [⟨1, false, Lea.page 2 1 b⟩], done := d1.done + 1 }, 1 + 1 + 1, 0)) := hput
  have HRQ := hid2 hreq
  have HTN := hid2 htn
  have HE := hid2 hE
  have HA := hid2 ha
  have HB := hid2 hb
  have HYA := hid2 hya
  have HYB := hid2 hyb
  have HN1 := hid2 (next_new 2)
  have la : ¬ (233 : Int) < (a.length : Int) := by omega
  have lb : ¬ (233 : Int) < (b.length : Int) := by omega
  clear hfirm hput hreq htn hE ha hb hya hyb hla hlb hca hcb hpages hpg hcalm hp2
  generalize ({ d1 with waits := [⟨1, false, Lea.page 2 1 b⟩], done := d1.done + 1 } : Fla.Dev) = d2 at *
  go_enter Tryd.func4, Tryd.ntmps4
  go_wp2_with fail
  refine (Fla.new_good 2 _ (B := w.heap.size) (Nat.le_refl _) (by omega) (by omega)).mono ?_
  rintro e w1 ⟨g, rfl, hF1, hb1⟩
  have HF1 := hid2 hF1
  have HB1 := hid2 hb1
  clear hF1 hb1
  go_wp2_with fail
  refine (open_good HF1.out (by omega) rfl).mono ?_
  rintro e w2 ⟨t, rfl, ht, hT2, hb2⟩
  rw [HN1.out] at hT2
  have HT2 := hid2 hT2
  have HF2 := hid2 (HF1.out.below hb2)
  have HB2 := hid2 (HB1.out.trans (hb2.mono HB1.out.size))
  have hBt : w.heap.size ≤ t := by have := HB1.out.size; omega
  clear hT2 hb2
  go_wp2_with fail
  refine (tfirm_any (kind := 1) (b := a) HF2.out (by omega) HT2.out hBt (HA.out.stays HB2.out) HYA.out 1).mono ?_
  rintro e w3 ⟨u3, rfl, hu3, hf3, ht3, hfs3⟩
  rw [HFM.out] at hu3 hf3 ht3
  obtain rfl := hu3.none
  have HF3 := hid2 hf3
  have HT3 := hid2 ht3
  have HFS3 : Hid (Fs w.heap.size w w3) := (Fs.below HB2.out).trans hfs3
  clear hu3 hf3 ht3 hfs3
  go_wp2_with fail
  refine (tput_any (kind := 1) (b := b) HF3.out (by omega) HT3.out hBt (sl_fs HB.out HFS3.out hbb) HYB.out 1).mono ?_
  rintro e w4 ⟨u4, rfl, hu4, hf4, ht4, hfs4⟩
  rw [HPT.out] at hu4 hf4 ht4
  obtain rfl := hu4.none
  have HF4 := hid2 hf4
  have HFS4 : Hid (Fs w.heap.size w w4) := HFS3.out.trans hfs4
  clear hu4 hf4 ht4 hfs4
  have HK4 := hid2 (heap_alloc_new w4 (.cells #[.int .i64 keep] 3))
  have HBK : Hid (Below w4.heap.size w4 (w4.alloc (.cells #[.int .i64 keep] 3))) := by show Below _ _ _; go_grown
  go_wp2_with fail
  refine (Fla.crash_any (HF4.out.below HBK.out) (by omega) (kat_one HK4.out)).mono ?_
  rintro e w5 ⟨rfl, hf5, hfr5⟩
  have HF5 := hid2 hf5
  have HFS5 : Hid (Fs w.heap.size w w5) := (HFS4.out.trans (Fs.below HBK.out)).trans (Fs.of hfr5)
  clear hf5 hfr5
  go_wp2_with fail
  refine (open_good HF5.out (by omega) rfl).mono ?_
  rintro e w6 ⟨t6, rfl, _, hT6, hb6⟩
  have HT6 := hid2 hT6
  have HF6 := hid2 (HF5.out.below hb6)
  have HFS6 : Hid (Fs w.heap.size w w6) := HFS5.out.trans (Fs.below hb6)
  clear hT6 hb6
  go_wp2_with fail
  refine (tget_any HF6.out (by omega) HT6.out 1 1).mono ?_
  rintro e w7 ⟨rv7, rfl, h7⟩
  rw [HRQ.out] at h7
  obtain ⟨b7, p7, c7, u7, hb7, hrv, hsl7, hu7, hb7'⟩ := h7
  dsimp only at hrv hsl7 hu7
  subst hrv
  have HFS7 : Hid (Fs w.heap.size w w7) := HFS6.out.trans (Fs.below hb7')
  have HE7 := hid2 (HE.out.fs HFS7.out h0)
  have HS7 := hid2 hsl7
  have HU7 := hid2 hu7
  have HA7 := hid2 (heap_alloc_new w7 (.cells #[.int .i64 0, .int .i64 0, .slice none 0 0] 25))
  have h07 : 0 < w7.heap.size := by have := HFS7.out.size; omega
  clear hb7 hsl7 hu7 hb7' HRQ HFM HPT HF1 HF2 HF3 HF4 HF5 HF6 HT2 HT3 HT6 HB1 HB2 HK4 HBK HFS3 HFS4 HFS5 HFS6
  rcases HTN.out with ⟨rfl, hk0, hk1, rfl, rfl, rfl⟩ | ⟨rfl, rfl, rfl, rfl⟩ | ⟨rfl, rfl, rfl, rfl⟩
  · clear HTN
    obtain ⟨pe, rfl⟩ := HU7.out.some (by decide)
    go_wp2_with (refine Lea.st24 rfl (.tmp 12) (.tmp 74) rfl w7.heap.size rfl _ _ _ _ HA7.out rfl rfl ⟨rfl, rfl, rfl⟩ ?_; intro w8 hz8 hg8)
    have hb8 := box_below hg8
    refine (of_n (by omega) (HE7.out.below hb8) (HU7.out.below hb8)).mono ?_
    rintro e w9 ⟨rfl, hb9⟩
    have hb89 : Below w7.heap.size w7 w9 := hb8.trans (hb9.mono hb8.size)
    have HE9 := hid2 (HE7.out.below hb89)
    have HFS9 := hid2 (HFS7.out.trans (Fs.below hb89))
    have h09 : 0 < w9.heap.size := by have := hb89.size; omega
    clear hb8 hb9 hb89 hz8 hg8
    go_wp2_with fail
    refine (works_any _ HE9.out h09).mono ?_
    rintro e w10 ⟨rfl, hb10⟩
    go_wp2
    go_ret
    exact ⟨rfl, (HFS9.out.trans (Fs.below hb10)).toBelow (Nat.le_refl _)⟩
  · clear HTN
    obtain rfl := HU7.out.none
    go_upto_region 16 with (refine Lea.st24 rfl (.tmp 12) (.tmp 74) rfl w7.heap.size rfl _ _ _ _ HA7.out rfl rfl ⟨rfl, rfl, rfl⟩ ?_; intro w8 hz8 hg8; obtain ⟨⟨q0, q1, q2⟩, qf⟩ := Lea.three24 hz8; have hb8 := hid2 (box_below hg8); have cv1 := Lea.conv_any (HS7.out.stays hb8.out); have cv2 := Lea.conv_any ((sl_fs HA.out HFS7.out hba).stays hb8.out); clear hz8 hg8)
    apply wp_region_lit
    refine wpList_put (v := .pointer (some ⟨w7.heap.size, 0, none⟩)) (by kernel_rfl) (fun K hK => ?_) ?_
    · go_simp; exact hK
    simp only [Act.put, List.setIfInBounds_toArray, List.set_cons_succ, List.set_cons_zero]
    refine wpList_put (v := .int .i64 1) (by kernel_rfl) (fun K hK => ?_) ?_
    · go_simp; exact hK
    simp only [Act.put, List.setIfInBounds_toArray, List.set_cons_succ, List.set_cons_zero]
    refine wpList_put (v := .bool true) (by kernel_rfl) (fun K hK => ?_) ?_
    · go_simp; exact hK
    simp only [Act.put, List.setIfInBounds_toArray, List.set_cons_succ, List.set_cons_zero]
    refine wpList_put (v := .bool true) (by kernel_rfl) (fun K hK => ?_) ?_
    · go_simp; exact hK
    simp only [Act.put, List.setIfInBounds_toArray, List.set_cons_succ, List.set_cons_zero]
    refine wpList_put (v := .pointer (some ⟨w7.heap.size, 2, none⟩)) (by kernel_rfl) (fun K hK => ?_) ?_
    · go_simp; exact hK
    simp only [Act.put, List.setIfInBounds_toArray, List.set_cons_succ, List.set_cons_zero]
    refine wpList_put (v := .slice p7 rb.length c7) (by kernel_rfl) (fun K hK => ?_) ?_
    · go_simp; exact hK
    simp only [Act.put, List.setIfInBounds_toArray, List.set_cons_succ, List.set_cons_zero]
    refine wpList_put (v := .string (Lea.strB rb)) (by kernel_rfl) (fun K hK => ?_) ?_
    · go_simp; exact hK
    simp only [Act.put, List.setIfInBounds_toArray, List.set_cons_succ, List.set_cons_zero]
    refine wpList_put (v := .slice pa rb.length ca) (by kernel_rfl) (fun K hK => ?_) ?_
    · go_simp; exact hK
    simp only [Act.put, List.setIfInBounds_toArray, List.set_cons_succ, List.set_cons_zero]
    refine wpList_put (v := .string (Lea.strB rb)) (by kernel_rfl) (fun K hK => ?_) ?_
    · go_simp; exact hK
    simp only [Act.put, List.setIfInBounds_toArray, List.set_cons_succ, List.set_cons_zero]
    refine wpList_put (v := .bool true) (by kernel_rfl) (fun K hK => ?_) ?_
    · go_simp; exact hK
    simp only [Act.put, List.setIfInBounds_toArray, List.set_cons_succ, List.set_cons_zero]
    refine wpList_put (v := .bool true) (by kernel_rfl) (fun K hK => ?_) ?_
    · go_simp; exact hK
    simp only [Act.put, List.setIfInBounds_toArray, List.set_cons_succ, List.set_cons_zero]
    refine wpList_putS (v := .bool true) (by kernel_rfl) (fun K hK => ?_) ?_
    · go_simp; exact hK
    refine wpList_skipS (by kernel_rfl) (by kernel_rfl) ?_
    refine wpList_skipS (by kernel_rfl) (by kernel_rfl) ?_
    refine wpList_skipS (by kernel_rfl) (by kernel_rfl) ?_
    refine wpList_skipS (by kernel_rfl) (by kernel_rfl) ?_
    refine wpList_skipS (by kernel_rfl) (by kernel_rfl) ?_
    refine wpList_skipS (by kernel_rfl) (by kernel_rfl) ?_
    refine wpList_skipS (by kernel_rfl) (by kernel_rfl) ?_
    refine wpList_skipS (by kernel_rfl) (by kernel_rfl) ?_
    refine wpList_skipS (by kernel_rfl) (by kernel_rfl) ?_
    refine wpList_skipS (by kernel_rfl) (by kernel_rfl) ?_
    refine wpList_skipS (by kernel_rfl) (by kernel_rfl) ?_
    refine ⟨?_⟩
    simp only [Act.put, List.setIfInBounds_toArray, List.set_cons_succ, List.set_cons_zero]
    go_wp2_with fail
    have h08 : 0 < w8.heap.size := by have := hb8.out.size; omega
    refine (works_any _ (HE7.out.below hb8.out) h08).mono ?_
    rintro e w9 ⟨rfl, hb9⟩
    go_wp2
    go_ret
    exact ⟨rfl, ((HFS7.out.trans (Fs.below hb8.out)).trans (Fs.below hb9)).toBelow (Nat.le_refl _)⟩
  · clear HTN
    obtain rfl := HU7.out.none
    go_wp2_with (refine Lea.st24 rfl (.tmp 12) (.tmp 74) rfl w7.heap.size rfl _ _ _ _ HA7.out rfl rfl ⟨rfl, rfl, rfl⟩ ?_; intro w8 hz8 hg8; obtain ⟨⟨q0, q1, q2⟩, qf⟩ := Lea.three24 hz8; have hb8 := hid2 (box_below hg8); have cv1 := Lea.conv_any (HS7.out.stays hb8.out); have cv2 := Lea.conv_any ((sl_fs HB.out HFS7.out hbb).stays hb8.out); clear hz8 hg8)
    have h08 : 0 < w8.heap.size := by have := hb8.out.size; omega
    refine (works_any _ (HE7.out.below hb8.out) h08).mono ?_
    rintro e w9 ⟨rfl, hb9⟩
    go_wp2
    go_ret
    exact ⟨rfl, ((HFS7.out.trans (Fs.below hb8.out)).trans (Fs.below hb9)).toBelow (Nat.le_refl _)⟩

theorem torn_any {w : World} {pa pb : Option Addr} {ca cb ba bb : Nat} {a b : List Nat} (hE : ErrT w) (h0 : 0 < w.heap.size) (keep : Int) (ha : Lea.SlAt w ba (.slice pa a.length ca) (Lea.U a)) (hb : Lea.SlAt w bb (.slice pb b.length cb) (Lea.U b)) (hya : Lea.Byt a) (hyb : Lea.Byt b) :
    Calls Tryd.prog 4 #[.slice pa a.length ca, .slice pb b.length cb, .int .i64 keep] w fun e w' => e = .returned (.bool true) ∧ Below w.heap.size w w' := by
  have la : a.length ≤ 9223372036854775807 := by obtain ⟨_, _, _, h1, h2⟩ := ha.form; rw [Lea.U_length] at h1; unfold maxLen at h2; omega
  have lb : b.length ≤ 9223372036854775807 := by obtain ⟨_, _, _, h1, h2⟩ := hb.form; rw [Lea.U_length] at h1; unfold maxLen at h2; omega
  by_cases h1 : a.length ≤ 233
  · by_cases h2 : b.length ≤ 233
    · exact torn_go hE h0 keep ha hb hya hyb h1 h2
    · exact torn_out hE h0 keep la lb (.inr ⟨h1, by omega⟩)
  · exact torn_out hE h0 keep la lb (.inl (by omega))
end Go.Proofs.YtkbfihnoohhojaaDoor
