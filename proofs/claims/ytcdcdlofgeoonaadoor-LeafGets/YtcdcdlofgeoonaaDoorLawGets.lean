/-
  What any bytes hold as a page: the walk of that sentence.
-/
import Derived.Test.YtcdcdlofgeoonaaDoorRGets
namespace Go.Proofs.YtcdcdlofgeoonaaDoor
open Go.RowKit Go.Extern.Stop Go.Stop Go.Extern

set_option maxHeartbeats 4000000 in
set_option maxRecDepth 10000 in
theorem gets_any {w : World} {b : Nat} {q : Option Addr} {cap : Nat} {l : List Nat} (h : SlAt w b (.slice q l.length cap) (U l)) (hby : Byt l) (hE : ErrT w) :
    Calls Tryd.prog 4 #[.slice q l.length cap] w fun e w' => e = .returned (.bool true) ∧ Below w.heap.size w w' := by
  have HE := hid2 hE
  have HS := hid2 h
  have HBY := hid2 hby
  clear hE h hby
  by_cases hl : 600 < l.length
  · have hl' : 600 < (l.length : Int) := by omega
    clear hl
    go_enter Tryd.func4, Tryd.ntmps4
    go_wp2_with fail
    refine (works_any _ HE.out).mono ?_
    rintro e wz ⟨rfl, hbz⟩
    go_wp2
    go_ret
    exact ⟨rfl, hbz⟩
  · have hl' : ¬ 600 < (l.length : Int) := by omega
    clear hl
    obtain ⟨cd, zs, zk, zl, hgp⟩ : ∃ c s k l', getP l = (c, s, k, l') := ⟨_, _, _, _, rfl⟩
    have HK1 := hid2 (get_any HS.out HBY.out)
    have HK2 := hid2 (fun w' (hb : Below w.heap.size w w') => rget_any (HS.out.stays hb) HBY.out)
    have HK3 := hid2 (fun w' (hb : Below w.heap.size w w') => stamps_any (HS.out.stays hb) HBY.out)
    have HK4 := hid2 (fun w' (hb : Below w.heap.size w w') => rstamps_any (HS.out.stays hb) HBY.out)
    rw [hgp] at HK1 HK2
    generalize (stampsP l).1 = t1 at *
    generalize (stampsP l).2 = t2 at *
    clear hgp
    go_enter Tryd.func4, Tryd.ntmps4
    go_wp2_with fail
    refine (show Calls _ _ _ _ _ from HK1).mono ?_
    rintro e w1 ⟨rv1, rfl, b1, p1, c1, u1, _, hrv1, hs1, hf1, hb1⟩
    dsimp only at hrv1 hs1 hf1
    subst hrv1
    have hba : Below w1.heap.size w1 (w1.alloc (.cells #[.int .i64 (zs : Int), .int .i64 (zk : Int), .slice p1 zl.length c1] 24)) := by go_grown
    have HB1 := hid2 (hb1.trans (hba.mono hb1.size))
    have HX1 := hid2 (heap_alloc_new w1 (.cells #[.int .i64 (zs : Int), .int .i64 (zk : Int), .slice p1 zl.length c1] 24))
    have HS1 := hid2 (hs1.stays hba)
    have HF1 := hid2 (hf1.below hba)
    clear hs1 hf1 hb1 hba
    go_wp2_with fail
    refine (HK2.out _ HB1.out).mono ?_
    rintro e w2 ⟨rv2, rfl, b2, p2, c2, hrv2, hs2, hb2⟩
    dsimp only at hrv2 hs2
    subst hrv2
    have hba : Below w2.heap.size w2 (w2.alloc (.cells #[.int .i64 (zs : Int), .int .i64 (zk : Int), .slice p2 zl.length c2] 24)) := by go_grown
    have hb2a := hb2.trans (hba.mono hb2.size)
    have HB2 := hid2 (HB1.out.trans (hb2a.mono HB1.out.size))
    have HX2 := hid2 (heap_stays HX1.out hb2a)
    have HY2 := hid2 (heap_alloc_new w2 (.cells #[.int .i64 (zs : Int), .int .i64 (zk : Int), .slice p2 zl.length c2] 24))
    have HS2 := hid2 (HS1.out.stays hb2a)
    have HT2 := hid2 (hs2.stays hba)
    have HF2 := hid2 (HF1.out.below hb2a)
    clear hs2 hb2 hba hb2a HB1 HX1 HS1 HF1
    go_wp2_with fail
    refine (HK3.out _ HB2.out).mono ?_
    rintro e w3 ⟨rfl, hb3⟩
    have HB3 := hid2 (HB2.out.trans (hb3.mono HB2.out.size))
    have HX3 := hid2 (heap_stays HX2.out hb3)
    have HY3 := hid2 (heap_stays HY2.out hb3)
    have HS3 := hid2 (HS2.out.stays hb3)
    have HT3 := hid2 (HT2.out.stays hb3)
    have HF3 := hid2 (HF2.out.below hb3)
    clear hb3 HB2 HX2 HY2 HS2 HT2 HF2
    go_wp2_with fail
    refine (HK4.out _ HB3.out).mono ?_
    rintro e w4 ⟨rfl, hb4⟩
    have HB4 := hid2 (HB3.out.trans (hb4.mono HB3.out.size))
    have HX4 := hid2 (heap_stays HX3.out hb4)
    have HY4 := hid2 (heap_stays HY3.out hb4)
    have HF4 := hid2 (HF3.out.below hb4)
    have KS := rsame_any (zs : Int) (zk : Int) (zs : Int) (zk : Int) (HS3.out.stays hb4) (HT3.out.stays hb4)
    rw [show ((zs : Int) == (zs : Int) && (zk : Int) == (zk : Int) && decide (zl = zl)) = true by simp] at KS
    have HKS := hid2 KS
    obtain ⟨⟨x0, x1, x2⟩, _⟩ := three24 HX4.out
    obtain ⟨⟨y0, y1, y2⟩, _⟩ := three24 HY4.out
    clear hb4 KS HB3 HX3 HY3 HS3 HT3 HF3
    go_wp2_with fail
    refine (show Calls _ _ _ _ _ from HKS).mono ?_
    rintro e w5 ⟨rfl, hb5⟩
    have HB5 := hid2 (HB4.out.trans (hb5.mono HB4.out.size))
    have HF5 := hid2 (HF4.out.below hb5)
    clear hb5
    go_wp2_with fail
    refine (of_code (HE.out.below HB5.out) HF5.out).mono ?_
    rintro e w6 ⟨rfl, hb6⟩
    have HB6 := hid2 (HB5.out.trans (hb6.mono HB5.out.size))
    clear hb6
    go_wp2_with fail
    refine (works_any _ (HE.out.below HB6.out)).mono ?_
    rintro e wz ⟨rfl, hbz⟩
    go_wp2
    go_ret
    exact ⟨rfl, HB6.out.trans (hbz.mono HB6.out.size)⟩
end Go.Proofs.YtcdcdlofgeoonaaDoor
