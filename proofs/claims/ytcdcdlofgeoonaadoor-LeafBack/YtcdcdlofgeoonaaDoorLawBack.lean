/-
  There and back: the walk of that sentence.
-/
import Derived.Test.YtcdcdlofgeoonaaDoorApp
namespace Go.Proofs.YtcdcdlofgeoonaaDoor
open Go.RowKit Go.Extern.Stop Go.Stop Go.Extern

theorem len_fine {n : Nat} (h : n ≤ 600) : ¬ 600 < (n : Int) := by omega

set_option maxHeartbeats 4000000 in
set_option maxRecDepth 10000 in
theorem back_out {w : World} {p q : Option Addr} {cap n cq m : Nat} {s k : Int} (hE : ErrT w) (hout : 600 < n ∨ 600 < m) :
    Calls Tryd.prog 5 #[.agg #[.int .i64 s, .int .i64 k, .slice p n cap], .slice q m cq] w fun e w' => e = .returned (.bool true) ∧ Below w.heap.size w w' := by
  have HE := hid2 hE
  have hb0 : Below w.heap.size w (w.alloc (.cells #[.int .i64 s, .int .i64 k, .slice p n cap] 24)) := by go_grown
  have HB0 := hid2 hb0
  clear hE hb0
  by_cases h1 : 600 < n
  · have h1' : 600 < (n : Int) := by omega
    clear hout h1
    go_enter Tryd.func5, Tryd.ntmps5
    go_wp2_with fail
    refine (works_any _ (HE.out.below HB0.out)).mono ?_
    rintro e wz ⟨rfl, hbz⟩
    go_wp2
    go_ret
    exact ⟨rfl, HB0.out.trans (hbz.mono HB0.out.size)⟩
  · have h1' : ¬ 600 < (n : Int) := by omega
    have h2' : 600 < (m : Int) := by omega
    clear hout h1
    go_enter Tryd.func5, Tryd.ntmps5
    go_wp2_with fail
    refine (works_any _ (HE.out.below HB0.out)).mono ?_
    rintro e wz ⟨rfl, hbz⟩
    go_wp2
    go_ret
    exact ⟨rfl, HB0.out.trans (hbz.mono HB0.out.size)⟩

set_option maxHeartbeats 8000000 in
set_option maxRecDepth 10000 in
theorem back_good {w : World} {b c : Nat} {p q : Option Addr} {cap cq : Nat} {s k : Int} {l lb : List Nat} (h : SlAt w b (.slice p l.length cap) (U l)) (g : SlAt w c (.slice q lb.length cq) (U lb)) (hby : Byt l) (hbb : Byt lb) (hE : ErrT w) (hl : l.length ≤ 600) (hlb : lb.length ≤ 600) :
    Calls Tryd.prog 5 #[.agg #[.int .i64 s, .int .i64 k, .slice p l.length cap], .slice q lb.length cq] w fun e w' => e = .returned (.bool true) ∧ Below w.heap.size w w' := by
  have HE := hid2 hE
  have hb0 : Below w.heap.size w (w.alloc (.cells #[.int .i64 s, .int .i64 k, .slice p l.length cap] 24)) := by go_grown
  have HB0 := hid2 hb0
  have HX0 := hid2 (heap_alloc_new w (.cells #[.int .i64 s, .int .i64 k, .slice p l.length cap] 24))
  have HS := hid2 h
  have HG := hid2 g
  have HBY := hid2 hby
  have HBB := hid2 hbb
  have hn1 : ¬ 600 < (l.length : Int) := by omega
  have hn2 : ¬ 600 < (lb.length : Int) := by omega
  have HK0 := hid2 (rcheck_any s k p l.length cap (w.alloc (.cells #[.int .i64 s, .int .i64 k, .slice p l.length cap] 24)))
  clear h g hby hbb hE hb0 hl hlb
  by_cases hck : checkC s k l.length = 0
  · obtain ⟨s1, s2, k1, k2, hn⟩ := check_zero hck
    obtain ⟨s, rfl⟩ := Int.eq_ofNat_of_zero_le (show 0 ≤ s by omega)
    obtain ⟨k, rfl⟩ := Int.eq_ofNat_of_zero_le (show 0 ≤ k by omega)
    rw [hck] at HK0
    have HN := hid2 hn
    have HSK : Hid (1 ≤ s ∧ s ≤ 1099511627776 ∧ 1 ≤ k ∧ k ≤ 5) := ⟨by omega, by omega, by omega, by omega⟩
    clear hck s1 s2 k1 k2 hn
    go_enter Tryd.func5, Tryd.ntmps5
    go_wp2_with fail
    refine (show Calls _ _ _ _ _ from HK0).mono ?_
    rintro e w1 ⟨rfl, hb1⟩
    have HB1 := hid2 (HB0.out.trans (hb1.mono HB0.out.size))
    have HX1 := hid2 (heap_stays HX0.out hb1)
    obtain ⟨⟨x0, x1, x2⟩, _⟩ := three24 HX1.out
    clear hb1
    go_wp2_with fail
    refine (put_good (HS.out.stays HB1.out) HBY.out HSK.out.1 HSK.out.2.1 HSK.out.2.2.1 HSK.out.2.2.2 HN.out).mono ?_
    rintro e w2 ⟨b2, o2, c2, rfl, hp2, _, hb2⟩
    have HP2 := hid2 hp2
    have HB2 := hid2 (HB1.out.trans (hb2.mono HB1.out.size))
    have HX2 := hid2 (heap_stays HX1.out hb2)
    clear hp2 hb2
    have hgp := get_page (l := l) HSK.out.1 HSK.out.2.1 HSK.out.2.2.1 HSK.out.2.2.2 HN.out
    go_wp2_with fail
    refine (get_page_any HP2.out).mono ?_
    rintro e w3 ⟨rv, rfl, b3, p3, c3, u3, _, hrv, hs3, hf3, hb3⟩
    rw [hgp] at hrv hs3 hf3
    dsimp only at hrv hs3 hf3
    subst hrv
    obtain rfl := hf3.none
    have hb3a : Below w3.heap.size w3 (w3.alloc (.cells #[.int .i64 (s : Int), .int .i64 (k : Int), .slice p3 l.length c3] 24)) := by go_grown
    have hb3b := hb3.trans (hb3a.mono hb3.size)
    have HB3 := hid2 (HB2.out.trans (hb3b.mono HB2.out.size))
    have HX3 := hid2 (heap_stays HX2.out hb3b)
    have HSY3 := hid2 (hs3.stays hb3a)
    obtain ⟨⟨x0, x1, x2⟩, _⟩ := three24 HX3.out
    have hxl : w.heap.size < w3.heap.size := Nat.lt_of_lt_of_le (Array.getElem?_eq_some_iff.1 HX2.out).1 hb3.size
    have KS := rsame_any (s : Int) (k : Int) (s : Int) (k : Int) (HS.out.stays HB3.out) HSY3.out
    rw [show ((s : Int) == (s : Int) && (k : Int) == (k : Int) && decide (l = l)) = true by simp] at KS
    have HKS := hid2 KS
    clear hs3 hf3 hb3 hb3a hb3b hgp KS
    go_wp2_with fail
    refine (show Calls _ _ _ _ _ from HKS).mono ?_
    rintro e w4 ⟨rfl, hb4⟩
    have HB4 := hid2 (HB3.out.trans (hb4.mono HB3.out.size))
    clear hb4 HX1 HX2 HX3 HSY3 HP2 HB1 HB2 HB3 HKS HK0 HX0 HB0 HN HSK
    go_wp2_with fail
    refine (get_any (HG.out.stays HB4.out) HBB.out).mono ?_
    rintro e w5 ⟨rv, rfl, b5, p5, c5, u5, _, hrv, hs5, hf5, hb5⟩
    have HPG := hid2 (fun (s k : Nat) (l : List Nat) (e : getP lb = (0, s, k, l)) => page_get HBB.out e)
    have HER := hid2 (@get_err lb)
    obtain ⟨code5, zs, zk, zl, hgp⟩ : ∃ c s k l, getP lb = (c, s, k, l) := ⟨_, _, _, _, rfl⟩
    rw [hgp] at hrv hs5 hf5
    have HGP := hid2 hgp
    dsimp only at hrv hs5 hf5
    subst hrv
    have hb5a : Below w5.heap.size w5 (w5.alloc (.cells #[.int .i64 (zs : Int), .int .i64 (zk : Int), .slice p5 zl.length c5] 24)) := by go_grown
    have hb5b := hb5.trans (hb5a.mono hb5.size)
    have HB5 := hid2 (HB4.out.trans (hb5b.mono HB4.out.size))
    have HSZ := hid2 (hs5.stays hb5a)
    have HF5 := hid2 (hf5.below hb5a)
    clear hs5 hf5 hb5 hb5a hb5b hgp
    by_cases hc5 : code5 = 0
    · subst hc5
      obtain rfl := HF5.out.none
      obtain ⟨e1, z1, z2, z3, z4, z5, z6⟩ := HPG.out _ _ _ HGP.out
      have HE1 := hid2 e1
      clear e1 HPG HER HGP
      go_wp2_with fail
      refine (put_good HSZ.out z6 z1 z2 z3 z4 z5).mono ?_
      rintro e w6 ⟨b6, o6, c6, rfl, hp6, _, hb6⟩
      have HB6 := hid2 (HB5.out.trans (hb6.mono HB5.out.size))
      have KS := same_any hp6.sl (HG.out.stays HB6.out)
      rw [decide_eq_true HE1.out] at KS
      have HKS := hid2 KS
      clear KS hp6 hb6
      go_wp2_with fail
      refine (show Calls _ _ _ _ _ from HKS).mono ?_
      rintro e w7 ⟨rfl, m7, rfl⟩
      have HB7 : Hid (Below w.heap.size w (w6.drewN m7)) := HB6.out.trans (below_drewN _ _ _)
      go_wp2_with fail
      refine (works_any _ (HE.out.below HB7.out)).mono ?_
      rintro e wz ⟨rfl, hbz⟩
      go_wp2
      go_ret
      exact ⟨rfl, HB7.out.trans (hbz.mono HB7.out.size)⟩
    · obtain ⟨a5, rfl⟩ := HF5.out.some hc5
      have hz := HER.out (by rw [HGP.out]; exact hc5)
      rw [HGP.out] at hz
      simp only [Prod.mk.injEq] at hz
      obtain ⟨rfl, rfl, rfl⟩ := hz
      have KS := rsame_any (w := w5.alloc (.cells #[.int .i64 ((0 : Nat) : Int), .int .i64 ((0 : Nat) : Int), .slice p5 ([] : List Nat).length c5] 24)) 0 0 0 0 HSZ.out (SlAt.nil _ 0) (l' := [])
      rw [show ((0 : Int) == (0 : Int) && (0 : Int) == (0 : Int) && decide (([] : List Nat) = [])) = true by decide] at KS
      have HKS := hid2 KS
      clear KS HPG HER HGP hc5
      go_wp2_with fail
      refine (show Calls _ _ _ _ _ from HKS).mono ?_
      rintro e w7 ⟨rfl, hb7⟩
      have HB7 := hid2 (HB5.out.trans (hb7.mono HB5.out.size))
      clear hb7
      go_wp2_with fail
      refine (works_any _ (HE.out.below HB7.out)).mono ?_
      rintro e wz ⟨rfl, hbz⟩
      go_wp2
      go_ret
      exact ⟨rfl, HB7.out.trans (hbz.mono HB7.out.size)⟩
  · generalize checkC s k l.length = code at *
    have hd : (code == 0) = false := by simpa using hck
    clear hck
    go_enter Tryd.func5, Tryd.ntmps5
    go_wp2_with fail
    refine (show Calls _ _ _ _ _ from HK0).mono ?_
    rintro e w4 ⟨rfl, hb4⟩
    have HB4 := hid2 (HB0.out.trans (hb4.mono HB0.out.size))
    clear hb4 HK0 HX0 HB0
    go_wp2_with fail
    refine (get_any (HG.out.stays HB4.out) HBB.out).mono ?_
    rintro e w5 ⟨rv, rfl, b5, p5, c5, u5, _, hrv, hs5, hf5, hb5⟩
    have HPG := hid2 (fun (s k : Nat) (l : List Nat) (e : getP lb = (0, s, k, l)) => page_get HBB.out e)
    have HER := hid2 (@get_err lb)
    obtain ⟨code5, zs, zk, zl, hgp⟩ : ∃ c s k l, getP lb = (c, s, k, l) := ⟨_, _, _, _, rfl⟩
    rw [hgp] at hrv hs5 hf5
    have HGP := hid2 hgp
    dsimp only at hrv hs5 hf5
    subst hrv
    have hb5a : Below w5.heap.size w5 (w5.alloc (.cells #[.int .i64 (zs : Int), .int .i64 (zk : Int), .slice p5 zl.length c5] 24)) := by go_grown
    have hb5b := hb5.trans (hb5a.mono hb5.size)
    have HB5 := hid2 (HB4.out.trans (hb5b.mono HB4.out.size))
    have HSZ := hid2 (hs5.stays hb5a)
    have HF5 := hid2 (hf5.below hb5a)
    clear hs5 hf5 hb5 hb5a hb5b hgp
    by_cases hc5 : code5 = 0
    · subst hc5
      obtain rfl := HF5.out.none
      obtain ⟨e1, z1, z2, z3, z4, z5, z6⟩ := HPG.out _ _ _ HGP.out
      have HE1 := hid2 e1
      clear e1 HPG HER HGP
      go_wp2_with fail
      refine (put_good HSZ.out z6 z1 z2 z3 z4 z5).mono ?_
      rintro e w6 ⟨b6, o6, c6, rfl, hp6, _, hb6⟩
      have HB6 := hid2 (HB5.out.trans (hb6.mono HB5.out.size))
      have KS := same_any hp6.sl (HG.out.stays HB6.out)
      rw [decide_eq_true HE1.out] at KS
      have HKS := hid2 KS
      clear KS hp6 hb6
      go_wp2_with fail
      refine (show Calls _ _ _ _ _ from HKS).mono ?_
      rintro e w7 ⟨rfl, m7, rfl⟩
      have HB7 : Hid (Below w.heap.size w (w6.drewN m7)) := HB6.out.trans (below_drewN _ _ _)
      go_wp2_with fail
      refine (works_any _ (HE.out.below HB7.out)).mono ?_
      rintro e wz ⟨rfl, hbz⟩
      go_wp2
      go_ret
      exact ⟨rfl, HB7.out.trans (hbz.mono HB7.out.size)⟩
    · obtain ⟨a5, rfl⟩ := HF5.out.some hc5
      have hz := HER.out (by rw [HGP.out]; exact hc5)
      rw [HGP.out] at hz
      simp only [Prod.mk.injEq] at hz
      obtain ⟨rfl, rfl, rfl⟩ := hz
      have KS := rsame_any (w := w5.alloc (.cells #[.int .i64 ((0 : Nat) : Int), .int .i64 ((0 : Nat) : Int), .slice p5 ([] : List Nat).length c5] 24)) 0 0 0 0 HSZ.out (SlAt.nil _ 0) (l' := [])
      rw [show ((0 : Int) == (0 : Int) && (0 : Int) == (0 : Int) && decide (([] : List Nat) = [])) = true by decide] at KS
      have HKS := hid2 KS
      clear KS HPG HER HGP hc5
      go_wp2_with fail
      refine (show Calls _ _ _ _ _ from HKS).mono ?_
      rintro e w7 ⟨rfl, hb7⟩
      have HB7 := hid2 (HB5.out.trans (hb7.mono HB5.out.size))
      clear hb7
      go_wp2_with fail
      refine (works_any _ (HE.out.below HB7.out)).mono ?_
      rintro e wz ⟨rfl, hbz⟩
      go_wp2
      go_ret
      exact ⟨rfl, HB7.out.trans (hbz.mono HB7.out.size)⟩

/-- The sentence's function answers true, whatever comes in. -/
theorem back_any {w : World} {b c : Nat} {p q : Option Addr} {cap cq : Nat} {s k : Int} {l lb : List Nat} (h : SlAt w b (.slice p l.length cap) (U l)) (g : SlAt w c (.slice q lb.length cq) (U lb)) (hby : Byt l) (hbb : Byt lb) (hE : ErrT w) :
    Calls Tryd.prog 5 #[.agg #[.int .i64 s, .int .i64 k, .slice p l.length cap], .slice q lb.length cq] w fun e w' => e = .returned (.bool true) ∧ Below w.heap.size w w' := by
  by_cases h1 : 600 < l.length ∨ 600 < lb.length
  · exact back_out hE h1
  · exact back_good h g hby hbb hE (by omega) (by omega)
end Go.Proofs.YtcdcdlofgeoonaaDoor
