/-
  A blank page torn by a write: the walk of that sentence.
-/
import Derived.Test.YtcdcdlofgeoonaaDoorApp
namespace Go.Proofs.YtcdcdlofgeoonaaDoor
open Go.RowKit Go.Extern.Stop Go.Stop Go.Extern

set_option maxHeartbeats 4000000 in
set_option maxRecDepth 10000 in
theorem fresh_any {w : World} {b : Nat} {p : Option Addr} {cap cut : Nat} {s k : Int} {l : List Nat} (h : SlAt w b (.slice p l.length cap) (U l)) (hby : Byt l) (hcut : cut < 65536) (hE : ErrT w) :
    Calls Tryd.prog 7 #[.agg #[.int .i64 s, .int .i64 k, .slice p l.length cap], .int .u16 (cut : Int)] w fun e w' => e = .returned (.bool true) ∧ Below w.heap.size w w' := by
  have HE := hid2 hE
  clear hE
  by_cases hck : checkC s k l.length = 0
  · obtain ⟨s1, s2, k1, k2, hn⟩ := check_zero hck
    obtain ⟨s, rfl⟩ := Int.eq_ofNat_of_zero_le (show 0 ≤ s by omega)
    obtain ⟨k, rfl⟩ := Int.eq_ofNat_of_zero_le (show 0 ≤ k by omega)
    have hb0 : Below w.heap.size w (w.alloc (.cells #[.int .i64 (s : Int), .int .i64 (k : Int), .slice p l.length cap] 24)) := by go_grown
    have K0 := rcheck_any (s : Int) (k : Int) p l.length cap (w.alloc (.cells #[.int .i64 (s : Int), .int .i64 (k : Int), .slice p l.length cap] 24))
    rw [hck] at K0
    have HK0 := hid2 K0
    have HB0 := hid2 hb0
    have HX0 := hid2 (heap_alloc_new w (.cells #[.int .i64 (s : Int), .int .i64 (k : Int), .slice p l.length cap] 24))
    have HS := hid2 h
    have HBY := hid2 hby
    have HN := hid2 hn
    have HSK : Hid (1 ≤ s ∧ s ≤ 1099511627776 ∧ 1 ≤ k ∧ k ≤ 5) := ⟨by omega, by omega, by omega, by omega⟩
    obtain ⟨kk, hkk⟩ : ∃ kk, kk = cut % 257 := ⟨_, rfl⟩
    have hkl : kk ≤ 256 := by omega
    have hmod : (cut : Int) % 257 = (kk : Int) := by omega
    clear hkk h hby K0 hb0 hck s1 s2 k1 k2
    go_enter Tryd.func7, Tryd.ntmps7
    go_wp2_with fail
    refine (show Calls _ _ _ _ _ from HK0).mono ?_
    rintro e w1 ⟨rfl, hb1⟩
    have HB1 := hid2 (HB0.out.trans (hb1.mono HB0.out.size))
    have hx1 := heap_stays HX0.out hb1
    obtain ⟨⟨q0, q1, q2⟩, _⟩ := three24 hx1
    clear hb1 hx1
    go_wp2_with fail
    refine (put_good (HS.out.stays HB1.out) HBY.out HSK.out.1 HSK.out.2.1 HSK.out.2.2.1 HSK.out.2.2.2 HN.out).mono ?_
    rintro e w2 ⟨b2, o2, c2, rfl, hp2, ho2, hb2⟩
    have HP2 := hid2 hp2
    have HB2 := hid2 (HB1.out.trans (hb2.mono HB1.out.size))
    have c20 := hp2.cap0
    have c21 := hp2.cap1
    unfold maxLen at c21
    have i1 : (kk : Int) ≤ (c2 : Int) := by omega
    have i2 : ¬ c2 < kk := by omega
    have hoe : (w2.alloc (.cells #[] 5)).ownsRow w2.heap.size 5 1 (.slice (some ⟨w2.heap.size, 0, none⟩) 0 0) 0 [] := World.ownsRow_made w2 #[] 0 (Nat.le_refl _) (Nat.zero_le _) rfl
    have HOE := hid2 hoe
    have HSA := hid2 ((hp2.below (w' := w2.alloc (.cells #[] 5)) (by go_grown)).first (j := kk) hkl)
    have hbe : Below w2.heap.size w2 (w2.alloc (.cells #[] 5)) := by go_grown
    have HBE := hid2 hbe
    clear hp2 ho2 hb2 hoe hbe
    go_wp2_with (first
      | (at_builtin; refine wpList_append_zeros _ rfl _ _ rfl w2.heap.size _ _ (256 - kk) _ rfl (by show Value.int .i64 _ = _; congr 1; omega) HO3.out (HN3.out (by intro e; cases e)) (by omega) HZ3.out ?_; intro v4 w4 hown4 hgrow4; have HO4 := hid2 hown4; have hb4 := HB3.out.grown hgrow4 HB3.out.size (fun kk2 hkk2 => (HO3.out.lt kk2 hkk2).1); have HB4 := hid2 hb4; clear hown4 hgrow4 hb4)
      | (at_builtin; refine wpList_append_bytes _ rfl _ _ rfl w2.heap.size _ 0 [] rfl HOE.out b2 o2 kk c2 _ rfl HSA.out (by omega) (by simp) ?_; intro v3 w3 hown3 hgrow3 hnn3; rw [Nat.zero_add, List.nil_append] at hown3; have HO3 := hid2 hown3; have HN3 := hid2 hnn3; have hb3 := HBE.out.grown hgrow3 (by simp) (fun kk2 hkk2 => (HOE.out.lt kk2 hkk2).1); have HB3 := hid2 hb3; have HZ3 := hid2 hb3.size; clear hown3 hgrow3 hnn3 hb3))
    have eC : U ((page s k l).take kk) ++ List.replicate (256 - kk) (Value.int .u8 0) = U (cutAt (page s k l) (List.replicate 256 0) kk) := by
      rw [U_zeros, ← U_append, cut_blank _ hkl]
    have hO4 := HO4.out
    rw [eC] at hO4
    obtain ⟨b4, _, hs4⟩ := own_sl hO4
    have HSC := hid2 hs4
    have HCB : Hid (Byt (cutAt (page s k l) (List.replicate 256 0) kk)) := cut_byt (page_byt (by have := HSK.out; omega) HN.out HBY.out) blank_byt kk
    have HT := hid2 (fresh_told (s := s) (k := k) HN.out hkl)
    have HB5 := hid2 (HB2.out.trans (HB4.out.mono HB2.out.size))
    have HPA := hid2 (HP2.out.below HB4.out)
    obtain ⟨p4, c4, hv4, _, _⟩ := hs4.form
    rw [U_length, cut_length (page_length HN.out) (List.length_replicate ..) hkl] at hv4
    subst hv4
    clear eC hO4 hs4 HO4 HO3 HN3 HB3 HB4 HOE HSA HBE
    generalize cutAt (page s k l) (List.replicate 256 0) kk = C at *
    go_wp2_with fail
    refine (get_any HSC.out HCB.out).mono ?_
    rintro e w6 ⟨rv6, rfl, b6, p6, c6, u6, _, hrv6, hs6, hf6, hb6⟩
    subst hrv6
    have hb6a : Below w6.heap.size w6 (w6.alloc (.cells #[.int .i64 ((getP C).2.1 : Int), .int .i64 ((getP C).2.2.1 : Int), .slice p6 (getP C).2.2.2.length c6] 24)) := by go_grown
    have hb6b := hb6.trans (hb6a.mono hb6.size)
    have HF6 := hid2 (hf6.below hb6a)
    have HB6 := hid2 (HB5.out.trans (hb6b.mono HB5.out.size))
    have HSC6 := hid2 (HSC.out.stays hb6b)
    have HPA6 := hid2 ((HPA.out.below hb6b).sl)
    have HTOLD := hid2 HT.out
    clear hs6 hf6 hb6 hb6a hb6b
    generalize (getP C).2.1 = t1 at *
    generalize (getP C).2.2.1 = t2 at *
    generalize (getP C).2.2.2.length = t3 at *
    generalize (getP C).1 = code at *
    by_cases h8 : code = 8
    · subst h8
      go_wp2_with fail
      refine (of_code (HE.out.below HB6.out) HF6.out).mono ?_
      rintro e w7 ⟨rfl, hb7⟩
      have HF7 := hid2 (HF6.out.below hb7)
      have HB7 := hid2 (HB6.out.trans (hb7.mono HB6.out.size))
      have HSC7 := hid2 (HSC6.out.stays hb7)

      clear hb7
      go_wp2_with fail
      refine (works_any _ (HE.out.below HB7.out)).mono ?_
      rintro e wz ⟨rfl, hbz⟩
      go_wp2
      go_ret
      exact ⟨rfl, HB7.out.trans (hbz.mono HB7.out.size)⟩
    · have e8 : (code == 8) = false := by simpa using h8
      by_cases h9 : code = 9
      · subst h9
        go_wp2_with fail
        refine (of_code (HE.out.below HB6.out) HF6.out).mono ?_
        rintro e w7 ⟨rfl, hb7⟩
        have HF7 := hid2 (HF6.out.below hb7)
        have HB7 := hid2 (HB6.out.trans (hb7.mono HB6.out.size))
        have HSC7 := hid2 (HSC6.out.stays hb7)

        clear hb7
        go_wp2_with fail
        refine (of_code (HE.out.below HB7.out) HF7.out).mono ?_
        rintro e w8x ⟨rfl, hb8x⟩
        have HF8x := hid2 (HF7.out.below hb8x)
        have HB8x := hid2 (HB7.out.trans (hb8x.mono HB7.out.size))
        have HSC8x := hid2 (HSC7.out.stays hb8x)

        clear hb8x
        go_wp2_with fail
        refine (works_any _ (HE.out.below HB8x.out)).mono ?_
        rintro e wz ⟨rfl, hbz⟩
        go_wp2
        go_ret
        exact ⟨rfl, HB8x.out.trans (hbz.mono HB8x.out.size)⟩
      · have e9 : (code == 9) = false := by simpa using h9
        have heq : C = page s k l := by
          rcases HT.out with h | h | h
          · exact absurd h h8
          · exact absurd h h9
          · exact h
        have HEQ : Hid (decide (C = page s k l) = true) := decide_eq_true heq
        clear heq h8 h9
        go_wp2_with fail
        refine (of_code (HE.out.below HB6.out) HF6.out).mono ?_
        rintro e w7 ⟨rfl, hb7⟩
        have HF7 := hid2 (HF6.out.below hb7)
        have HB7 := hid2 (HB6.out.trans (hb7.mono HB6.out.size))
        have HSC7 := hid2 (HSC6.out.stays hb7)
        have HPA7 := hid2 (HPA6.out.stays hb7)
        clear hb7
        go_wp2_with fail
        refine (of_code (HE.out.below HB7.out) HF7.out).mono ?_
        rintro e w8x ⟨rfl, hb8x⟩
        have HF8x := hid2 (HF7.out.below hb8x)
        have HB8x := hid2 (HB7.out.trans (hb8x.mono HB7.out.size))
        have HSC8x := hid2 (HSC7.out.stays hb8x)
        have HPA8 := hid2 (HPA7.out.stays hb8x)
        clear hb8x
        have KS := same_any HSC8x.out HPA8.out
        rw [HEQ.out] at KS
        have HKS := hid2 KS
        clear KS
        go_wp2_with fail
        refine (show Calls _ _ _ _ _ from HKS).mono ?_
        rintro e w9 ⟨rfl, m9, rfl⟩
        have HB9 : Hid (Below w.heap.size w (w8x.drewN m9)) := HB8x.out.trans (below_drewN _ _ _)
        go_wp2_with fail
        refine (works_any _ (HE.out.below HB9.out)).mono ?_
        rintro e wz ⟨rfl, hbz⟩
        go_wp2
        go_ret
        exact ⟨rfl, HB9.out.trans (hbz.mono HB9.out.size)⟩
  · have hb0 : Below w.heap.size w (w.alloc (.cells #[.int .i64 s, .int .i64 k, .slice p l.length cap] 24)) := by go_grown
    have HK0 := hid2 (rcheck_any s k p l.length cap (w.alloc (.cells #[.int .i64 s, .int .i64 k, .slice p l.length cap] 24)))
    have HB0 := hid2 hb0
    clear h hby hb0
    generalize checkC s k l.length = code at *
    have hd : (code != 0) = true := by simpa using hck
    go_enter Tryd.func7, Tryd.ntmps7
    go_wp2_with fail
    refine (show Calls _ _ _ _ _ from HK0).mono ?_
    rintro e w1 ⟨rfl, hb1⟩
    have HB1 := hid2 (HB0.out.trans (hb1.mono HB0.out.size))
    clear hb1
    go_wp2_with fail
    refine (works_any _ (HE.out.below HB1.out)).mono ?_
    rintro e wz ⟨rfl, hbz⟩
    go_wp2
    go_ret
    exact ⟨rfl, HB1.out.trans (hbz.mono HB1.out.size)⟩
end Go.Proofs.YtcdcdlofgeoonaaDoor
