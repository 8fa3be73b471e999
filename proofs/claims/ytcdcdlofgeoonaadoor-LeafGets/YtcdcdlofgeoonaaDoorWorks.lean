/-
  The example that each law of this layer asks for.
-/
import Derived.Test.YtcdcdlofgeoonaaDoorGets
import Derived.Lib.SlBytesConst
import Derived.Laws.OwnMore
namespace Go.Proofs.YtcdcdlofgeoonaaDoor
open Go.RowKit Go.Extern.Stop Go.Stop Go.Extern

/-- The example's bytes. -/
def abc : List Nat := [97, 98, 99]
theorem abc_byt : Byt abc := by intro x hx; simp [abc] at hx; omega
theorem abc_get : getP (page 9 3 abc) = (0, 9, 3, abc) := get_page (by omega) (by omega) (by omega) (by omega) (by decide)
theorem abc_stamps : stampsP (page 9 3 abc) = (9, 9) := by
  unfold stampsP
  rw [if_pos (page_length (by decide)), page_take8, page_drop248 (by decide), num8_w8 _ (by omega), stampN_ok (by omega)]
theorem abc_last : (page 9 3 abc)[255]? = some 9 := by
  have e : page 9 3 abc = sealL (body 9 3 abc) ++ w8 9 8 := rfl
  rw [e, List.getElem?_append_right (by rw [sealL_length, body_length (by decide)]; omega), sealL_length, body_length (by decide)]
  rfl
/-- The page with its last bit turned. -/
def abcT : List Nat := (page 9 3 abc).set 255 8
theorem abcT_byt : Byt abcT := by
  intro z hz
  rcases List.mem_or_eq_of_mem_set hz with hz | rfl
  · exact page_byt (by omega) (by decide) abc_byt z hz
  · omega
theorem abcT_torn : (getP abcT).1 = 8 := by
  have hl : abcT.length = 256 := by unfold abcT; rw [List.length_set]; exact page_length (by decide)
  refine spoilt_torn hl (fun e => ?_)
  have a : (abcT.take 8)[7]? = some 9 := by
    rw [List.getElem?_take, if_pos (by omega)]
    unfold abcT
    rw [List.getElem?_set_ne (by omega)]
    have : ((page 9 3 abc).take 8)[7]? = some 9 := by rw [page_take8]; rfl
    rw [List.getElem?_take, if_pos (by omega)] at this
    exact this
  have b : (abcT.drop 248)[7]? = some 8 := by
    rw [List.getElem?_drop]
    unfold abcT
    rw [List.getElem?_set_self (by rw [page_length (by decide)]; omega)]
  rw [e, b] at a
  cases a
theorem sl_abc_new (w : World) : SlAt (w.alloc (.cells #[.int .u8 97, .int .u8 98, .int .u8 99] 5 (3, 4))) w.heap.size (.slice (some ⟨w.heap.size, 0, none⟩) 3 3) (U abc) := by
  refine .inr ⟨_, 3, rfl, by simp [U, abc], by unfold maxLen; omega, .inr ⟨0, rfl, by simp, fun k u hk => ?_⟩⟩
  rcases k with _ | _ | _ | k
  all_goals (simp [U, abc] at hk)
  all_goals (subst hk; simp only [World.cell?]; rw [heap_alloc_new]; rfl)

theorem lk_own {w w' : World} {v : Value} {ls : List Lnk} {B : Nat} {o : Value} {n : Nat} {xs : List Value} {b : Nat} (h : Lk w v ls) (ho : w.ownsRow B 5 1 o n xs) (hb : o.ownBlock = some b) (hg : w.grownBy w' (some b)) : Lk w' v ls := by
  induction ls generalizing v with
  | nil => exact h
  | cons l r ih =>
    obtain ⟨op, a, cc⟩ := l
    obtain ⟨b1, u, h1, h2, h3⟩ := h
    refine ⟨b1, u, h1, ?_, ih h3⟩
    refine heap_grownBy h2 hg ?_
    intro e
    cases e
    rcases ho.2 with ⟨e1, _⟩ | ⟨g, cap, cur, e1, _, hgg, _⟩
    · rw [e1] at hb; cases hb
    · rw [e1] at hb
      cases hb
      rw [hgg] at h2
      cases h2
theorem fault_own {w w' : World} {v : Value} {code : Int} {B : Nat} {n cap : Nat} {xs : List Value} {b : Nat} (h : Fault w v code) (ho : w.ownsRow B 5 1 (.slice (some ⟨b, 0, none⟩) n cap) n xs) (hg : w.grownBy w' (some b)) : Fault w' v code := by
  rcases h with h | ⟨h1, dn, op, a, p, h2, h3, h4⟩
  · exact .inl h
  · exact .inr ⟨h1, dn, op, a, p, lk_own h2 ho rfl hg, h3, h4⟩
theorem own_form {w : World} {B : Nat} {e : TypeId} {v : Value} {n : Nat} {xs : List Value} (h : w.ownsRow B e 1 v n xs) (hn : 0 < n) : ∃ g cap, v = .slice (some ⟨g, 0, none⟩) n cap ∧ B ≤ g ∧ g < w.heap.size ∧ n ≤ cap ∧ cap ≤ maxLen := by
  rcases h.2 with ⟨_, h0⟩ | ⟨g, cap, cur, h1, h2, h3, h4, h5, _⟩
  · omega
  · exact ⟨g, cap, h1, h2, (Array.getElem?_eq_some_iff.1 h3).1, h4, h5⟩

set_option maxHeartbeats 8000000 in
set_option maxRecDepth 10000 in
theorem works_any (w : World) (hE : ErrT w) : Calls Tryd.prog 8 #[] w fun e w' => e = .returned (.bool true) ∧ Below w.heap.size w w' := by
  have HE := hid2 hE
  clear hE
  have kc := fun (w : World) (C : Array Value) (n c : Nat) => Lib.run_convert_bytes_const (P := Tryd.prog) w 22 5 C n c Tryd.underlying22 Tryd.underlying5
  go_enter Tryd.func8, Tryd.ntmps8
  have hb0 : Below w.heap.size w ((w.alloc (.cells #[.int .u8 97, .int .u8 98, .int .u8 99] 5 (3, 4))).alloc (.cells #[.int .i64 9, .int .i64 3, .slice (some ⟨w.heap.size, 0, none⟩) 3 3] 24)) := by go_grown
  have hs0 : SlAt ((w.alloc (.cells #[.int .u8 97, .int .u8 98, .int .u8 99] 5 (3, 4))).alloc (.cells #[.int .i64 9, .int .i64 3, .slice (some ⟨w.heap.size, 0, none⟩) 3 3] 24)) w.heap.size (.slice (some ⟨w.heap.size, 0, none⟩) 3 3) (U abc) := (sl_abc_new w).stays (by go_grown)
  have hx0 : ((w.alloc (.cells #[.int .u8 97, .int .u8 98, .int .u8 99] 5 (3, 4))).alloc (.cells #[.int .i64 9, .int .i64 3, .slice (some ⟨w.heap.size, 0, none⟩) 3 3] 24)).heap[w.heap.size + 1]? = some (.cells #[.int .i64 9, .int .i64 3, .slice (some ⟨w.heap.size, 0, none⟩) 3 3] 24 (0, 0)) := by
    have := heap_alloc_new (w.alloc (.cells #[.int .u8 97, .int .u8 98, .int .u8 99] 5 (3, 4))) (.cells #[.int .i64 9, .int .i64 3, .slice (some ⟨w.heap.size, 0, none⟩) 3 3] 24)
    rw [size_alloc] at this
    exact this
  have HB0 := hid2 hb0
  have HS0 := hid2 hs0
  have HX0 := hid2 hx0
  clear hb0 hs0 hx0
  go_wp2_with fail
  refine (put_good (s := 9) (k := 3) (l := abc) HS0.out abc_byt (by omega) (by omega) (by omega) (by omega) (by decide)).mono ?_
  rintro e w2 ⟨b2, o2, c2, rfl, hp2, ho2, hb2⟩
  obtain ⟨g2, cc2, hv2, hg2, _, _, _⟩ := own_form ho2 (by omega)
  cases hv2
  have HP2 := hid2 hp2
  have HO2 := hid2 ho2
  have HB2 := hid2 (HB0.out.trans (hb2.mono HB0.out.size))
  have HS2 := hid2 (HS0.out.stays hb2)
  have HX2 := hid2 (heap_stays HX0.out hb2)
  have HL2 : Hid (b2 < w2.heap.size) := hp2.lt
  have HG2 : Hid (w.heap.size + 2 ≤ b2) := by have : w.heap.size + 2 ≤ b2 := (by simpa using hg2); exact this
  clear hp2 ho2 hb2 hg2 HB0 HS0 HX0
  go_wp2_with fail
  refine (get_page_any HP2.out).mono ?_
  rintro e w3 ⟨rv, rfl, b3, p3, c3, u3, hb3n, hrv, hs3, hf3, hb3⟩
  rw [abc_get] at hrv hs3 hf3
  dsimp only at hrv hs3 hf3
  subst hrv
  obtain rfl := hf3.none
  have hb3a : Below w3.heap.size w3 (w3.alloc (.cells #[.int .i64 9, .int .i64 3, .slice p3 3 c3] 24)) := by go_grown
  have hb3b := hb3.trans (hb3a.mono hb3.size)
  have HB3 := hid2 (HB2.out.trans (hb3b.mono HB2.out.size))
  have HP3 := hid2 (HP2.out.below hb3b)
  have HO3 := hid2 (own_below HO2.out hb3b)
  have HS3 := hid2 (HS2.out.stays hb3b)
  have HX3 := hid2 (heap_stays HX2.out hb3b)
  have HSY3 := hid2 (hs3.stays hb3a)
  have HY3 : Hid ((w3.alloc (.cells #[.int .i64 9, .int .i64 3, .slice p3 3 c3] 24)).heap[w3.heap.size]? = some (.cells #[.int .i64 9, .int .i64 3, .slice p3 3 c3] 24 (0, 0))) := heap_alloc_new w3 _
  have HG3 : Hid (b2 < w3.heap.size) := Nat.lt_of_lt_of_le HP2.out.lt hb3.size
  clear hs3 hf3 hb3 hb3a hb3b HP2 HO2 HB2 HS2 HX2
  have HN3 : Hid (b3 ≠ b2) := by have : b2 < w2.heap.size := HL2.out; show b3 ≠ b2; omega
  clear hb3n
  go_wp2_with fail
  refine (put_bad (s := 1) (k := 6) (p := none) (n := 0) (cap := 0) _ (by omega) (by decide)).mono ?_
  rintro e w4 ⟨u4, rfl, hu4, hb4⟩
  rw [show checkC 1 6 0 = 12 by decide] at hu4
  have HU4 := hid2 hu4
  have HB4 := hid2 (HB3.out.trans (hb4.mono HB3.out.size))
  have HP4 := hid2 (HP3.out.below hb4)
  have HO4 := hid2 (own_below HO3.out hb4)
  have HS4 := hid2 (HS3.out.stays hb4)
  have HX4 := hid2 (heap_stays HX3.out hb4)
  have HSY4 := hid2 (HSY3.out.stays hb4)
  have HY4 := hid2 (heap_stays HY3.out hb4)
  clear hu4 hb4 HB3 HP3 HO3 HS3 HX3 HSY3 HY3
  have K5 := stamps_any HP4.out.sl HP4.out.byt
  rw [abc_stamps] at K5
  have HK5 := hid2 K5
  clear K5
  go_wp2_with fail
  refine (show Calls _ _ _ _ _ from HK5).mono ?_
  rintro e w5 ⟨rfl, hb5⟩
  have HU5 := hid2 (HU4.out.below hb5)
  have HB5 := hid2 (HB4.out.trans (hb5.mono HB4.out.size))
  have HO5 := hid2 (own_below HO4.out hb5)
  have HS5 := hid2 (HS4.out.stays hb5)
  have HX5 := hid2 (heap_stays HX4.out hb5)
  have HSY5 := hid2 (HSY4.out.stays hb5)
  have HY5 := hid2 (heap_stays HY4.out hb5)
  have c5 : w5.cell? ⟨b2, 255, none⟩ = some (.int .u8 9) := (HO5.out.cellAt 255 (by omega)).trans (U_at abc_last)
  have f5 := HO5.out.frozenAt 255
  have hx : bits .xor .u8 9 1 = 8 := by decide
  have hst := HO5.out.stored 255 (.int .u8 8)
  have eT : (U (page 9 3 abc)).set 255 (.int .u8 8) = U abcT := by simp [abcT, U, List.map_set]
  rw [eT] at hst
  obtain ⟨bt, _, hsT⟩ := own_sl hst.1
  have HST := hid2 hsT
  have HGR := hid2 hst.2
  have hne1 : w.heap.size + 1 ≠ b2 := by have := HG2.out; omega
  have hne0 : w.heap.size ≠ b2 := by have := HG2.out; omega
  have hne3 : w3.heap.size ≠ b2 := by have := HG3.out; omega
  have HU6 : Hid (Fault (w5.setCell ⟨b2, 255, none⟩ (.int .u8 8)) u4 12) := fault_own HU5.out HO5.out HGR.out
  have HB6 := hid2 (HB5.out.grown HGR.out HB5.out.size (fun kk hkk => by cases hkk; have := HG2.out; omega))
  have HS6 := hid2 (HS5.out.grown HGR.out hne0)
  have HX6 := hid2 (heap_grownBy HX5.out HGR.out (by intro e; exact hne1 (Option.some.inj e)))
  have HSY6 := hid2 (HSY5.out.grown HGR.out HN3.out)
  have HY6 := hid2 (heap_grownBy HY5.out HGR.out (by intro e; exact hne3 (Option.some.inj e)))
  clear hst eT hsT hb5 HK5 HU4 HU5 HB4 HB5 HO4 HO5 HS4 HS5 HX4 HX5 HSY4 HSY5 HY4 HY5 HP4 HGR hne0 hne1 hne3
  go_wp2_with fail
  refine (get_any HST.out abcT_byt).mono ?_
  generalize w5.setCell ⟨b2, 255, none⟩ (.int .u8 8) = w6 at *
  rintro e w7 ⟨rv7, rfl, b7, p7, c7, u7, _, hrv7, hs7, hf7, hb7⟩
  rw [abcT_torn] at hf7
  subst hrv7
  have hb7a : Below w7.heap.size w7 (w7.alloc (.cells #[.int .i64 ((getP abcT).2.1 : Int), .int .i64 ((getP abcT).2.2.1 : Int), .slice p7 (getP abcT).2.2.2.length c7] 24)) := by go_grown
  have hb7b := hb7.trans (hb7a.mono hb7.size)
  have HF7 := hid2 (hf7.below hb7a)
  have HU7 := hid2 (HU6.out.below hb7b)
  have HB7 := hid2 (HB6.out.trans (hb7b.mono HB6.out.size))
  have HS7 := hid2 (HS6.out.stays hb7b)
  have HX7 := hid2 (heap_stays HX6.out hb7b)
  have HSY7 := hid2 (HSY6.out.stays hb7b)
  have HY7 := hid2 (heap_stays HY6.out hb7b)
  obtain ⟨⟨x0, x1, x2⟩, _⟩ := three24 HX7.out
  obtain ⟨⟨y0, y1, y2⟩, _⟩ := three24 HY7.out
  clear hs7 hf7 hb7 hb7a hb7b HST HU6 HB6 HS6 HX6 HSY6 HY6
  generalize (getP abcT).2.1 = t1 at *
  generalize (getP abcT).2.2.1 = t2 at *
  generalize (getP abcT).2.2.2.length = t3 at *
  go_wp2_with fail
  refine (lsame_any 9 3 9 3 HS7.out HSY7.out abc_byt abc_byt).mono ?_
  rintro e w8' ⟨rfl, hb8⟩
  have HF8 := hid2 (HF7.out.below hb8)
  have HU8 := hid2 (HU7.out.below hb8)
  have HB8 := hid2 (HB7.out.trans (hb8.mono HB7.out.size))
  have HX8 := hid2 (heap_stays HX7.out hb8)
  clear hb8 HF7 HU7 HB7 HX7 HS7 HSY7 HY7
  rw [show ((9 : Int) == 9 && (3 : Int) == 3 && decide (abc = abc)) = true by decide]
  go_wp2_with fail
  refine (of_code (HE.out.below HB8.out) HU8.out).mono ?_
  rintro e w9 ⟨rfl, hb9⟩
  have HF9 := hid2 (HF8.out.below hb9)
  have HB9 := hid2 (HB8.out.trans (hb9.mono HB8.out.size))
  have HX9 := hid2 (heap_stays HX8.out hb9)
  clear hb9 HF8 HU8 HB8 HX8
  go_wp2_with fail
  refine (of_code (HE.out.below HB9.out) HF9.out).mono ?_
  rintro e w10 ⟨rfl, hb10⟩
  have HB10 := hid2 (HB9.out.trans (hb10.mono HB9.out.size))
  have HX10 := hid2 (heap_stays HX9.out hb10)
  obtain ⟨⟨x0, x1, x2⟩, _⟩ := three24 HX10.out
  clear hb10 HF9 HB9 HX9
  go_wp2_with fail
  refine (check_any 9 3 _ 3 3 _ (by omega)).mono ?_
  rintro e w11 ⟨v11, rfl, hv11, hb11⟩
  rw [show checkC 9 3 3 = 0 by decide] at hv11
  obtain rfl := hv11.fault.none
  go_wp2
  go_ret
  exact ⟨rfl, HB10.out.trans (hb11.mono HB10.out.size)⟩
end Go.Proofs.YtcdcdlofgeoonaaDoor
