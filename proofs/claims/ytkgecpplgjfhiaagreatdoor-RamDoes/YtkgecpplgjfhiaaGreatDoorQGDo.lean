/-
  Add, Drop and Touch of the program.
-/
import Derived.Test.YtkgecpplgjfhiaaGreatDoorQGAsk
import Derived.Test.YtkgecpplgjfhiaaGreatDoorQGTake
namespace Go.Proofs.YtkgecpplgjfhiaaGreatDoor.Lis
open Go.RowKit

/-- No block of lists. -/
def NotL (w : World) (k : Nat) : Prop := ∀ cur T fr, w.heap[k]? = some (.cells cur T fr) → T ≠ 115 ∧ T ≠ 117 ∧ T ≠ 3
theorem NotL.same {w w' : World} {k : Nat} (h : NotL w k) (e : w'.heap[k]? = w.heap[k]?) : NotL w' k := fun cur T fr hh => h cur T fr (by rw [← e]; exact hh)
theorem Ob.tags {w : World} {g h l K n N : Nat} {t : St} (o : Ob w g h l K n N t) : ∀ k, NotL w k → k ≠ g ∧ k ≠ h ∧ k ≠ l := by
  obtain ⟨_, _, _, _, _, _, e1, ⟨c2, e2, _⟩, ⟨c3, e3, _⟩⟩ := o
  refine fun k hk => ⟨?_, ?_, ?_⟩ <;> rintro rfl
  · exact (hk _ _ _ e1).1 rfl
  · exact (hk _ _ _ e2).2.1 rfl
  · exact (hk _ _ _ e3).2.2 rfl
/-- What stays where blocks from B0 to B alone are written, and of these those of lists alone. -/
structure Mid (B0 B : Nat) (w w' : World) : Prop where
  os : w'.os = w.os
  tape : w'.tape = w.tape
  output : w'.output = w.output
  size : w.heap.size ≤ w'.heap.size
  block : ∀ k, k < w.heap.size → (k < B0 ∨ B ≤ k ∨ NotL w k) → w'.heap[k]? = w.heap[k]?
theorem Mid.refl (B0 B : Nat) (w : World) : Mid B0 B w w := ⟨rfl, rfl, rfl, Nat.le_refl _, fun _ _ _ => rfl⟩
theorem Mid.trans {B0 B : Nat} {a b c : World} (x : Mid B0 B a b) (y : Mid B0 B b c) : Mid B0 B a c :=
  ⟨y.os.trans x.os, y.tape.trans x.tape, y.output.trans x.output, Nat.le_trans x.size y.size, fun k hk h => (y.block k (Nat.lt_of_lt_of_le hk x.size) (h.imp id fun h => h.imp id fun h => h.same (x.block k hk (.inr (.inr h))))).trans (x.block k hk h)⟩
theorem Mid.of {B0 B : Nat} {a b : World} (x : Below a.heap.size a b) : Mid B0 B a b := ⟨x.os, x.tape, x.output, x.size, fun k hk _ => x.block k hk⟩
theorem Mid.then_ {B0 B : Nat} {a b c : World} (x : Mid B0 B a b) (y : Below b.heap.size b c) : Mid B0 B a c := x.trans (.of y)
theorem Mid.below {B0 B : Nat} {a b : World} (x : Mid B0 B a b) (h : B0 ≤ a.heap.size) : Below B0 a b := ⟨x.os, x.tape, x.output, x.size, fun k hk => x.block k (by omega) (.inl hk)⟩
theorem Off.mid {g h l B0 B : Nat} {a b : World} (x : Off g h l a b) (hg : B0 ≤ g ∧ g < B) (hh : B0 ≤ h ∧ h < B) (hl : B0 ≤ l ∧ l < B) (ht : ∀ k, NotL a k → k ≠ g ∧ k ≠ h ∧ k ≠ l) : Mid B0 B a b :=
  ⟨x.os, x.tape, x.output, x.size, fun k hk hb => by
    have := ht k
    rcases hb with hb | hb | hb
    · exact x.block k hk (by omega) (by omega) (by omega)
    · exact x.block k hk (by omega) (by omega) (by omega)
    · obtain ⟨a1, a2, a3⟩ := ht k hb; exact x.block k hk a1 a2 a3⟩

/-- Block g is the program's lists, in this state of the document's; its memory lies from B0 to B; M bounds how many uses there were. -/
def Lx (w : World) (B0 B g K n : Nat) (s : Lst) (M : Nat) : Prop :=
  ∃ h l N t f, (B0 ≤ g ∧ g < B) ∧ (B0 ≤ h ∧ h < B) ∧ (B0 ≤ l ∧ l < B) ∧ Ob w g h l K n N t ∧ Inv K n t s f M
theorem Lx.below {w w' : World} {B0 B g K n : Nat} {s : Lst} {M : Nat} (x : Lx w B0 B g K n s M) (b : Below w.heap.size w w') : Lx w' B0 B g K n s M := by
  obtain ⟨h, l, N, t, f, h1, h2, h3, o, v⟩ := x
  exact ⟨h, l, N, t, f, h1, h2, h3, o.below b, v⟩
theorem Inv.more {K n : Nat} {t : St} {s : Lst} {f : Int → Nat} {M : Nat} (v : Inv K n t s f M) : Inv K n t s f (M + 1) :=
  ⟨v.ok, v.len, v.sn, v.rings, v.sorted, v.top, v.u0, by have := v.uM; omega, v.cnt⟩
theorem Lx.more {w : World} {B0 B g K n : Nat} {s : Lst} {M : Nat} (x : Lx w B0 B g K n s M) : Lx w B0 B g K n s (M + 1) := by
  obtain ⟨h, l, N, t, f, h1, h2, h3, o, v⟩ := x
  exact ⟨h, l, N, t, f, h1, h2, h3, o, v.more⟩

set_option maxHeartbeats 1000000 in
theorem add_lx {w : World} {B0 B g K n : Nat} {s : Lst} {M : Nat} (x : Lx w B0 B g K n s M) (hM : M ≤ 900) (k : Int) :
    Calls Tryz.prog 81 #[.pointer (some ⟨g, 0, none⟩), .int .i64 k] w fun e w' => ∃ v, e = .returned (.tuple #[.int .i64 (addP s k).2.1, v]) ∧ Fault1 w' v (addP s k).2.2 ∧ Lx w' B0 B g K n (addP s k).1 (M + 1) ∧ Mid B0 B w w' := by
  have X := hid2 x
  obtain ⟨h, l, N, t, f, h1, h2, h3, o, v⟩ := x
  have HTG := hid2 o.tags
  have KH := has_ob o k
  have KF := fun W (q : Ob W g h l K n N t) => free_ob q
  by_cases hk : 0 ≤ k ∧ k < K
  · have hd : decide (0 ≤ k ∧ k < (K : Int)) = true := by simpa using hk
    rw [hd] at KH
    obtain ⟨j, rfl⟩ := Int.eq_ofNat_of_zero_le hk.1
    have hj : j < K := by omega
    have ha : ¬ ((j : Int) < 0 ∨ (s.L.length : Int) ≤ (j : Int)) := by rw [v.len]; omega
    have hcK := (v.rings K _ v.free).2.1
    have c6 := o.count (k := K) (by omega)
    obtain ⟨⟨b1, b2, b3⟩, _, _, c3, c4, _⟩ := o.cells
    have hK64 := o.K64
    have hn40 := o.n40
    have hN2 : N ≤ 800 := by have := o.eN; omega
    rw [hcK] at c6
    cases hF : s.F with
    | nil =>
      have e : addP s (j : Int) = (s, -1, 4) := by unfold addP; rw [if_neg ha, hF]
      rw [e]
      rw [hF] at c6
      have c7 : w.cell? ⟨l, K, none⟩ = some (.int .i64 0) := c6
      have HK := hid2 KH
      have HF := hid2 KF
      have HO := hid2 o
      clear KH KF o v e ha hcK c6 hF hd hk
      go_enter Tryz.func81, Tryz.ntmps81
      go_wp2_with fail
      refine (show Calls _ _ _ _ _ from HK.out).mono ?_
      rintro e w1 ⟨rfl, hw⟩
      cases hw
      go_wp2_with fail
      go_quiet ((go_at_call 67; exact Calls.quiet_of_same (HF.out _ (HO.out.below (drew_below _ _ _)))))
      clear c3 c4 c7 b1 b2 b3
      go_wp2_with fail
      refine (new_code1 _ _ _ _).mono ?_
      rintro e w1 ⟨v, rfl, hf, hb⟩
      have HFL := hid2 hf
      have HB := hid2 (Below.trans (drew_below w _ w.heap.size) hb)
      clear hf hb
      go_wp2
      refine bodyPost_ret (v := .tuple #[.int .i64 (-1), v]) (by simp [results, Tryz.results81, go_sem]) rfl ⟨_, rfl, HFL.out, (X.out.below HB.out).more, .of HB.out⟩
    | cons x r =>
      have e : addP s (j : Int) = (⟨setL s j (x :: getL s j), r, x :: s.U, s.n⟩, x, 0) := by unfold addP; rw [if_neg ha, hF]
      rw [e]
      have hlen : (s.F.length : Int) = (r.length : Int) + 1 := by rw [hF]; simp
      rw [hlen] at c6
      have hxF : x ∈ s.F := by rw [hF]; exact List.mem_cons_self ..
      obtain ⟨hp, x0, x1⟩ := v.isfree hxF
      obtain ⟨i, rfl⟩ := Int.eq_ofNat_of_zero_le x0
      have hi : i < n := by omega
      have hR : (s.L ++ [s.F]).length = K + 1 := by simp [v.len]
      obtain ⟨a, b, ea, la, eb, lb⟩ := v.rings.near v.free hxF
      rw [hR] at la lb
      have hcn := v.cnt
      have hN := o.eN
      have hB : t.B ((n : Int) + (K : Int)) = (i : Int) := by
        have := (v.rings K _ v.free).1
        rw [hF] at this
        exact this.1.1
      have KE := fun W (q : Ob W g h l K n N t) => end_ob q (k := K) (by omega)
      obtain ⟨q, hq⟩ : ∃ q, q = n + K := ⟨_, rfl⟩
      have hqN : q < N := by omega
      have c8 := (o.link hqN).2.1
      have hqB : t.B (q : Int) = (i : Int) := by rw [show (q : Int) = (n : Int) + (K : Int) by omega, hB]
      rw [hqB] at c8
      have HQ := hid2 hqB
      rw [← hq] at KE
      have KT := fun W (z : Ob W g h l K n N t) => take_ob z hi (k := K) (by omega) ea (by omega) eb (by omega) hp (by omega) (by omega)
      have r1 := v.rings.take v.free hxF
      have hk' : ((s.L ++ [s.F]).set K (but s.F (i : Int)))[j]? = some (getL s j) := by
        rw [List.getElem?_set, if_neg (by omega), v.list hj, v.get hj]
        exact v.has hj
      obtain ⟨b', eb', lb'⟩ := r1.head hk'
      have hlj := (r1 j _ hk').2.1
      have hgl : (getL s j).length ≤ n := by
        rw [v.get hj]
        exact Nat.le_trans (List.length_filter_le _ _) (by omega)
      have KU := fun W (z : Ob W g h l K n N (takeP t i)) => use_ob z hi (k := j) (by omega) eb' (by simp [v.len] at lb'; omega) (by omega) (by omega) v.u0 (by have := v.uM; show t.uses ≤ 1000; omega)
      have v' := v.add hF hj
      have HK := hid2 KH
      have HF := hid2 KF
      have HE := hid2 KE
      have HT := hid2 KT
      have HU := hid2 KU
      have HO := hid2 o
      have HV := hid2 v'
      have hr : r.length ≤ 700 := by have := congrArg List.length hF; simp at this; omega
      have hnz : ¬ ((r.length : Int) + 1 = 0) := by omega
      generalize r.length = rl at *
      clear KH KF KE KT KU o v v' e ha hcK hF hd hk X hqB hq hlj hk' r1 hgl eb' lb' b' hB hN hR ea eb hp hlen hcn
      go_enter Tryz.func81, Tryz.ntmps81
      go_wp2_with fail
      refine (show Calls _ _ _ _ _ from HK.out).mono ?_
      rintro e w1 ⟨rfl, hw⟩
      cases hw
      go_wp2_with fail
      go_quiet ((go_at_call 67; exact Calls.quiet_of_same (HF.out _ (HO.out.below (drew_below _ _ _)))))
      obtain ⟨w1, hw1⟩ : ∃ w1, w1 = w.drewN nq := ⟨_, rfl⟩
      rw [← hw1]
      have B1 : Hid (Below w.heap.size w w1) := by rw [hw1]; exact drew_below _ _ _
      have HO1 := hid2 (HO.out.below B1.out)
      clear hw1 HO c3 c4 c6 b1 b2 b3 c8
      obtain ⟨⟨b1, b2, b3⟩, _, _, c3, c4, _⟩ := HO1.out.cells
      have c8 := (HO1.out.link hqN).2.1
      rw [HQ.out] at c8
      go_wp2_with fail
      go_quiet (first | (go_at_call 67; exact Calls.quiet_of_same (HF.out _ (HO1.out.below (drew_below _ _ _)))) | (go_at_call 64; exact Calls.quiet_of_same (HE.out _ (HO1.out.below (drew_below _ _ _)))))
      obtain ⟨w2, hw2⟩ : ∃ w2, w2 = w1.drewN nq := ⟨_, rfl⟩
      rw [← hw2]
      have B2 : Hid (Below w1.heap.size w1 w2) := by rw [hw2]; exact drew_below _ _ _
      have HO2 := hid2 (HO1.out.below B2.out)
      clear hw2 HO1 c3 c4 b1 b2 b3 c8 HF HE
      go_wp2_with fail
      refine (show Calls _ _ _ _ _ from HT.out _ HO2.out).mono ?_
      rintro e w3 ⟨rfl, o3, f3⟩
      have O3 := hid2 o3
      have F3 := hid2 f3
      clear o3 f3
      go_wp2_with fail
      refine (show Calls _ _ _ _ _ from HU.out _ O3.out).mono ?_
      rintro e w4 ⟨rfl, o4, f4⟩
      have O4 := hid2 o4
      have F4 := hid2 f4
      clear o4 f4
      go_wp2
      have F5 : Off g h l w w4 := (Off.of (B1.out.trans (B2.out.mono B1.out.size))).trans (F3.out.trans F4.out)
      refine bodyPost_ret (v := .tuple #[.int .i64 (i : Int), .nilIface]) (by simp [results, Tryz.results81, go_sem]) rfl ⟨_, rfl, .inl ⟨rfl, rfl⟩, ⟨h, l, N, _, _, h1, h2, h3, O4.out, HV.out⟩, F5.mid h1 h2 h3 HTG.out⟩
  · have hd : decide (0 ≤ k ∧ k < (K : Int)) = false := by simpa using hk
    rw [hd] at KH
    have e : addP s k = (s, -1, 2) := by unfold addP; rw [if_pos (by rw [v.len]; omega)]
    rw [e]
    have HK := hid2 KH
    clear KH KF o v e hd hk
    go_enter Tryz.func81, Tryz.ntmps81
    go_wp2_with fail
    refine (show Calls _ _ _ _ _ from HK.out).mono ?_
    rintro e w1 ⟨rfl, hw⟩
    cases hw
    go_wp2_with fail
    refine (new_code1 _ _ _ _).mono ?_
    rintro e w1 ⟨v, rfl, hf, hb⟩
    have HFL := hid2 hf
    have HB := hid2 hb
    clear hf hb
    go_wp2
    refine bodyPost_ret (v := .tuple #[.int .i64 (-1), v]) (by simp [results, Tryz.results81, go_sem]) rfl ⟨_, rfl, HFL.out, (X.out.below HB.out).more, .of HB.out⟩

set_option maxHeartbeats 1000000 in
theorem drop_lx {w : World} {B0 B g K n : Nat} {s : Lst} {M : Nat} (x : Lx w B0 B g K n s M) (k : Int) :
    Calls Tryz.prog 84 #[.pointer (some ⟨g, 0, none⟩), .int .i64 k] w fun e w' => ∃ v, e = .returned v ∧ Fault1 w' v (dropP s k).2 ∧ Lx w' B0 B g K n (dropP s k).1 M ∧ Mid B0 B w w' := by
  have X := hid2 x
  obtain ⟨h, l, N, t, f, h1, h2, h3, o, v⟩ := x
  have HTG := hid2 o.tags
  have KR := refuses_ob o k
  rw [v.refQ] at KR
  by_cases hz : atP s k = 0
  · have e : dropP s k = (⟨setL s (whereP s.L k) (but (getL s (whereP s.L k)) k), k :: s.F, but s.U k, s.n⟩, 0) := by unfold dropP; rw [if_neg (by rw [hz]; simp)]
    rw [e]
    rw [hz] at KR
    have hU := v.used hz
    have hw := v.ok.where_ hU
    rw [hw]
    obtain ⟨hp, hfk, x0, x1⟩ := v.where_ hU
    obtain ⟨i, rfl⟩ := Int.eq_ofNat_of_zero_le x0
    have hi : i < n := by omega
    have hl : (s.L ++ [s.F])[f (i : Int)]? = some (getL s (f (i : Int))) := by rw [v.list hfk, v.get hfk]; exact v.has hfk
    have hxl : (i : Int) ∈ getL s (f (i : Int)) := by rw [v.get hfk]; exact List.mem_filter.2 ⟨hU, by simp⟩
    have hR : (s.L ++ [s.F]).length = K + 1 := by simp [v.len]
    obtain ⟨a, b, ea, la, eb, lb⟩ := v.rings.near hl hxl
    rw [hR] at la lb
    have hN := o.eN
    have hcn := v.cnt
    have hn40 := o.n40
    have hlk := (v.rings _ _ hl).2.1
    have hgl : (getL s (f (i : Int))).length ≤ n := by
      rw [v.get hfk]
      exact Nat.le_trans (List.length_filter_le _ _) (by omega)
    have KT := fun W (z : Ob W g h l K n N t) => take_ob z hi (k := f (i : Int)) (by omega) ea (by omega) eb (by omega) hp (by omega) (by omega)
    have r1 := v.rings.take hl hxl
    have hK : ((s.L ++ [s.F]).set (f (i : Int)) (but (getL s (f (i : Int))) i))[K]? = some s.F := by
      rw [List.getElem?_set, if_neg (by omega)]
      exact v.free
    obtain ⟨b', eb', lb'⟩ := r1.head hK
    have hlj := (r1 K _ hK).2.1
    have KP := fun W (z : Ob W g h l K n N (takeP t i)) => put_ob z hi (k := K) (by omega) eb' (by simp [v.len] at lb'; omega) (by omega) (by omega)
    have KF := fun W (z : Ob W g h l K n N (takeP t i)) => free_ob z
    have HV := hid2 (v.drop hU)
    have HK := hid2 KR
    have HT := hid2 KT
    have HP := hid2 KP
    have HF := hid2 KF
    have HO := hid2 o
    generalize f (i : Int) = fi at *
    clear KR KT KP KF o v e hU hw hp hz X hl hxl hR ea eb hN hcn hlk hgl r1 hK eb' lb' hlj b'
    go_enter Tryz.func84, Tryz.ntmps84
    go_wp2_with fail
    refine (show Calls _ _ _ _ _ from HK.out).mono ?_
    rintro e w1 ⟨rfl, hb⟩
    have B1 := hid2 hb
    have HO1 := hid2 (HO.out.below hb)
    clear hb HO
    go_wp2_with fail
    refine (show Calls _ _ _ _ _ from HT.out _ HO1.out).mono ?_
    rintro e w3 ⟨rfl, o3, f3⟩
    have O3 := hid2 o3
    have F3 := hid2 f3
    clear o3 f3
    go_wp2_with fail
    refine (show Calls _ _ _ _ _ from HF.out _ O3.out).mono ?_
    rintro e w4 ⟨rfl, hw⟩
    cases hw
    go_wp2_with fail
    refine (show Calls _ _ _ _ _ from HP.out _ O3.out).mono ?_
    rintro e w4 ⟨rfl, o4, f4⟩
    have O4 := hid2 o4
    have F4 := hid2 f4
    clear o4 f4
    go_wp2
    have F5 : Off g h l w w4 := (Off.of B1.out).trans (F3.out.trans F4.out)
    go_ret
    exact ⟨_, rfl, .inl ⟨rfl, rfl⟩, ⟨h, l, N, _, _, h1, h2, h3, O4.out, HV.out⟩, F5.mid h1 h2 h3 HTG.out⟩
  · have e : dropP s k = (s, atP s k) := by unfold dropP; rw [if_pos hz]
    rw [e]
    have HK := hid2 KR
    generalize atP s k = c at *
    clear KR o v e
    go_enter Tryz.func84, Tryz.ntmps84
    go_wp2_with fail
    refine (show Calls _ _ _ _ _ from HK.out).mono ?_
    rintro e w1 ⟨rfl, hb⟩
    have HB := hid2 hb
    clear hb
    go_wp2_with fail
    refine (new_code1 _ _ _ _).mono ?_
    rintro e w2 ⟨v, rfl, hf, hb⟩
    have HFL := hid2 hf
    have HB2 := hid2 (HB.out.trans (hb.mono HB.out.size))
    clear hf hb
    go_wp2
    go_ret
    exact ⟨_, rfl, HFL.out, X.out.below HB2.out, .of HB2.out⟩

set_option maxHeartbeats 1000000 in
theorem touch_lx {w : World} {B0 B g K n : Nat} {s : Lst} {M : Nat} (x : Lx w B0 B g K n s M) (hM : M ≤ 900) (k : Int) :
    Calls Tryz.prog 63 #[.pointer (some ⟨g, 0, none⟩), .int .i64 k] w fun e w' => ∃ v, e = .returned v ∧ Fault1 w' v (touchP s k).2 ∧ Lx w' B0 B g K n (touchP s k).1 (M + 1) ∧ Mid B0 B w w' := by
  have X := hid2 x
  obtain ⟨h, l, N, t, f, h1, h2, h3, o, v⟩ := x
  have HTG := hid2 o.tags
  have KR := refuses_ob o k
  rw [v.refQ] at KR
  by_cases hz : atP s k = 0
  · have e : touchP s k = (⟨setL s (whereP s.L k) (k :: but (getL s (whereP s.L k)) k), s.F, k :: but s.U k, s.n⟩, 0) := by unfold touchP; rw [if_neg (by rw [hz]; simp)]
    rw [e]
    rw [hz] at KR
    have hU := v.used hz
    have hw := v.ok.where_ hU
    rw [hw]
    obtain ⟨hp, hfk, x0, x1⟩ := v.where_ hU
    obtain ⟨i, rfl⟩ := Int.eq_ofNat_of_zero_le x0
    have hi : i < n := by omega
    have hl : (s.L ++ [s.F])[f (i : Int)]? = some (getL s (f (i : Int))) := by rw [v.list hfk, v.get hfk]; exact v.has hfk
    have hxl : (i : Int) ∈ getL s (f (i : Int)) := by rw [v.get hfk]; exact List.mem_filter.2 ⟨hU, by simp⟩
    have hR : (s.L ++ [s.F]).length = K + 1 := by simp [v.len]
    obtain ⟨a, b, ea, la, eb, lb⟩ := v.rings.near hl hxl
    rw [hR] at la lb
    have hN := o.eN
    have hcn := v.cnt
    have hn40 := o.n40
    have hiN : i < N := by omega
    have hN2 : N ≤ 800 := by have := o.K64; omega
    have hlk := (v.rings _ _ hl).2.1
    have hgl : (getL s (f (i : Int))).length ≤ n := by
      rw [v.get hfk]
      exact Nat.le_trans (List.length_filter_le _ _) (by omega)
    have KT := fun W (z : Ob W g h l K n N t) => take_ob z hi (k := f (i : Int)) (by omega) ea (by omega) eb (by omega) hp (by omega) (by omega)
    have r1 := v.rings.take hl hxl
    have hK : ((s.L ++ [s.F]).set (f (i : Int)) (but (getL s (f (i : Int))) i))[f (i : Int)]? = some (but (getL s (f (i : Int))) i) := by
      rw [List.getElem?_set, if_pos rfl, if_pos (by simp [v.len]; omega)]
    obtain ⟨b', eb', lb'⟩ := r1.head hK
    have hlj := (r1 _ _ hK).2.1
    have hbl := but_length (v.rings _ _ hl).2.2.2.1 hxl
    have KU := fun W (z : Ob W g h l K n N (takeP t i)) => use_ob z hi (k := f (i : Int)) (by omega) eb' (by simp [v.len] at lb'; omega) (by omega) (by omega) v.u0 (by have := v.uM; show t.uses ≤ 1000; omega)
    have HV := hid2 (v.touch hU)
    have HK := hid2 KR
    have HT := hid2 KT
    have HP := hid2 KU
    have HO := hid2 o
    have HPI : Hid ((takeP t (i : Int)).P (i : Int) = (f (i : Int) : Int)) := hp
    generalize f (i : Int) = fi at *
    clear KR KT KU o v e hU hw hp hz X hl hxl hR ea eb hN hcn hlk hgl r1 hK eb' lb' hlj b' hbl
    go_enter Tryz.func63, Tryz.ntmps63
    go_wp2_with fail
    refine (show Calls _ _ _ _ _ from HK.out).mono ?_
    rintro e w1 ⟨rfl, hb⟩
    have B1 := hid2 hb
    have HO1 := hid2 (HO.out.below hb)
    clear hb HO
    go_wp2_with fail
    refine (show Calls _ _ _ _ _ from HT.out _ HO1.out).mono ?_
    rintro e w3 ⟨rfl, o3, f3⟩
    have O3 := hid2 o3
    have F3 := hid2 f3
    obtain ⟨⟨b1, b2, b3⟩, _, _, c3, _⟩ := o3.cells
    obtain ⟨_, _, c5, _⟩ := o3.link hiN
    rw [HPI.out] at c5
    clear o3 f3
    go_wp2_with fail
    refine (show Calls _ _ _ _ _ from HP.out _ O3.out).mono ?_
    rintro e w4 ⟨rfl, o4, f4⟩
    have O4 := hid2 o4
    have F4 := hid2 f4
    clear o4 f4
    go_wp2
    have F5 : Off g h l w w4 := (Off.of B1.out).trans (F3.out.trans F4.out)
    go_ret
    exact ⟨_, rfl, .inl ⟨rfl, rfl⟩, ⟨h, l, N, _, _, h1, h2, h3, O4.out, HV.out⟩, F5.mid h1 h2 h3 HTG.out⟩
  · have e : touchP s k = (s, atP s k) := by unfold touchP; rw [if_pos hz]
    rw [e]
    have HK := hid2 KR
    generalize atP s k = c at *
    clear KR o v e
    go_enter Tryz.func63, Tryz.ntmps63
    go_wp2_with fail
    refine (show Calls _ _ _ _ _ from HK.out).mono ?_
    rintro e w1 ⟨rfl, hb⟩
    have HB := hid2 hb
    clear hb
    go_wp2_with fail
    refine (new_code1 _ _ _ _).mono ?_
    rintro e w2 ⟨v, rfl, hf, hb⟩
    have HFL := hid2 hf
    have HB2 := hid2 (HB.out.trans (hb.mono HB.out.size))
    clear hf hb
    go_wp2
    go_ret
    exact ⟨_, rfl, HFL.out, (X.out.below HB2.out).more, .of HB2.out⟩
end Go.Proofs.YtkgecpplgjfhiaaGreatDoor.Lis
