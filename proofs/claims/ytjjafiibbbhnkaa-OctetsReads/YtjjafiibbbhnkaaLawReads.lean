/-
  The walk of the law OctetsReads: whatever the bytes, and whatever a reader is asked, the call answers true.
-/
import Derived.Test.YtjjafiibbbhnkaaReadsMem
namespace Go.Proofs.Ytjjafiibbbhnkaa
open Go.RowKit

/-- A value is, in w's memory, a slice of what a reader is asked, in block b. -/
def AskAt (w : World) (b : Nat) (v : Value) (qs : List (Int × Int)) : Prop :=
  ∃ p cap, v = .slice p qs.length cap ∧ qs.length ≤ cap ∧ cap ≤ maxLen ∧
    ∀ k d n, qs[k]? = some (d, n) → ∃ off, p = some ⟨b, off, none⟩ ∧ b < w.heap.size ∧ w.cell? ⟨b, off + k * 2, none⟩ = some (.int .i64 d) ∧ w.cell? ⟨b, off + k * 2 + 1, none⟩ = some (.int .i64 n)

set_option maxHeartbeats 8000000 in
set_option maxRecDepth 10000 in
theorem lawReads_any {w : World} {b c : Nat} {v u : Value} {bs : List Int} {qs : List (Int × Int)} (hv : SlAt w b v (U bs)) (hu : AskAt w c u qs) (hby : Byt bs) (hq : ∀ q ∈ qs, q.2 ≤ 9223372036854775807) :
    Calls Try.prog 4 #[v, u] w fun e w' => e = .returned (.bool true) ∧ Below w.heap.size w w' := by
  obtain ⟨p, cap, ev, v5, v6⟩ := hv.form
  obtain ⟨pu, capu, eu, u5, u6, hel⟩ := hu
  rw [U_length] at ev v5
  unfold maxLen at v6 u6
  subst ev eu
  have EL : Hid (∀ k d n, qs[k]? = some (d, n) → ∃ off, pu = some ⟨c, off, none⟩ ∧ c < w.heap.size ∧ w.cell? ⟨c, off + k * 2, none⟩ = some (.int .i64 d) ∧ w.cell? ⟨c, off + k * 2 + 1, none⟩ = some (.int .i64 n)) := hel
  have HQ : Hid (∀ q ∈ qs, q.2 ≤ 9223372036854775807) := hq
  clear hel hq
  by_cases hlb : bs.length ≤ 1000
  · by_cases hlq : qs.length ≤ 50
    · have hlb5 : bs.length ≤ 5000 := by omega
      go_enter Try.func4, Try.ntmps4
      go_wp2_with fail
      refine (read_any hv hlb5).mono ?_
      rintro e w1 ⟨g, rfl, hg, hrd1, hb1⟩
      have hg1 : g < w1.heap.size := by obtain ⟨_, _, k1, _⟩ := hrd1; exact (Array.getElem?_eq_some_iff.1 k1).1
      go_wp2_with fail
      obtain ⟨xb, hxb⟩ : ∃ xb, xb = w1.heap.size := ⟨_, rfl⟩
      have hgx : g < xb := by omega
      have hxw : w.heap.size ≤ xb := by have := hb1.size; omega
      have hx1 : (w1.alloc (.cells #[.slice p bs.length cap, .int .i64 0, .int .i64 0] 40)).heap[xb]? = some (.cells #[.slice p bs.length cap, .int .i64 0, .int .i64 0] 40 (0, 0)) := by rw [hxb]; exact heap_alloc_new _ _
      rw [← hxb]
      have hrd2 : Rd (w1.alloc (.cells #[.slice p bs.length cap, .int .i64 0, .int .i64 0] 40)) g bs 0 0 := hrd1.keeps ((Below.refl _ _).alloc (Nat.le_refl _) _)
      have hB2 : Below w.heap.size w (w1.alloc (.cells #[.slice p bs.length cap, .int .i64 0, .int .i64 0] 40)) := hb1.alloc hb1.size _
      clear hrd1 hg1
      go_loopg [7] qs.length (fun gg i wr => ∃ (k a : Nat) (cc : Int), k ≤ qs.length ∧ gg = qs.length - k ∧ i = .int .i64 k ∧ Rd wr g bs a cc ∧ a ≤ bs.length ∧ wr.heap[xb]? = some (.cells #[.slice p bs.length cap, .int .i64 a, .int .i64 cc] 40 (0, 0)) ∧ Below w.heap.size w wr)
      case atStart => exact ⟨0, 0, 0, Nat.zero_le _, rfl, rfl, hrd2, Nat.zero_le _, hx1, hB2⟩
      case round =>
        clear hx1 hrd2 hB2 hb1 hxb
        obtain ⟨k, a, cc, hk, hgg, rfl, hrd, ha, hxr, hbr⟩ := hrel
        have HG : Hid (gk = qs.length - k) := hgg
        have hsz := hbr.size
        have hxlt : xb < wr.heap.size := (Array.getElem?_eq_some_iff.1 hxr).1
        obtain ⟨n0, n1, n2, _⟩ := one_block hxr
        clear hgg
        by_cases hkl : k < qs.length
        · obtain ⟨d, N, hdn⟩ : ∃ d N, qs[k]? = some (d, N) := ⟨_, _, List.getElem?_eq_getElem hkl⟩
          obtain ⟨off, rfl, hcl, hcd, hcn⟩ := EL.out k d N hdn
          have hN1 : N ≤ 9223372036854775807 := HQ.out (d, N) (List.mem_of_getElem? hdn)
          have e1 := (hbr.cell (p := ⟨c, off + k * 2, none⟩) hcl).trans hcd
          have e2 := (hbr.cell (p := ⟨c, off + k * 2 + 1, none⟩) hcl).trans hcn
          have hki : (k : Int) < (qs.length : Int) := by omega
          have hk0 : (0 : Int) ≤ (k : Int) := by omega
          have hcr : c < wr.heap.size := by omega
          have hcx : c ≠ xb := by omega
          have hcg : c ≠ g := by omega
          clear hdn hcd hcn
          by_cases hN0 : 0 ≤ N
          · by_cases d0 : d = 0
            · subst d0
              obtain ⟨a', cR, nR, hR⟩ : ∃ a' cR nR, rdNum bs a cc N = (nR, a', cR) := ⟨_, _, _, rfl⟩
              have C21 := fun W (hb : Below w.heap.size w W) => rnumber_any (code := cc) N hN0 hN1 (hv.stays hb) hby ha hlb5
              have C22 := fun W (hr : Rd W g bs a cc) => rdnumber_any N hN0 hN1 hr hby hlb5
              rw [hR] at C21 C22
              have K21 : Hid (∀ W, Below w.heap.size w W → Calls Try.prog 21 #[.agg #[.slice p bs.length cap, .int .i64 a, .int .i64 cc], .int .i64 N] W fun e w' => e = .returned (.tuple #[.agg #[.slice p bs.length cap, .int .i64 a', .int .i64 cR], .int .i64 nR]) ∧ Below W.heap.size W w') := C21
              have K22 : Hid (∀ W, Rd W g bs a cc → Calls Try.prog 22 #[.pointer (some ⟨g, 0, none⟩), .int .i64 N] W fun e w' => e = .returned (.int .i64 nR) ∧ Rd w' g bs a' cR ∧ W.grownBy w' (some g)) := C22
              clear C21 C22 hR
              go_upto_region 14 with fail
              go_cut [8, 9] (fun y z wx => ∃ yb, y = .pointer (some ⟨yb, 0, none⟩) ∧ z = .int .i64 nR ∧ wr.heap.size ≤ yb ∧ wx.heap[yb]? = some (.cells #[.slice p bs.length cap, .int .i64 a', .int .i64 cR] 40 (0, 0)) ∧ Below wr.heap.size wr wx)
              case first =>
                clear hrd hxr K22
                go_region_with (go_at_call 21; refine (show Calls _ _ _ _ _ from K21.out _ ?_).mono ?_; exact hbr.trans (by go_grown); rintro e w3 ⟨rfl, hb3⟩; obtain ⟨hc3, hf3⟩ := bcell hb3)
                all_goals (go_wp2_with fail; go_meet)
                all_goals first
                  | exact y_after (Below.trans (Below.drew (Below.refl _ _)) hb3) _ _ _ _
                  | exact y_before ((hb3.block wr.heap.size (by simp)).trans (heap_alloc_new wr _)) (Below.trans (Below.drew (Below.alloc (Below.refl _ _) (Nat.le_refl _) _)) (hb3.mono (by simp))) _ _ _ _
              case rest =>
                obtain ⟨yb, rfl, rfl, hyb, hyc, hbx⟩ := hcut
                obtain ⟨q0, q1, q2, _⟩ := one_block hyc
                have hxc : wc.heap[xb]? = some (.cells #[.slice p bs.length cap, .int .i64 a, .int .i64 cc] 40 (0, 0)) := by rw [hbx.block xb hxlt]; exact hxr
                obtain ⟨x0, x1, x2, f0, f1, f2⟩ := one_block3 hxc
                have hrc := hrd.keeps hbx
                have e2c := (hbx.cell (p := ⟨c, off + k * 2 + 1, none⟩) hcr).trans e2
                have hbc := hbr.trans (hbx.mono hsz)
                clear e1 e2 n0 n1 n2 hrd hxr K21
                go_upto_region 16 with fail
                obtain ⟨wz, hwz⟩ : ∃ wz, wz = (((wc.setCell ⟨xb, 0, none⟩ (.slice p bs.length cap)).setCell ⟨xb, 1, none⟩ (.int .i64 a')).setCell ⟨xb, 2, none⟩ (.int .i64 cR)) := ⟨_, rfl⟩
                rw [← hwz]
                have hgz : wc.grownBy wz (some xb) := by rw [hwz]; exact set3_grownBy _ _ _ _ _
                have hxz : wz.heap[xb]? = some (.cells #[.slice p bs.length cap, .int .i64 a', .int .i64 cR] 40 (0, 0)) := by rw [hwz]; exact set3_heap hxc _ _ _
                have hrz := hrc.beside hxc hgz (by omega)
                have e2z := hgz.cell e2c (by simpa using hcx)
                have hbz : Below w.heap.size w wz := hbc.grown hgz hbc.size (by simp; omega)
                clear hwz x0 x1 x2 f0 f1 f2 e2c hxc hrc q0 q1 q2
                go_wp2_with fail
                refine (show Calls _ _ _ _ _ from K22.out _ hrz).mono ?_
                rintro e w5 ⟨rfl, hr5, hg5⟩
                have ha5 : a' ≤ bs.length := by obtain ⟨_, _, _, _, _, h⟩ := hr5; exact h
                have hx5 : w5.heap[xb]? = some (.cells #[.slice p bs.length cap, .int .i64 a', .int .i64 cR] 40 (0, 0)) := by rw [hg5.block xb (Array.getElem?_eq_some_iff.1 hxz).1 (by simp; omega)]; exact hxz
                have hb5 : Below w.heap.size w w5 := hbz.grown hg5 hbz.size (by simp; omega)
                clear hrz hxz e2z hbz
                obtain ⟨m0, m1, m2, _⟩ := one_block hx5
                have hleft : ∀ n, Calls Try.prog 30 #[.pointer (some ⟨g, 0, none⟩)] (w5.drewN n) fun e w' => e = .returned (.int .i64 ((bs.length : Int) - a')) ∧ ∃ m, w' = (w5.drewN n).drewN m := fun n => left_any (hr5.drewN n)
                have hleft : Hid (∀ n, Calls Try.prog 30 #[.pointer (some ⟨g, 0, none⟩)] (w5.drewN n) fun e w' => e = .returned (.int .i64 ((bs.length : Int) - a')) ∧ ∃ m, w' = (w5.drewN n).drewN m) := hleft
                go_wp2_with fail
                go_quiet (first
                  | (go_at_call 28; exact Calls.quiet_of_same (code_any (hr5.drewN _)))
                  | (go_at_call 29; exact Calls.quiet_of_same (at_any (hr5.drewN _)))
                  | (go_at_call 30; exact Calls.quiet_of (hleft.out _)))
                go_wp2
                go_roundg (qs.length - (k + 1))
                case measure => rw [HG.out]; omega
                case rel => exact ⟨k + 1, a', cR, by omega, rfl, by go_num, hr5.drewN _, ha5, hx5, hb5.trans (below_drewN _ _ _)⟩
            by_cases d1 : d = 1
            · subst d1
              obtain ⟨a', cR, tR, hR⟩ : ∃ a' cR tR, rdTxt bs a cc N = (tR, a', cR) := ⟨_, _, _, rfl⟩
              have C23 := fun W (hb : Below w.heap.size w W) => rtext_any (code := cc) N hN0 hN1 (hv.stays hb) hby ha hlb5
              have C24 := fun W (hr : Rd W g bs a cc) => rdbytes_any N hN0 hN1 hr hby hlb5
              rw [hR] at C23 C24
              have K23 : Hid (∀ W, Below w.heap.size w W → Calls Try.prog 23 #[.agg #[.slice p bs.length cap, .int .i64 a, .int .i64 cc], .int .i64 N] W fun e w' => ∃ sv tb, e = .returned (.tuple #[.agg #[.slice p bs.length cap, .int .i64 a', .int .i64 cR], sv]) ∧ SlAt w' tb sv (U tR) ∧ W.heap.size ≤ tb ∧ Below W.heap.size W w') := C23
              have K24 : Hid (∀ W, Rd W g bs a cc → Calls Try.prog 24 #[.pointer (some ⟨g, 0, none⟩), .int .i64 N] W fun e w' => ∃ sv tb, e = .returned sv ∧ SlAt w' tb sv (U tR) ∧ tb ≠ g ∧ Rd w' g bs a' cR ∧ W.grownBy w' (some g)) := C24
              have hbt : Byt tR := by have := rdTxt_byt bs a cc N hby; rwa [hR] at this
              clear C23 C24 hR
              go_upto_region 19 with fail
              go_cut [10, 11] (fun y z wx => ∃ yb tb, y = .pointer (some ⟨yb, 0, none⟩) ∧ SlAt wx tb z (U tR) ∧ wr.heap.size ≤ tb ∧ wr.heap.size ≤ yb ∧ wx.heap[yb]? = some (.cells #[.slice p bs.length cap, .int .i64 a', .int .i64 cR] 40 (0, 0)) ∧ Below wr.heap.size wr wx)
              case first =>
                clear hrd hxr K24
                go_region_with (go_at_call 23; refine (show Calls _ _ _ _ _ from K23.out _ ?_).mono ?_; exact hbr.trans (by go_grown); rintro e w3 ⟨sv3, tb3, rfl, hs3, ht3, hb3⟩; obtain ⟨hc3, hf3⟩ := bcell hb3)
                all_goals (go_wp2_with fail; go_meet)
                all_goals first
                  | exact t_after (wr := wr) (Below.trans (Below.drew (Below.refl _ _)) hb3) hs3 ht3 _ _ _
                  | exact t_before ((hb3.block wr.heap.size (by simp)).trans (heap_alloc_new wr _)) (Below.trans (Below.drew (Below.alloc (Below.refl _ _) (Nat.le_refl _) _)) (hb3.mono (by simp))) hs3 (by simp at ht3; omega) _ _ _
              case rest =>
                obtain ⟨yb, tb, rfl, hst, htb, hyb, hyc, hbx⟩ := hcut
                obtain ⟨q0, q1, q2, _⟩ := one_block hyc
                have hxc : wc.heap[xb]? = some (.cells #[.slice p bs.length cap, .int .i64 a, .int .i64 cc] 40 (0, 0)) := by rw [hbx.block xb hxlt]; exact hxr
                obtain ⟨x0, x1, x2, f0, f1, f2⟩ := one_block3 hxc
                have hrc := hrd.keeps hbx
                have e2c := (hbx.cell (p := ⟨c, off + k * 2 + 1, none⟩) hcr).trans e2
                have hbc := hbr.trans (hbx.mono hsz)
                clear e1 e2 n0 n1 n2 hrd hxr K23
                go_upto_region 21 with fail
                obtain ⟨wz, hwz⟩ : ∃ wz, wz = (((wc.setCell ⟨xb, 0, none⟩ (.slice p bs.length cap)).setCell ⟨xb, 1, none⟩ (.int .i64 a')).setCell ⟨xb, 2, none⟩ (.int .i64 cR)) := ⟨_, rfl⟩
                rw [← hwz]
                have hgz : wc.grownBy wz (some xb) := by rw [hwz]; exact set3_grownBy _ _ _ _ _
                have hxz : wz.heap[xb]? = some (.cells #[.slice p bs.length cap, .int .i64 a', .int .i64 cR] 40 (0, 0)) := by rw [hwz]; exact set3_heap hxc _ _ _
                have hrz := hrc.beside hxc hgz (by omega)
                have hstz := hst.grown hgz (by omega)
                have e2z := hgz.cell e2c (by simpa using hcx)
                have hbz : Below w.heap.size w wz := hbc.grown hgz hbc.size (by simp; omega)
                clear hwz x0 x1 x2 f0 f1 f2 e2c hxc hrc q0 q1 q2
                go_wp2_with fail
                refine (show Calls _ _ _ _ _ from K24.out _ hrz).mono ?_
                rintro e w4 ⟨s4, t4, rfl, hs4, _, hr4, hg4⟩
                have hst4 := hstz.grown hg4 (by omega)
                go_wp2_with fail
                refine (same_eq hs4 hst4 hbt).mono ?_
                rintro e w5 ⟨rfl, hb45⟩
                have hr5 := hr4.keeps hb45
                have hg5 : wz.grownBy w5 (some g) := grownBy_trans hg4 (below_grownBy hb45 _)
                have ha5 : a' ≤ bs.length := by obtain ⟨_, _, _, _, _, h⟩ := hr5; exact h
                have hx5 : w5.heap[xb]? = some (.cells #[.slice p bs.length cap, .int .i64 a', .int .i64 cR] 40 (0, 0)) := by rw [hg5.block xb (Array.getElem?_eq_some_iff.1 hxz).1 (by simp; omega)]; exact hxz
                have hb5 : Below w.heap.size w w5 := hbz.grown hg5 hbz.size (by simp; omega)
                clear hrz hxz e2z hbz
                obtain ⟨m0, m1, m2, _⟩ := one_block hx5
                have hleft : ∀ n, Calls Try.prog 30 #[.pointer (some ⟨g, 0, none⟩)] (w5.drewN n) fun e w' => e = .returned (.int .i64 ((bs.length : Int) - a')) ∧ ∃ m, w' = (w5.drewN n).drewN m := fun n => left_any (hr5.drewN n)
                have hleft : Hid (∀ n, Calls Try.prog 30 #[.pointer (some ⟨g, 0, none⟩)] (w5.drewN n) fun e w' => e = .returned (.int .i64 ((bs.length : Int) - a')) ∧ ∃ m, w' = (w5.drewN n).drewN m) := hleft
                go_wp2_with fail
                go_quiet (first
                  | (go_at_call 28; exact Calls.quiet_of_same (code_any (hr5.drewN _)))
                  | (go_at_call 29; exact Calls.quiet_of_same (at_any (hr5.drewN _)))
                  | (go_at_call 30; exact Calls.quiet_of (hleft.out _)))
                go_wp2
                go_roundg (qs.length - (k + 1))
                case measure => rw [HG.out]; omega
                case rel => exact ⟨k + 1, a', cR, by omega, rfl, by go_num, hr5.drewN _, ha5, hx5, hb5.trans (below_drewN _ _ _)⟩
            by_cases d2 : d = 2
            · subst d2
              obtain ⟨a', cR, nR, hR⟩ : ∃ a' cR nR, rdWord bs a cc = (nR, a', cR) := ⟨_, _, _, rfl⟩
              have C25 := reight_any (code := cc) (hv.stays hbr) hby ha hlb5
              have C26 := fun W (hr : Rd W g bs a cc) => rdword_any hr hby hlb5
              rw [hR] at C25 C26
              have K25 : Hid (Calls Try.prog 25 #[.agg #[.slice p bs.length cap, .int .i64 a, .int .i64 cc]] wr fun e w' => e = .returned (.tuple #[.agg #[.slice p bs.length cap, .int .i64 a', .int .i64 cR], .int .u64 nR]) ∧ Below wr.heap.size wr w') := C25
              have K26 : Hid (∀ W, Rd W g bs a cc → Calls Try.prog 26 #[.pointer (some ⟨g, 0, none⟩)] W fun e w' => e = .returned (.int .u64 nR) ∧ Rd w' g bs a' cR ∧ W.grownBy w' (some g)) := C26
              clear C25 C26 hR
              go_wp2_with (go_at_call 25; refine (show Calls _ _ _ _ _ from K25).mono ?_; rintro e w3 ⟨rfl, hb3⟩; have hx3 : w3.heap[xb]? = some (.cells #[.slice p bs.length cap, .int .i64 a, .int .i64 cc] 40 (0, 0)) := (by rw [hb3.block xb hxlt]; exact hxr); obtain ⟨x0, x1, x2, f0, f1, f2⟩ := one_block3 hx3; have hxlt3 : xb < w3.heap.size := (by have := hb3.size; omega))
              refine (show Calls _ _ _ _ _ from K26.out _ ?_).mono ?_
              · exact ((hrd.keeps hb3).beside hx3 (set3_grownBy _ _ _ _ _) (by omega)).keeps ((Below.refl _ _).alloc (Nat.le_refl _) _)
              rintro e w5 ⟨rfl, hr5, hg5⟩
              have ha5 : a' ≤ bs.length := by obtain ⟨_, _, _, _, _, h⟩ := hr5; exact h
              have hx5 : w5.heap[xb]? = some (.cells #[.slice p bs.length cap, .int .i64 a', .int .i64 cR] 40 (0, 0)) := (hg5.block xb (by simp; omega) (by simp; omega)).trans ((Below.heap_alloc _ _ _ (by simp; omega)).trans (set3_heap hx3 _ _ _))
              have hbs := below_store3 (blk := xb) (hbr.trans (hb3.mono hsz)) (by omega) (.slice p bs.length cap) (.int .i64 a') (.int .i64 cR)
              have hb5 : Below w.heap.size w w5 := (hbs.alloc hbs.size _).grown hg5 (by have := hbs.size; simp at this ⊢; omega) (by simp; omega)
              clear hbs x0 x1 x2 f0 f1 f2 hx3 e1 e2 n0 n1 n2 hrd hxr
              obtain ⟨m0, m1, m2, _⟩ := one_block hx5
              have hleft : ∀ n, Calls Try.prog 30 #[.pointer (some ⟨g, 0, none⟩)] (w5.drewN n) fun e w' => e = .returned (.int .i64 ((bs.length : Int) - a')) ∧ ∃ m, w' = (w5.drewN n).drewN m := fun n => left_any (hr5.drewN n)
              have hleft : Hid (∀ n, Calls Try.prog 30 #[.pointer (some ⟨g, 0, none⟩)] (w5.drewN n) fun e w' => e = .returned (.int .i64 ((bs.length : Int) - a')) ∧ ∃ m, w' = (w5.drewN n).drewN m) := hleft
              go_wp2_with fail
              go_quiet (first
                | (go_at_call 28; exact Calls.quiet_of_same (code_any (hr5.drewN _)))
                | (go_at_call 29; exact Calls.quiet_of_same (at_any (hr5.drewN _)))
                | (go_at_call 30; exact Calls.quiet_of (hleft.out _)))
              go_wp2
              go_roundg (qs.length - (k + 1))
              case measure => rw [HG.out]; omega
              case rel => exact ⟨k + 1, a', cR, by omega, rfl, by go_num, hr5.drewN _, ha5, hx5, hb5.trans (below_drewN _ _ _)⟩
            by_cases d3 : d = 3
            · subst d3
              obtain ⟨x0, x1, x2, f0, f1, f2⟩ := one_block3 hxr
              by_cases hcc : cc = 0
              · subst hcc
                by_cases h7 : N % 7 = 0
                · go_wp2_with fail
                  refine (fail_zero (bs := bs) (a := a) 12 ?_).mono ?_
                  · exact hrd.beside hxr (setCell_grownBy _ _ _ _) (by omega)
                  rintro e w5 ⟨rfl, hr5, hg5⟩
                  have hx5 : w5.heap[xb]? = some (.cells #[.slice p bs.length cap, .int .i64 a, .int .i64 12] 40 (0, 0)) := by
                    rw [hg5.block xb (by simp; omega) (by simp; omega), heap_setCell_same wr xb 2 _ 40 _ hxr]; rfl
                  have hb5 : Below w.heap.size w w5 := (hbr.setCell (p := ⟨xb, 2, none⟩) (by simp; omega) _).grown hg5 (by simp; omega) (by simp; omega)
                  clear x0 x1 x2 f0 f1 f2 e1 e2 n0 n1 n2 hrd hxr
                  obtain ⟨m0, m1, m2, _⟩ := one_block hx5
                  have hleft : ∀ n, Calls Try.prog 30 #[.pointer (some ⟨g, 0, none⟩)] (w5.drewN n) fun e w' => e = .returned (.int .i64 ((bs.length : Int) - a)) ∧ ∃ m, w' = (w5.drewN n).drewN m := fun n => left_any (hr5.drewN n)
                  have hleft : Hid (∀ n, Calls Try.prog 30 #[.pointer (some ⟨g, 0, none⟩)] (w5.drewN n) fun e w' => e = .returned (.int .i64 ((bs.length : Int) - a)) ∧ ∃ m, w' = (w5.drewN n).drewN m) := hleft
                  go_wp2_with fail
                  go_quiet (first
                    | (go_at_call 28; exact Calls.quiet_of_same (code_any (hr5.drewN _)))
                    | (go_at_call 29; exact Calls.quiet_of_same (at_any (hr5.drewN _)))
                    | (go_at_call 30; exact Calls.quiet_of (hleft.out _)))
                  go_wp2
                  go_roundg (qs.length - (k + 1))
                  case measure => rw [HG.out]; omega
                  case rel => exact ⟨k + 1, a, 12, by omega, rfl, by go_num, hr5.drewN _, ha, hx5, hb5.trans (below_drewN _ _ _)⟩
                · clear x0 x1 x2 f0 f1 f2
                  obtain ⟨m0, m1, m2, _⟩ := one_block hxr
                  have hleft : ∀ n, Calls Try.prog 30 #[.pointer (some ⟨g, 0, none⟩)] (wr.drewN n) fun e w' => e = .returned (.int .i64 ((bs.length : Int) - a)) ∧ ∃ m, w' = (wr.drewN n).drewN m := fun n => left_any (hrd.drewN n)
                  have hleft : Hid (∀ n, Calls Try.prog 30 #[.pointer (some ⟨g, 0, none⟩)] (wr.drewN n) fun e w' => e = .returned (.int .i64 ((bs.length : Int) - a)) ∧ ∃ m, w' = (wr.drewN n).drewN m) := hleft
                  go_wp2_with fail
                  go_quiet (first
                    | (go_at_call 28; exact Calls.quiet_of_same (code_any (hrd.drewN _)))
                    | (go_at_call 29; exact Calls.quiet_of_same (at_any (hrd.drewN _)))
                    | (go_at_call 30; exact Calls.quiet_of (hleft.out _)))
                  go_wp2
                  go_roundg (qs.length - (k + 1))
                  case measure => rw [HG.out]; omega
                  case rel => exact ⟨k + 1, a, 0, by omega, rfl, by go_num, hrd.drewN _, ha, hxr, hbr.trans (below_drewN _ _ _)⟩
              · clear x0 x1 x2 f0 f1 f2
                obtain ⟨m0, m1, m2, _⟩ := one_block hxr
                have hleft : ∀ n, Calls Try.prog 30 #[.pointer (some ⟨g, 0, none⟩)] (wr.drewN n) fun e w' => e = .returned (.int .i64 ((bs.length : Int) - a)) ∧ ∃ m, w' = (wr.drewN n).drewN m := fun n => left_any (hrd.drewN n)
                have hleft : Hid (∀ n, Calls Try.prog 30 #[.pointer (some ⟨g, 0, none⟩)] (wr.drewN n) fun e w' => e = .returned (.int .i64 ((bs.length : Int) - a)) ∧ ∃ m, w' = (wr.drewN n).drewN m) := hleft
                go_wp2_with fail
                go_quiet (first
                  | (go_at_call 28; exact Calls.quiet_of_same (code_any (hrd.drewN _)))
                  | (go_at_call 29; exact Calls.quiet_of_same (at_any (hrd.drewN _)))
                  | (go_at_call 30; exact Calls.quiet_of (hleft.out _)))
                go_wp2
                go_roundg (qs.length - (k + 1))
                case measure => rw [HG.out]; omega
                case rel => exact ⟨k + 1, a, cc, by omega, rfl, by go_num, hrd.drewN _, ha, hxr, hbr.trans (below_drewN _ _ _)⟩
            obtain ⟨m0, m1, m2, _⟩ := one_block hxr
            have hleft : ∀ n, Calls Try.prog 30 #[.pointer (some ⟨g, 0, none⟩)] (wr.drewN n) fun e w' => e = .returned (.int .i64 ((bs.length : Int) - a)) ∧ ∃ m, w' = (wr.drewN n).drewN m := fun n => left_any (hrd.drewN n)
            have hleft : Hid (∀ n, Calls Try.prog 30 #[.pointer (some ⟨g, 0, none⟩)] (wr.drewN n) fun e w' => e = .returned (.int .i64 ((bs.length : Int) - a)) ∧ ∃ m, w' = (wr.drewN n).drewN m) := hleft
            go_wp2_with fail
            go_quiet (first
              | (go_at_call 28; exact Calls.quiet_of_same (code_any (hrd.drewN _)))
              | (go_at_call 29; exact Calls.quiet_of_same (at_any (hrd.drewN _)))
              | (go_at_call 30; exact Calls.quiet_of (hleft.out _)))
            go_wp2
            go_roundg (qs.length - (k + 1))
            case measure => rw [HG.out]; omega
            case rel => exact ⟨k + 1, a, cc, by omega, rfl, by go_num, hrd.drewN _, ha, hxr, hbr.trans (below_drewN _ _ _)⟩
          · go_wp2_with (go_at_call 8; refine (works_any _).mono ?_; rintro e w4 ⟨rfl, hb4⟩)
            go_ret
            exact ⟨rfl, hbr.trans (hb4.mono hsz)⟩
        · have hrdd : Rd wr.drew g bs a cc := hrd.keeps ((Below.refl _ _).drew)
          go_upto_region 34 with fail
          refine wp_region_any (by kernel_rfl) ?_
          change wpAny _ _ _ _ _ _ _ (World.drew _)
          refine wpAny_take (i := 0) (v := .pointer (some ⟨g, 0, none⟩)) rfl (by kernel_rfl) (by kernel_rfl) (by kernel_rfl) (fun _ _ _ h => h) (Or.inl ⟨by kernel_rfl, ?_⟩) ?_
          · intro w; go_simp
          change wpAny _ _ _ _ _ _ (Act.put _ (some 143) _) _
          simp only [Act.put, List.setIfInBounds_toArray, List.set_cons_succ, List.set_cons_zero]
          refine wpAny_ready (rs := [1, 2]) (by kernel_rfl) (by simp) ?_
          refine AllReady.cons rfl (fun K hK => ?_) (AllReady.cons rfl (fun K hK => ?_) AllReady.nil)
          · go_simp
            go_wp2_with (go_at_call 31; refine (end_any hrdd).mono ?_; rintro e w3 ⟨rfl, n3, rfl⟩)
            refine wpAny_ready (rs := [2]) (by kernel_rfl) (by simp) ?_
            refine AllReady.cons rfl (fun K hK => ?_) AllReady.nil
            go_simp
            go_wp2_with (fail)
            refine wpAny_ready (rs := [3]) (by kernel_rfl) (by simp) ?_
            refine AllReady.cons rfl (fun K hK => ?_) AllReady.nil
            go_simp
            go_wp2_with (go_at_call 32; refine (rend_any _ p cap a bs cc ha hlb5).mono ?_; rintro e w4 ⟨rfl, hb4⟩)
            refine wpAny_take (i := 4) (v := .bool true) rfl (by kernel_rfl) (by kernel_rfl) (by kernel_rfl) (fun _ _ _ h => h) (Or.inl ⟨by kernel_rfl, ?_⟩) ?_
            · intro w; go_simp
            change wpAny _ _ _ _ _ _ (Act.put _ (some 147) _) _
            simp only [Act.put, List.setIfInBounds_toArray, List.set_cons_succ, List.set_cons_zero]
            refine wpAny_take (i := 5) (v := .bool true) rfl (by kernel_rfl) (by kernel_rfl) (by kernel_rfl) (fun _ _ _ h => h) (Or.inl ⟨by kernel_rfl, ?_⟩) ?_
            · intro w; go_simp
            change wpAny _ _ _ _ _ _ (Act.put _ (some 148) _) _
            simp only [Act.put, List.setIfInBounds_toArray, List.set_cons_succ, List.set_cons_zero]
            refine wpAny_ready (rs := [6]) (by kernel_rfl) (by simp) ?_
            refine AllReady.cons rfl (fun K hK => ?_) AllReady.nil
            go_simp
            go_wp2_with (go_at_call 8; refine (works_any _).mono ?_; rintro e w5 ⟨rfl, hb5⟩)
            refine wpAny_take (i := 7) (v := .bool true) rfl (by kernel_rfl) (by kernel_rfl) (by kernel_rfl) (fun _ _ _ h => h) (Or.inl ⟨by kernel_rfl, ?_⟩) ?_
            · intro w; go_simp
            change wpAny _ _ _ _ _ _ (Act.put _ (some 150) _) _
            simp only [Act.put, List.setIfInBounds_toArray, List.set_cons_succ, List.set_cons_zero]
            refine wpAny_take (i := 8) (v := .bool true) rfl (by kernel_rfl) (by kernel_rfl) (by kernel_rfl) (fun _ _ _ h => h) (Or.inl ⟨by kernel_rfl, ?_⟩) ?_
            · intro w; go_simp
            change wpAny _ _ _ _ _ _ (Act.put _ (some 4) _) _
            simp only [Act.put, List.setIfInBounds_toArray, List.set_cons_succ, List.set_cons_zero]
            refine wpAny_done (by kernel_rfl) ?_ _
            go_wp2
            go_ret
            have hB4 := (hbr.trans (below_drewN wr (1 + n3) w.heap.size)).trans (hb4.mono hsz)
            exact ⟨rfl, hB4.trans (hb5.mono hB4.size)⟩
          · go_simp
            go_wp2_with (fail)
            refine wpAny_ready (rs := [1]) (by kernel_rfl) (by simp) ?_
            refine AllReady.cons rfl (fun K hK => ?_) AllReady.nil
            go_simp
            go_wp2_with (go_at_call 31; refine (end_any hrdd).mono ?_; rintro e w3 ⟨rfl, n3, rfl⟩)
            refine wpAny_ready (rs := [3]) (by kernel_rfl) (by simp) ?_
            refine AllReady.cons rfl (fun K hK => ?_) AllReady.nil
            go_simp
            go_wp2_with (go_at_call 32; refine (rend_any _ p cap a bs cc ha hlb5).mono ?_; rintro e w4 ⟨rfl, hb4⟩)
            refine wpAny_take (i := 4) (v := .bool true) rfl (by kernel_rfl) (by kernel_rfl) (by kernel_rfl) (fun _ _ _ h => h) (Or.inl ⟨by kernel_rfl, ?_⟩) ?_
            · intro w; go_simp
            change wpAny _ _ _ _ _ _ (Act.put _ (some 147) _) _
            simp only [Act.put, List.setIfInBounds_toArray, List.set_cons_succ, List.set_cons_zero]
            refine wpAny_take (i := 5) (v := .bool true) rfl (by kernel_rfl) (by kernel_rfl) (by kernel_rfl) (fun _ _ _ h => h) (Or.inl ⟨by kernel_rfl, ?_⟩) ?_
            · intro w; go_simp
            change wpAny _ _ _ _ _ _ (Act.put _ (some 148) _) _
            simp only [Act.put, List.setIfInBounds_toArray, List.set_cons_succ, List.set_cons_zero]
            refine wpAny_ready (rs := [6]) (by kernel_rfl) (by simp) ?_
            refine AllReady.cons rfl (fun K hK => ?_) AllReady.nil
            go_simp
            go_wp2_with (go_at_call 8; refine (works_any _).mono ?_; rintro e w5 ⟨rfl, hb5⟩)
            refine wpAny_take (i := 7) (v := .bool true) rfl (by kernel_rfl) (by kernel_rfl) (by kernel_rfl) (fun _ _ _ h => h) (Or.inl ⟨by kernel_rfl, ?_⟩) ?_
            · intro w; go_simp
            change wpAny _ _ _ _ _ _ (Act.put _ (some 150) _) _
            simp only [Act.put, List.setIfInBounds_toArray, List.set_cons_succ, List.set_cons_zero]
            refine wpAny_take (i := 8) (v := .bool true) rfl (by kernel_rfl) (by kernel_rfl) (by kernel_rfl) (fun _ _ _ h => h) (Or.inl ⟨by kernel_rfl, ?_⟩) ?_
            · intro w; go_simp
            change wpAny _ _ _ _ _ _ (Act.put _ (some 4) _) _
            simp only [Act.put, List.setIfInBounds_toArray, List.set_cons_succ, List.set_cons_zero]
            refine wpAny_done (by kernel_rfl) ?_ _
            go_wp2
            go_ret
            have hB4 := (hbr.trans (below_drewN wr (1 + n3) w.heap.size)).trans (hb4.mono hsz)
            exact ⟨rfl, hB4.trans (hb5.mono hB4.size)⟩
    · go_enter Try.func4, Try.ntmps4
      go_wp2_with (go_at_call 8; refine (works_any _).mono ?_; rintro e w1 ⟨rfl, hb1⟩)
      go_ret
      exact ⟨rfl, hb1⟩
  · go_enter Try.func4, Try.ntmps4
    go_wp2_with (go_at_call 8; refine (works_any _).mono ?_; rintro e w1 ⟨rfl, hb1⟩)
    go_ret
    exact ⟨rfl, hb1⟩
end Go.Proofs.Ytjjafiibbbhnkaa
