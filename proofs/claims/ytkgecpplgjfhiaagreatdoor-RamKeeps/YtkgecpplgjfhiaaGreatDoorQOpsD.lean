/-
  The tier's calls: Peek, Drop, Get.
-/
import Derived.Test.YtkgecpplgjfhiaaGreatDoorQAdd
namespace Go.Proofs.YtkgecpplgjfhiaaGreatDoor
open Go.RowKit
open Ite (Ent zeroE checkE sizeE)
open Lis (Lst but Tag)

theorem Tier.below {w w' : World} {B g : Nat} {lim : Int} {L : List Ent} {M : Nat} (h : Tier w B g lim L M) (b : Below w.heap.size w w') : Tier w' B g lim L M := by
  obtain ⟨gb, gl, B1, B2, gc, v, n, s, bl, T, th, X, H, C, h1, h2, h3, h4⟩ := h
  exact ⟨gb, gl, B1, B2, gc, v, n, s, bl, T, th, X, H, C, h1.below b, h2, h3, h4⟩
theorem Tier.more {w : World} {B g : Nat} {lim : Int} {L : List Ent} {M : Nat} (h : Tier w B g lim L M) : Tier w B g lim L (M + 1) := by
  obtain ⟨gb, gl, B1, B2, gc, v, n, s, bl, T, th, X, H, C, ⟨a, b, c, d, e, f, g, i⟩, h2, h3, h4⟩ := h
  exact ⟨gb, gl, B1, B2, gc, v, n, s, bl, T, th, X, H, C, ⟨a, b, c, d.more, e, f, g, i⟩, h2, h3, h4⟩
theorem Tier.boxed {w w' : World} {B g : Nat} {lim : Int} {L : List Ent} {M k : Nat} {Ty : TypeId} (h : Tier w B g lim L M) (m : w.grownBy w' (some k)) (hk : B ≤ k) (ht : Tag w k Ty) (hT : (Ty ≠ 81 ∧ Ty ≠ 112 ∧ Ty ≠ 115 ∧ Ty ≠ 117 ∧ Ty ≠ 3 ∧ Ty ≠ 103) ∧ Ty ≠ 5) : Tier w' B g lim L M := by
  obtain ⟨gb, gl, B1, B2, gc, v, n, s, bl, T, th, X, H, C, h1, h2, h3, h4⟩ := h
  exact ⟨gb, gl, B1, B2, gc, v, n, s, bl, T, th, X, H, C, h1.boxed m hk ht hT, h2, h3, h4⟩
theorem Tier.fine {w : World} {B g : Nat} {lim : Int} {L : List Ent} {M : Nat} (h : Tier w B g lim L M) : (∀ x ∈ L, checkE x = 0) ∧ (L.map (·.key)).Nodup ∧ usedL L ≤ lim ∧ 1 ≤ lim ∧ lim ≤ 20000 ∧ L.length ≤ 640 ∧ B < w.heap.size := by
  obtain ⟨gb, gl, B1, B2, gc, v, n, s, bl, T, th, X, H, C, h1, h2, rfl, h4⟩ := h
  refine ⟨fun x hx => ?_, ?_, ?_, h1.lim1.1, h1.lim1.2, ?_, Nat.lt_of_le_of_lt h1.lo.1 (lt_of_block h1.bg)⟩
  · obtain ⟨y, hy, rfl⟩ := List.mem_map.1 hx
    exact h2.fine y hy
  · rw [List.map_map]; exact h2.keys
  · rw [← h2.usedL]; exact h2.low
  · have := h1.lx.pl.1.cnt
    have := h1.n1.2
    rw [List.length_map]; omega

theorem limit_t {w : World} {B g : Nat} {lim : Int} {L : List Ent} {M : Nat} (h : Tier w B g lim L M) : Calls Tryz.prog 17 #[.pointer (some ⟨g, 0, none⟩)] w fun e w' => e = .returned (.int .i64 lim) ∧ w' = w := by
  obtain ⟨gb, gl, B1, B2, gc, v, n, s, bl, T, th, X, H, C, h1, h2, h3, h4⟩ := h
  obtain ⟨c0, c1, _⟩ := h1.cells
  have K := hid2 (Sla.limit_bg h1.bg)
  clear h1 h2 h3 h4
  go_enter Tryz.func17, Tryz.ntmps17
  go_wp2_with fail
  refine (show Calls _ _ _ _ _ from K.out).mono ?_
  rintro e w1 ⟨rfl, rfl⟩
  go_wp2
  go_ret
  exact ⟨rfl, rfl⟩
theorem used_t {w : World} {B g : Nat} {lim : Int} {L : List Ent} {M : Nat} (h : Tier w B g lim L M) : Calls Tryz.prog 15 #[.pointer (some ⟨g, 0, none⟩)] w fun e w' => e = .returned (.int .i64 (usedL L)) ∧ w' = w := by
  obtain ⟨gb, gl, B1, B2, gc, v, n, s, bl, T, th, X, H, C, h1, h2, rfl, h4⟩ := h
  obtain ⟨c0, c1, _⟩ := h1.cells
  have K := hid2 (Sla.used_bg h1.bg)
  rw [h2.usedL] at K
  clear h1 h2 h4
  go_enter Tryz.func15, Tryz.ntmps15
  go_wp2_with fail
  refine (show Calls _ _ _ _ _ from K.out).mono ?_
  rintro e w1 ⟨rfl, rfl⟩
  go_wp2
  go_ret
  exact ⟨rfl, rfl⟩
/-- How many of the first classes there are. -/
def cum (bl : List Int) : Nat → Nat
  | 0 => 0
  | k + 1 => cum bl k + Sla.cnt bl (k : Int)
theorem count_lt (bl : List Int) (h : Sla.Cls bl) (k : Nat) : cum bl k = (bl.filter fun c => decide (c < (k : Int))).length := by
  induction k with
  | zero =>
    show 0 = _
    rw [List.filter_eq_nil_iff.2]; rfl
    intro c hc
    have := (h c hc).1
    simp; omega
  | succ k ih =>
    show cum bl k + bl.count (k : Int) = _
    rw [ih]
    clear ih h
    induction bl with
    | nil => rfl
    | cons c r ih =>
      rw [List.count_cons, List.filter_cons, List.filter_cons]
      by_cases h1 : c < (k : Int)
      · have a1 : decide (c < (k : Int)) = true := by simpa using h1
        have a2 : decide (c < ((k + 1 : Nat) : Int)) = true := decide_eq_true (by omega)
        have a3 : (c == (k : Int)) = false := beq_eq_false_iff_ne.2 (by omega)
        rw [a1, a2, a3]; simp only [if_true, if_false, Bool.false_eq_true, List.length_cons]; omega
      · have a1 : decide (c < (k : Int)) = false := by simpa using h1
        by_cases h2 : c = (k : Int)
        · have a2 : decide (c < ((k + 1 : Nat) : Int)) = true := decide_eq_true (by omega)
          have a3 : (c == (k : Int)) = true := beq_iff_eq.2 h2
          rw [a1, a2, a3]; simp only [if_true, if_false, Bool.false_eq_true, List.length_cons]; omega
        · have a2 : decide (c < ((k + 1 : Nat) : Int)) = false := decide_eq_false (by omega)
          have a3 : (c == (k : Int)) = false := beq_eq_false_iff_ne.2 h2
          rw [a1, a2, a3]; simp only [if_false, Bool.false_eq_true]; omega
theorem count_all (bl : List Int) (h : Sla.Cls bl) : cum bl 9 = bl.length := by
  rw [count_lt bl h, List.filter_eq_self.2]
  intro c hc
  have := (h c hc).2
  simp; omega
theorem cum_le (bl : List Int) (h : Sla.Cls bl) (k : Nat) : cum bl k ≤ bl.length := by rw [count_lt bl h]; exact List.length_filter_le _ _
theorem len_t {w : World} {B g : Nat} {lim : Int} {L : List Ent} {M : Nat} (h : Tier w B g lim L M) : Calls Tryz.prog 14 #[.pointer (some ⟨g, 0, none⟩)] w fun e w' => e = .returned (.int .i64 (L.length : Int)) ∧ w' = w := by
  have hl := h.fine.2.2.2.2.2.1
  obtain ⟨gb, gl, B1, B2, gc, v, n, s, bl, T, th, X, H, C, h1, h2, rfl, h4⟩ := h
  obtain ⟨c0, c1, _⟩ := h1.cells
  have K := hid2 (fun c => Sla.count_bg h1.bg h2.cls c)
  have hbl : bl.length = (s.U.map T).length := by rw [h2.bud.length_eq, List.length_map, List.length_map]
  have e9 := count_all bl h2.cls
  rw [hbl] at e9
  have HC := hid2 (cum_le bl h2.cls)
  have hbl6 : bl.length ≤ 640 := by rw [hbl]; exact hl
  generalize (s.U.map T).length = m at *
  clear h1 h2 h4 hbl
  go_enter Tryz.func14, Tryz.ntmps14
  go_wp2_with fail
  go_loopg [3, 5] 9 (fun gi a i wr => ∃ k : Nat, k ≤ 9 ∧ gi = 9 - k ∧ a = .int .i64 ((cum bl k : Nat) : Int) ∧ i = .int .i64 (k : Int) ∧ wr = w)
  case atStart => exact ⟨0, by omega, rfl, rfl, rfl, rfl⟩
  case round =>
    obtain ⟨k, hk, hgi, rfl, rfl, rfl⟩ := hrel
    have HG := hid2 hgi
    by_cases h9 : k = 9
    · subst h9
      rw [e9]
      clear hgi
      go_wp2
      go_ret
      exact ⟨rfl, rfl⟩
    · have hc1 := HC.out k
      have hc2 := HC.out (k + 1)
      have hs : cum bl (k + 1) = cum bl k + Sla.cnt bl (k : Int) := rfl
      have hs2 : (((cum bl (k + 1) : Nat)) : Int) = ((cum bl k : Nat) : Int) + (Sla.cnt bl (k : Int) : Int) := by rw [hs]; omega
      rw [hs] at hc2
      have HS := hid2 hs2
      generalize cum bl k = a at *
      have hk9 : (k : Int) < 9 := by omega
      have KC := hid2 (K.out (k : Int))
      generalize Sla.cnt bl (k : Int) = b at *
      clear hs hs2 hgi e9
      go_wp2_with fail
      refine (show Calls _ _ _ _ _ from KC.out).mono ?_
      rintro e w1 ⟨rfl, hw⟩
      cases hw
      go_wp2
      go_roundg (9 - (k + 1))
      case measure => rw [HG.out]; omega
      case rel => exact ⟨k + 1, by omega, rfl, by rw [HS.out], rfl, rfl⟩
end Go.Proofs.YtkgecpplgjfhiaaGreatDoor

namespace Go.Proofs.YtkgecpplgjfhiaaGreatDoor
open Go.RowKit
open Ite (Ent zeroE checkE sizeE)
open Lis (Lst but Tag)
variable {w : World} {B g gb gl B1 B2 gc : Nat} {v : Value} {lim : Int} {n : Nat} {s : Lst} {bl : List Int} {T : Int → Ent} {th : Nat} {X : Int → Int} {H : Nat → Int} {M : Nat} {C : Nat → List Int}

theorem remove_t (h : Tb w B g gb gl B1 B2 gc v lim n s bl T th X H M) (t : Tn lim n (slt n) s T th C bl) (hw : ∀ c, c < n → Way X (H c) (C c)) {k i : Nat} (hk : s.U[k]? = some (i : Int)) :
    Calls Tryz.prog 62 #[.pointer (some ⟨g, 0, none⟩), .int .i64 (i : Int)] w fun e w' => ∃ p c, e = .returned (.agg #[.string (T i).key, .int .i64 (T i).ver, .int .i64 (T i).asof, .int .i64 (T i).ends, .slice p (T i).val.length c]) ∧ Bq w' B (.slice p (T i).val.length c) (T i).val ∧ Fr B w w' ∧ Tier w' B g lim (butE (s.U.map T) k) M := by
  have hi : (i : Int) ∈ s.U := List.mem_of_getElem? hk
  obtain ⟨pl, hat⟩ := h.lx.pl
  refine (remove_tb h t hw hi).mono ?_
  rintro e w' ⟨p, c, rfl, hb, hf, X', H', ht, hw', _⟩
  refine ⟨p, c, rfl, hb, hf, ?_⟩
  have e1 : (Lis.dropP s (i : Int)).1 = ⟨Lis.setL s (Lis.whereP s.L i) (but (Lis.getL s (Lis.whereP s.L i)) i), (i : Int) :: s.F, but s.U i, s.n⟩ := by
    unfold Lis.dropP
    rw [if_neg (by rw [hat _ hi]; simp)]
  have e2 : (Sla.giveP bl (ucl (T i))).1 = bl.erase (ucl (T i)) := by
    obtain ⟨c0, c8, _⟩ := fine_class (t.fine _ hi)
    have hm : ucl (T i) ∈ bl := t.bud.mem_iff.2 (List.mem_map.2 ⟨_, hi, rfl⟩)
    have := Sla.cnt_pos.2 hm
    unfold Sla.giveP
    rw [if_neg (by omega), if_neg (by omega)]
  rw [e1, e2] at ht
  refine ⟨_, _, _, _, _, _, _, _, _, _, _, _, _, _, ht, t.drop pl hi, ?_, hw'⟩
  show _ = (but s.U i).map (chg T i zeroE)
  rw [but_map, but_L pl.ndU hk]
theorem touch_t (h : Tb w B g gb gl B1 B2 gc v lim n s bl T th X H M) (t : Tn lim n (slt n) s T th C bl) (_hw : ∀ c, c < n → Way X (H c) (C c)) {k i : Nat} (hk : s.U[k]? = some (i : Int)) (hM : M ≤ 900) :
    Calls Tryz.prog 63 #[.pointer (some ⟨gl, 0, none⟩), .int .i64 (i : Int)] w fun e w' => (∃ u, e = .returned u) ∧ Fr B w w' ∧ ∃ s', Tb w' B g gb gl B1 B2 gc v lim n s' bl T th X H (M + 1) ∧ Tn lim n (slt n) s' T th C bl ∧ T (i : Int) :: butE (s.U.map T) k = s'.U.map T := by
  have hi : (i : Int) ∈ s.U := List.mem_of_getElem? hk
  obtain ⟨pl, hat⟩ := h.lx.pl
  refine (Lis.touch_lx h.lx hM (i : Int)).mono ?_
  rintro e w' ⟨u, rfl, _, lx, md⟩
  have e1 : (Lis.touchP s (i : Int)).1 = ⟨Lis.setL s (Lis.whereP s.L i) ((i : Int) :: but (Lis.getL s (Lis.whereP s.L i)) i), s.F, (i : Int) :: but s.U i, s.n⟩ := by
    unfold Lis.touchP
    rw [if_neg (by rw [hat _ hi]; simp)]
  rw [e1] at lx
  refine ⟨⟨u, rfl⟩, .mid md (Nat.le_of_lt (Nat.lt_of_le_of_lt h.lo.1 h.lo.2.1)), _, h.listed md lx, t.touch pl hi, ?_⟩
  show _ = ((i : Int) :: but s.U i).map T
  rw [List.map_cons, but_L pl.ndU hk]
end Go.Proofs.YtkgecpplgjfhiaaGreatDoor

namespace Go.Proofs.YtkgecpplgjfhiaaGreatDoor
open Go.RowKit
open Ite (Ent zeroE checkE sizeE)
open Lis (Lst but Tag)
variable {w : World} {B g : Nat} {lim : Int} {L : List Ent} {M : Nat}
theorem results_cell_tmp {fn : Func} {p u : Tmp} {ty : TypeId} (h : fn.results = #[.cell p ty, .tmp u]) (tmps : Array Value) (P : Program) (w : World) :
    (results fn tmps).run P w = ((asAddr (tmps.getD p undef)).run P w).andThen fun a w₁ => ((loadVar ty a).run P w₁).andThen fun v w₂ => .ok (.tuple #[v, tmps.getD u undef]) w₂ := by
  simp only [results, h]
  simp [Sem.run_bind, Result.andThen]
theorem results25b {fn : Func} {p u : Tmp} (h : fn.results = #[.cell p 25, .tmp u]) (tmps : Array Value) (w : World) (b : Nat) (ht : tmps.getD p undef = .pointer (some ⟨b, 0, none⟩)) (x0 x1 x2 x3 x4 : Value) (t : TypeId) (fr : Nat × Nat)
    (hc : w.heap[b]? = some (.cells #[x0, x1, x2, x3, x4] t fr)) (y : Value) (hy : tmps.getD u undef = y) : (results fn tmps).run Tryz.prog w = .ok (.tuple #[.agg #[x0, x1, x2, x3, x4], y]) w := by
  rw [results_cell_tmp h, ht, hy]
  simp only [asAddr, Sem.run_pure, Result.andThen_ok, Ite.load24 w b x0 x1 x2 x3 x4 t fr hc]

/-- A Peek: the entry, whether there is one. -/
def peekP (L : List Ent) (k : ByteArray) : Ent × Bool := match idx L k with | none => (zeroE, false) | some i => (atE L i, true)
set_option maxHeartbeats 1000000 in
set_option maxRecDepth 8000 in
theorem peek_t (h : Tier w B g lim L M) (k : ByteArray) (hk : k.size ≤ 1000) : Calls Tryz.prog 24 #[.pointer (some ⟨g, 0, none⟩), .string k] w fun e w' => ∃ p c, e = .returned (.tuple #[.agg #[.string ((peekP L k).1).key, .int .i64 ((peekP L k).1).ver, .int .i64 ((peekP L k).1).asof, .int .i64 ((peekP L k).1).ends, .slice p ((peekP L k).1).val.length c], .bool (peekP L k).2]) ∧ Bq w' B (.slice p ((peekP L k).1).val.length c) ((peekP L k).1).val ∧ Fr B w w' ∧ Tier w' B g lim L M := by
  have hBw : B ≤ w.heap.size := Nat.le_of_lt h.fine.2.2.2.2.2.2
  obtain ⟨gb, gl, B1, B2, gc, v, n, s, bl, T, th, X, H, C, h1, h2, rfl, h4⟩ := h
  have B0 : Below w.heap.size w (w.alloc (.cells #[.string ⟨#[]⟩, .int .i64 0, .int .i64 0, .int .i64 0, .slice none 0 0] 25)) := by go_grown
  have HT0 := hid2 (h1.below B0)
  have X0 := hid2 (heap_alloc_new w (.cells #[.string ⟨#[]⟩, .int .i64 0, .int .i64 0, .int .i64 0, .slice none 0 0] 25))
  have F0 := hid2 (Fr.of (B := B) B0)
  have KF := hid2 (find_tb HT0.out h2 h4 k hk)
  have hfind := h2.find k
  have TT := hid2 h2
  have HW := hid2 h4
  clear h1 h2 h4 B0
  generalize hnd : nodeP T k (C (slt n k)) = nd at *
  clear hnd
  rcases hfind with hfind | hfind
  · obtain ⟨hi, rfl⟩ := hfind
    unfold peekP
    rw [hi]
    dsimp only
    go_enter Tryz.func24, Tryz.ntmps24
    go_wp2_with fail
    refine (show Calls _ _ _ _ _ from KF.out).mono ?_
    rintro e1 w1 ⟨rfl, hb1⟩
    have HT1 := hid2 (HT0.out.below hb1)
    have X1 := hid2 (heap_stays X0.out hb1)
    have F1 := hid2 (F0.out.then_ hb1)
    clear hb1 KF
    go_wp2_with (refine Ite.st24 rfl (.tmp 4) (.tmp 12) rfl w.heap.size rfl _ _ _ _ _ _ X1.out rfl rfl ⟨rfl, rfl, rfl, rfl, rfl⟩ ?_; intro wz hwz hgz)
    have FZ := F1.out.box hgz (Nat.le_refl _)
    have tg9 : Tag w1 w.heap.size 25 := ⟨_, _, X1.out⟩
    have TZ := HT1.out.boxed hgz hBw tg9 good_ent
    refine bodyPost_ret (v := .tuple #[.agg #[.string ⟨#[]⟩, .int .i64 0, .int .i64 0, .int .i64 0, .slice none 0 0], .bool false]) ?_ rfl ⟨none, 0, rfl, Bq.nil _ _, FZ, ⟨_, _, _, _, _, _, _, _, _, _, _, _, _, _, TZ, TT.out, rfl, HW.out⟩⟩
    exact results25b Tryz.results24 _ _ w.heap.size rfl _ _ _ _ _ 25 (0, 0) hwz _ rfl
  · obtain ⟨i, hi, hU⟩ := hfind
    have hmem := List.mem_of_getElem? hU
    have hu := TT.out.used _ hmem
    obtain ⟨j, rfl⟩ := Int.eq_ofNat_of_zero_le hu.1
    have hjt : j < th := by omega
    have hth : th ≤ 640 := Nat.le_trans TT.out.thn HT0.out.n1.2
    have hn1 : ((j : Int) == -1) = false := by simp
    have hI : (0 : Int) ≤ (j : Int) ∧ (j : Int) < (th : Int) := by omega
    have ht : ((j : Int)).toNat = j := by omega
    have hat : atE (s.U.map T) i = T (j : Int) := atE_some (by rw [List.getElem?_map, hU]; rfl)
    unfold peekP
    rw [hi]
    dsimp only
    rw [hat]
    obtain ⟨x, hx⟩ : ∃ x, x = T (j : Int) := ⟨_, rfl⟩
    have HX := hid2 hx
    rw [← hx]
    clear hx hat
    go_enter Tryz.func24, Tryz.ntmps24
    go_wp2_with fail
    refine (show Calls _ _ _ _ _ from KF.out).mono ?_
    rintro e1 w1 ⟨rfl, hb1⟩
    have HT1 := hid2 (HT0.out.below hb1)
    have X1 := hid2 (heap_stays X0.out hb1)
    have F1 := hid2 (F0.out.then_ hb1)
    clear hb1 KF
    obtain ⟨tb, cap, p, c, rfl, _, hblt, _, _, _, hrange, hbq⟩ := HT1.out.thg.look hjt
    obtain ⟨_, _, kr⟩ := thing_cells hrange
    have c3 := HT1.out.cells.2.2.2.1
    have c0 := HT1.out.cells.1
    have hfine := (Ite.chk_ok (TT.out.fine _ hmem)).2.2.2.2.2.2.2
    have KR := hid2 kr
    rw [← HX.out] at KR hbq hfine
    have KC := hid2 (Ite.copy_any x.key x.ver x.asof x.ends hbq.bs (Nat.le_trans hfine (by omega)))
    have hgz0 := hbq
    clear hrange kr hi hU hmem hbq hgz0 hu
    go_wp2_with (refine wpList_load_mid rfl 25 (.tmp 19) rfl tb (j * 6) rfl _ _ KR.out Ite.Tryz.und24.choose_spec rfl Ite.Tryz.size24 ?_)
    refine (show Calls _ _ _ _ _ from KC.out).mono ?_
    rintro e2 w2 ⟨p2, c2, rfl, h5, hb2⟩
    have HT2 := hid2 (HT1.out.below hb2)
    have X2 := hid2 (heap_stays X1.out hb2)
    have F2 := hid2 (F1.out.then_ hb2)
    have HQ2 := hid2 (Bq.of5 B h5)
    clear hb2 KC h5
    go_wp2_with (refine Ite.st24 rfl (.tmp 4) (.tmp 21) rfl w.heap.size rfl _ _ _ _ _ _ X2.out rfl rfl ⟨rfl, rfl, rfl, rfl, rfl⟩ ?_; intro wz hwz hgz)
    have FZ := F2.out.box hgz (Nat.le_refl _)
    have tg9 : Tag w2 w.heap.size 25 := ⟨_, _, X2.out⟩
    have TZ := HT2.out.boxed hgz hBw tg9 good_ent
    have QZ := HQ2.out.boxed hgz hBw tg9 good_ent.2
    refine bodyPost_ret (v := .tuple #[.agg #[.string x.key, .int .i64 x.ver, .int .i64 x.asof, .int .i64 x.ends, .slice p2 x.val.length c2], .bool true]) ?_ rfl ⟨p2, c2, rfl, QZ, FZ, ⟨_, _, _, _, _, _, _, _, _, _, _, _, _, _, TZ, TT.out, rfl, HW.out⟩⟩
    exact results25b Tryz.results24 _ _ w.heap.size rfl _ _ _ _ _ 25 (0, 0) hwz _ rfl

set_option maxHeartbeats 1000000 in
set_option maxRecDepth 8000 in
theorem drop_t (h : Tier w B g lim L M) (k : ByteArray) (hk : k.size ≤ 1000) : Calls Tryz.prog 41 #[.pointer (some ⟨g, 0, none⟩), .string k] w fun e w' => ∃ p c, e = .returned (.tuple #[.agg #[.string ((peekP L k).1).key, .int .i64 ((peekP L k).1).ver, .int .i64 ((peekP L k).1).asof, .int .i64 ((peekP L k).1).ends, .slice p ((peekP L k).1).val.length c], .bool (peekP L k).2]) ∧ Bq w' B (.slice p ((peekP L k).1).val.length c) ((peekP L k).1).val ∧ Fr B w w' ∧ Tier w' B g lim (dropE L k) M := by
  have hBw : B ≤ w.heap.size := Nat.le_of_lt h.fine.2.2.2.2.2.2
  obtain ⟨gb, gl, B1, B2, gc, v, n, s, bl, T, th, X, H, C, h1, h2, rfl, h4⟩ := h
  have B0 : Below w.heap.size w (w.alloc (.cells #[.string ⟨#[]⟩, .int .i64 0, .int .i64 0, .int .i64 0, .slice none 0 0] 25)) := by go_grown
  have HT0 := hid2 (h1.below B0)
  have X0 := hid2 (heap_alloc_new w (.cells #[.string ⟨#[]⟩, .int .i64 0, .int .i64 0, .int .i64 0, .slice none 0 0] 25))
  have F0 := hid2 (Fr.of (B := B) B0)
  have KF := hid2 (find_tb HT0.out h2 h4 k hk)
  have hfind := h2.find k
  have TT := hid2 h2
  have HW := hid2 h4
  clear h1 h2 h4 B0
  generalize hnd : nodeP T k (C (slt n k)) = nd at *
  clear hnd
  rcases hfind with hfind | hfind
  · obtain ⟨hi, rfl⟩ := hfind
    unfold peekP dropE
    rw [hi]
    dsimp only
    go_enter Tryz.func41, Tryz.ntmps41
    go_wp2_with fail
    refine (show Calls _ _ _ _ _ from KF.out).mono ?_
    rintro e1 w1 ⟨rfl, hb1⟩
    have HT1 := hid2 (HT0.out.below hb1)
    have X1 := hid2 (heap_stays X0.out hb1)
    have F1 := hid2 (F0.out.then_ hb1)
    clear hb1 KF
    go_wp2_with (refine Ite.st24 rfl (.tmp 4) (.tmp 12) rfl w.heap.size rfl _ _ _ _ _ _ X1.out rfl rfl ⟨rfl, rfl, rfl, rfl, rfl⟩ ?_; intro wz hwz hgz)
    have FZ := F1.out.box hgz (Nat.le_refl _)
    have tg9 : Tag w1 w.heap.size 25 := ⟨_, _, X1.out⟩
    have TZ := HT1.out.boxed hgz hBw tg9 good_ent
    refine bodyPost_ret (v := .tuple #[.agg #[.string ⟨#[]⟩, .int .i64 0, .int .i64 0, .int .i64 0, .slice none 0 0], .bool false]) ?_ rfl ⟨none, 0, rfl, Bq.nil _ _, FZ, ⟨_, _, _, _, _, _, _, _, _, _, _, _, _, _, TZ, TT.out, rfl, HW.out⟩⟩
    exact results25b Tryz.results41 _ _ w.heap.size rfl _ _ _ _ _ 25 (0, 0) hwz _ rfl
  · obtain ⟨i, hi, hU⟩ := hfind
    have hmem := List.mem_of_getElem? hU
    have hu := TT.out.used _ hmem
    obtain ⟨j, rfl⟩ := Int.eq_ofNat_of_zero_le hu.1
    have hjt : j < th := by omega
    have hth : th ≤ 640 := Nat.le_trans TT.out.thn HT0.out.n1.2
    have hn1 : ((j : Int) == -1) = false := by simp
    have hI : (0 : Int) ≤ (j : Int) ∧ (j : Int) < (th : Int) := by omega
    have ht : ((j : Int)).toNat = j := by omega
    have hat : atE (s.U.map T) i = T (j : Int) := atE_some (by rw [List.getElem?_map, hU]; rfl)
    unfold peekP dropE
    rw [hi]
    dsimp only
    rw [hat]
    obtain ⟨x, hx⟩ : ∃ x, x = T (j : Int) := ⟨_, rfl⟩
    have HX := hid2 hx
    rw [← hx]
    clear hx hat
    go_enter Tryz.func41, Tryz.ntmps41
    go_wp2_with fail
    refine (show Calls _ _ _ _ _ from KF.out).mono ?_
    rintro e1 w1 ⟨rfl, hb1⟩
    have HT1 := hid2 (HT0.out.below hb1)
    have X1 := hid2 (heap_stays X0.out hb1)
    have F1 := hid2 (F0.out.then_ hb1)
    clear hb1 KF
    have KR := hid2 (remove_t HT1.out TT.out HW.out hU)
    rw [← HX.out] at KR
    clear hi hU hmem hu
    go_wp2_with fail
    refine (show Calls _ _ _ _ _ from KR.out).mono ?_
    rintro e2 w2 ⟨p2, c2, rfl, hq2, hf2, ht2⟩
    have HT2 := hid2 ht2
    have X2 := hid2 (hf2.ent X1.out good_ent.1)
    have F2 := hid2 (F1.out.trans hf2)
    have HQ2 := hid2 hq2
    clear ht2 hf2 hq2 KR
    go_wp2_with (refine Ite.st24 rfl (.tmp 4) (.tmp 15) rfl w.heap.size rfl _ _ _ _ _ _ X2.out rfl rfl ⟨rfl, rfl, rfl, rfl, rfl⟩ ?_; intro wz hwz hgz)
    have FZ := F2.out.box hgz (Nat.le_refl _)
    have tg9 : Tag w2 w.heap.size 25 := ⟨_, _, X2.out⟩
    have TZ := HT2.out.boxed hgz hBw tg9 good_ent
    have QZ := HQ2.out.boxed hgz hBw tg9 good_ent.2
    refine bodyPost_ret (v := .tuple #[.agg #[.string x.key, .int .i64 x.ver, .int .i64 x.asof, .int .i64 x.ends, .slice p2 x.val.length c2], .bool true]) ?_ rfl ⟨p2, c2, rfl, QZ, FZ, TZ⟩
    exact results25b Tryz.results41 _ _ w.heap.size rfl _ _ _ _ _ 25 (0, 0) hwz _ rfl

end Go.Proofs.YtkgecpplgjfhiaaGreatDoor

namespace Go.Proofs.YtkgecpplgjfhiaaGreatDoor
open Go.RowKit
open Ite (Ent zeroE checkE sizeE)
open Lis (Lst but Tag)
variable {w : World} {B g : Nat} {lim : Int} {L : List Ent} {M : Nat}

set_option maxHeartbeats 1000000 in
set_option maxRecDepth 8000 in
theorem get_t (h : Tier w B g lim L M) (hM : M ≤ 900) (k : ByteArray) (now : Int) (hk : k.size ≤ 1000) : Calls Tryz.prog 30 #[.pointer (some ⟨g, 0, none⟩), .string k, .int .i64 now] w fun e w' => ∃ p c, e = .returned (.tuple #[.agg #[.string ((getP L k now).2.1).key, .int .i64 ((getP L k now).2.1).ver, .int .i64 ((getP L k now).2.1).asof, .int .i64 ((getP L k now).2.1).ends, .slice p ((getP L k now).2.1).val.length c], .bool (getP L k now).2.2]) ∧ Bq w' B (.slice p ((getP L k now).2.1).val.length c) ((getP L k now).2.1).val ∧ Fr B w w' ∧ Tier w' B g lim (getP L k now).1 (M + 1) := by
  have hBw : B ≤ w.heap.size := Nat.le_of_lt h.fine.2.2.2.2.2.2
  obtain ⟨gb, gl, B1, B2, gc, v, n, s, bl, T, th, X, H, C, h1, h2, rfl, h4⟩ := h
  have B0 : Below w.heap.size w (w.alloc (.cells #[.string ⟨#[]⟩, .int .i64 0, .int .i64 0, .int .i64 0, .slice none 0 0] 25)) := by go_grown
  have HT0 := hid2 (h1.below B0)
  have X0 := hid2 (heap_alloc_new w (.cells #[.string ⟨#[]⟩, .int .i64 0, .int .i64 0, .int .i64 0, .slice none 0 0] 25))
  have F0 := hid2 (Fr.of (B := B) B0)
  have KF := hid2 (find_tb HT0.out h2 h4 k hk)
  have hfind := h2.find k
  have TT := hid2 h2
  have HW := hid2 h4
  clear h1 h2 h4 B0
  generalize hnd : nodeP T k (C (slt n k)) = nd at *
  clear hnd
  rcases hfind with hfind | hfind
  · obtain ⟨hi, rfl⟩ := hfind
    unfold getP
    rw [hi]
    dsimp only
    go_enter Tryz.func30, Tryz.ntmps30
    go_wp2_with fail
    refine (show Calls _ _ _ _ _ from KF.out).mono ?_
    rintro e1 w1 ⟨rfl, hb1⟩
    have HT1 := hid2 (HT0.out.below hb1)
    have X1 := hid2 (heap_stays X0.out hb1)
    have F1 := hid2 (F0.out.then_ hb1)
    clear hb1 KF
    go_wp2_with (refine Ite.st24 rfl (.tmp 6) (.tmp 14) rfl w.heap.size rfl _ _ _ _ _ _ X1.out rfl rfl ⟨rfl, rfl, rfl, rfl, rfl⟩ ?_; intro wz hwz hgz)
    have FZ := F1.out.box hgz (Nat.le_refl _)
    have tg9 : Tag w1 w.heap.size 25 := ⟨_, _, X1.out⟩
    have TZ := HT1.out.boxed hgz hBw tg9 good_ent
    refine bodyPost_ret (v := .tuple #[.agg #[.string ⟨#[]⟩, .int .i64 0, .int .i64 0, .int .i64 0, .slice none 0 0], .bool false]) ?_ rfl ⟨none, 0, rfl, Bq.nil _ _, FZ, (Tier.more ⟨_, _, _, _, _, _, _, _, _, _, _, _, _, _, TZ, TT.out, rfl, HW.out⟩)⟩
    exact results25b Tryz.results30 _ _ w.heap.size rfl _ _ _ _ _ 25 (0, 0) hwz _ rfl
  · obtain ⟨i, hi, hU⟩ := hfind
    have hmem := List.mem_of_getElem? hU
    have hu := TT.out.used _ hmem
    obtain ⟨j, rfl⟩ := Int.eq_ofNat_of_zero_le hu.1
    have hjt : j < th := by omega
    have hth : th ≤ 640 := Nat.le_trans TT.out.thn HT0.out.n1.2
    have hn1 : ((j : Int) == -1) = false := by simp
    have hI : (0 : Int) ≤ (j : Int) ∧ (j : Int) < (th : Int) := by omega
    have ht : ((j : Int)).toNat = j := by omega
    have hat : atE (s.U.map T) i = T (j : Int) := atE_some (by rw [List.getElem?_map, hU]; rfl)
    unfold getP
    rw [hi]
    dsimp only
    rw [hat]
    obtain ⟨x, hx⟩ : ∃ x, x = T (j : Int) := ⟨_, rfl⟩
    have HX := hid2 hx
    rw [← hx]
    clear hx hat
    have hlv : Ite.liveB x.ends now = lv x now := rfl
    cases hl : lv x now with
    | false =>
      rw [if_neg (by simp)]
      go_enter Tryz.func30, Tryz.ntmps30
      go_wp2_with fail
      refine (show Calls _ _ _ _ _ from KF.out).mono ?_
      rintro e1 w1 ⟨rfl, hb1⟩
      have HT1 := hid2 (HT0.out.below hb1)
      have X1 := hid2 (heap_stays X0.out hb1)
      have F1 := hid2 (F0.out.then_ hb1)
      clear hb1 KF
      obtain ⟨tb, cap, p, c, rfl, _, hblt, _, _, _, hrange, hbq⟩ := HT1.out.thg.look hjt
      obtain ⟨_, _, kr⟩ := thing_cells hrange
      have c3 := HT1.out.cells.2.2.2.1
      have c0 := HT1.out.cells.1
      have hfine := (Ite.chk_ok (TT.out.fine _ hmem)).2.2.2.2.2.2.2
      have KR := hid2 kr
      have HU := hid2 hU
      rw [← HX.out] at KR hbq hfine
      have HQ := hid2 hbq
      have HF := hid2 hfine
      have KL := hid2 (fun W => Ite.live_any x.key x.ver x.asof x.ends now p x.val.length c W)
      rw [hlv, hl] at KL
      clear hrange kr hi hU hmem hbq hu hfine
      go_wp2_with (refine wpList_load_mid rfl 25 (.tmp 21) rfl tb (j * 6) rfl _ _ KR.out Ite.Tryz.und24.choose_spec rfl Ite.Tryz.size24 ?_)
      refine (show Calls _ _ _ _ _ from KL.out _).mono ?_
      rintro e2 w2 ⟨rfl, hb2⟩
      have HT2 := hid2 (HT1.out.below hb2)
      have X2 := hid2 (heap_stays X1.out hb2)
      have F2 := hid2 (F1.out.then_ hb2)
      clear hb2 KL KR c3 c0 hblt
      have KM2 := hid2 (remove_t HT2.out TT.out HW.out HU.out)
      rw [← HX.out] at KM2
      clear hlv hl
      go_wp2_with fail
      refine (show Calls _ _ _ _ _ from KM2.out).mono ?_
      rintro e3 w3 ⟨p3, c3, rfl, _, hf3, ht3⟩
      have HT3 := hid2 ht3
      have X3 := hid2 (hf3.ent X2.out good_ent.1)
      have F3 := hid2 (F2.out.trans hf3)
      clear ht3 hf3 KM2
      go_wp2_with (refine Ite.st24 rfl (.tmp 6) (.tmp 29) rfl w.heap.size rfl _ _ _ _ _ _ X3.out rfl rfl ⟨rfl, rfl, rfl, rfl, rfl⟩ ?_; intro wz hwz hgz)
      have FZ := F3.out.box hgz (Nat.le_refl _)
      have tg9 : Tag w3 w.heap.size 25 := ⟨_, _, X3.out⟩
      have TZ := (HT3.out.boxed hgz hBw tg9 good_ent).more
      refine bodyPost_ret (v := .tuple #[.agg #[.string ⟨#[]⟩, .int .i64 0, .int .i64 0, .int .i64 0, .slice none 0 0], .bool false]) ?_ rfl ⟨none, 0, rfl, Bq.nil _ _, FZ, TZ⟩
      exact results25b Tryz.results30 _ _ w.heap.size rfl _ _ _ _ _ 25 (0, 0) hwz _ rfl
    | true =>
      rw [if_pos rfl]
      go_enter Tryz.func30, Tryz.ntmps30
      go_wp2_with fail
      refine (show Calls _ _ _ _ _ from KF.out).mono ?_
      rintro e1 w1 ⟨rfl, hb1⟩
      have HT1 := hid2 (HT0.out.below hb1)
      have X1 := hid2 (heap_stays X0.out hb1)
      have F1 := hid2 (F0.out.then_ hb1)
      clear hb1 KF
      obtain ⟨tb, cap, p, c, rfl, _, hblt, _, _, _, hrange, hbq⟩ := HT1.out.thg.look hjt
      obtain ⟨_, _, kr⟩ := thing_cells hrange
      have c3 := HT1.out.cells.2.2.2.1
      have c0 := HT1.out.cells.1
      have hfine := (Ite.chk_ok (TT.out.fine _ hmem)).2.2.2.2.2.2.2
      have KR := hid2 kr
      have HU := hid2 hU
      rw [← HX.out] at KR hbq hfine
      have HQ := hid2 hbq
      have HF := hid2 hfine
      have KL := hid2 (fun W => Ite.live_any x.key x.ver x.asof x.ends now p x.val.length c W)
      rw [hlv, hl] at KL
      clear hrange kr hi hU hmem hbq hu hfine
      go_wp2_with (refine wpList_load_mid rfl 25 (.tmp 21) rfl tb (j * 6) rfl _ _ KR.out Ite.Tryz.und24.choose_spec rfl Ite.Tryz.size24 ?_)
      refine (show Calls _ _ _ _ _ from KL.out _).mono ?_
      rintro e2 w2 ⟨rfl, hb2⟩
      have HT2 := hid2 (HT1.out.below hb2)
      have X2 := hid2 (heap_stays X1.out hb2)
      have F2 := hid2 (F1.out.then_ hb2)
      clear hb2 KL KR c3 c0 hblt
      have KT2 := hid2 (touch_t HT2.out TT.out HW.out HU.out hM)
      have c2 := HT2.out.cells.2.2.1
      clear hlv hl
      go_wp2_with fail
      refine (show Calls _ _ _ _ _ from KT2.out).mono ?_
      rintro e3 w3 ⟨⟨u3, rfl⟩, hf3, s', ht3, tn3, hU3⟩
      have HT3 := hid2 ht3
      have X3 := hid2 (hf3.ent X2.out good_ent.1)
      have F3 := hid2 (F2.out.trans hf3)
      have TT3 := hid2 tn3
      rw [← HX.out] at hU3
      have HU3 := hid2 hU3
      obtain ⟨tb', cap', p', c', hv', _, hblt, _, _, _, hrange, hbq⟩ := ht3.thg.look hjt
      obtain ⟨rfl, rfl⟩ := slice_eq hv'
      obtain ⟨_, _, kr⟩ := thing_cells hrange
      have c33 := ht3.cells.2.2.2.1
      have c0 := ht3.cells.1
      rw [← HX.out] at kr hbq
      have KR := hid2 kr
      have KC := hid2 (Ite.copy_any x.key x.ver x.asof x.ends hbq.bs (Nat.le_trans HF.out (by omega)))
      clear ht3 hf3 tn3 hU3 KT2 c2 hv' hrange kr hbq
      go_wp2_with (refine wpList_load_mid rfl 25 (.tmp 42) rfl tb (j * 6) rfl _ _ KR.out Ite.Tryz.und24.choose_spec rfl Ite.Tryz.size24 ?_)
      refine (show Calls _ _ _ _ _ from KC.out).mono ?_
      rintro e4 w4 ⟨p2, c2, rfl, h5, hb4⟩
      have HT4 := hid2 (HT3.out.below hb4)
      have X4 := hid2 (heap_stays X3.out hb4)
      have F4 := hid2 (F3.out.then_ hb4)
      have HQ4 := hid2 (Bq.of5 B h5)
      clear hb4 KC h5
      go_wp2_with (refine Ite.st24 rfl (.tmp 6) (.tmp 44) rfl w.heap.size rfl _ _ _ _ _ _ X4.out rfl rfl ⟨rfl, rfl, rfl, rfl, rfl⟩ ?_; intro wz hwz hgz)
      have FZ := F4.out.box hgz (Nat.le_refl _)
      have tg9 : Tag w4 w.heap.size 25 := ⟨_, _, X4.out⟩
      have TZ := HT4.out.boxed hgz hBw tg9 good_ent
      have QZ := HQ4.out.boxed hgz hBw tg9 good_ent.2
      have EZ := HU3.out
      refine bodyPost_ret (v := .tuple #[.agg #[.string x.key, .int .i64 x.ver, .int .i64 x.asof, .int .i64 x.ends, .slice p2 x.val.length c2], .bool true]) ?_ rfl ⟨p2, c2, rfl, QZ, FZ, ⟨_, _, _, _, _, _, _, _, _, _, _, _, _, _, TZ, TT3.out, EZ, HW.out⟩⟩
      exact results25b Tryz.results30 _ _ w.heap.size rfl _ _ _ _ _ 25 (0, 0) hwz _ rfl

end Go.Proofs.YtkgecpplgjfhiaaGreatDoor
