/-
  The document's side: change.
-/
import Derived.Test.YtkbfihnoohhojaaGreatDoorQFRefE
import Derived.Test.YtkbfihnoohhojaaGreatDoorQOpenF
namespace Go.Proofs.YtkbfihnoohhojaaGreatDoor.Fla
open Go.RowKit

theorem heap4 (w : World) (a b c d : Obj) : ((((w.alloc a).alloc b).alloc c).alloc d).heap[w.heap.size]? = some a ∧ ((((w.alloc a).alloc b).alloc c).alloc d).heap[w.heap.size + 1]? = some b ∧ ((((w.alloc a).alloc b).alloc c).alloc d).heap[w.heap.size + 1 + 1]? = some c ∧ ((((w.alloc a).alloc b).alloc c).alloc d).heap[w.heap.size + 1 + 1 + 1]? = some d := by
  obtain ⟨h1, h2, h3⟩ := heap3 w a b c
  refine ⟨heap_alloc_old h1 _, heap_alloc_old h2 _, heap_alloc_old h3 _, ?_⟩
  have := heap_alloc_last (((w.alloc a).alloc b).alloc c) d
  simpa using this
/-- The rest of a slice of changes that may be nil. -/
theorem loose_src {w : World} {lp : Option Addr} {lc : Nat} {lo : List Lo} (h : LooseAt w (.slice lp lo.length lc) lo) (hn : lp = none → lc = 0) :
    (lp = none → lo.length = 0 ∧ lc = 0) ∧ (0 < lo.length → ∃ ad, lp = some ad ∧ ∀ i u, (loL lo)[i]? = some u → w.cell? (ad.add i) = some u) := by
  obtain ⟨p, cap', e, h2, h3, h4, h5⟩ := h.1.each
  cases e
  refine ⟨fun e => ⟨by have := hn e; omega, hn e⟩, fun hp => ?_⟩
  obtain ⟨x, hx⟩ : ∃ x, lo[0]? = some x := ⟨_, List.getElem?_eq_getElem hp⟩
  obtain ⟨b, off, rfl, _, _⟩ := h5 _ _ (loL_at hx).1
  refine ⟨⟨b, off, none⟩, rfl, fun i u hu => ?_⟩
  rw [Addr.add_mid]
  obtain ⟨b', off', e', _, hc⟩ := h5 _ _ hu
  cases e'
  exact hc
theorem heap_set_old {w : World} {b g o : Nat} {x : Obj} (h : w.heap[b]? = some x) (hne : b ≠ g) (v : Value) : (w.setCell ⟨g, o, none⟩ v).heap[b]? = some x := by rw [heap_setCell_other hne]; exact h
theorem three_new_at (w : World) (x y z : Value) (e : TypeId) (b : Nat) (hb : w.heap.size = b) : ∀ j u, [x, y, z][j]? = some u → (w.alloc (.cells #[x, y, z] e)).cell? ((⟨b, 0, none⟩ : Addr).add j) = some u := by
  subst hb
  exact cell_three_new w x y z e
theorem chg_y3 {w3 : World} {b n k : Nat} {p : Option Addr} {x0 x1 x2 x3 x4 x5 : Value} (h : w3.heap[b]? = some (.cells #[x0, x1, x2, x3, x4, x5] 36 (0, 0))) : (w3.setCell ⟨b, 2, none⟩ (.slice p n k)).heap[b]? = some (.cells #[x0, x1, .slice p n k, x3, x4, x5] 36 (0, 0)) := by
  simpa using setCell_heap (o := 2) h (.slice p n k)
theorem loL_one {w : World} {v : Value} {lo : List Lo} (h : LooseAt w v lo) : ∀ u ∈ loL lo, u.oneCell' = true := by
  intro u hu
  simp only [loL, List.mem_flatMap] at hu
  obtain ⟨x, hx, hu⟩ := hu
  simp at hu
  rcases hu with rfl | rfl | rfl
  · rfl
  · exact (h.2 x hx).one
  · rfl

theorem wl_tail2 {P : Program} {w : World} {ops : Array Oper} {rest : List Oper} {o : Oper} {a : Act} {Q : Exit → Act → World → Prop} (hgd : o.guard = none) (s x : Operand) (t : TypeId)
    (ho : o.op = .call { callee := .builtin .append, args := #[s, x], argTypes := #[t, t] })
    (base : Nat) (e : TypeId) (i : TypeInfo) (z : Value) (size bytes : Nat) (ht : P.underlying t = some (.slice e)) (hi : P.info? e = some i) (hz : i.zero = some z)
    (hsize : i.size = size) (hby : i.bytes = bytes) (hzs : z.cells.size = size) (hsz : 0 < size)
    (v : Value) (n : Nat) (xs : List Value) (hs : a.eval s = v) (hown : w.ownsRow base e size v n xs)
    (sp : Option Addr) (m c : Nat) (news : List Value) (hx : a.eval x = .slice sp m c) (hnone : sp = none → m = 0 ∧ c = 0) (hl : news.length = m * size) (hnews : 0 < m → ∃ ad, sp = some ad ∧ ∀ j u, news[j]? = some u → w.cell? (ad.add j) = some u) (h1 : ∀ u ∈ news, u.oneCell' = true)
    (h63 : n + m ≤ maxLen) (hbytes : (n + m) * bytes ≤ 140737488355328) (hbase : base ≤ w.heap.size) (nm : Nat) (hnm : n + m = nm) (ys : List Value) (hys : xs ++ news = ys)
    (h : ∀ p k w', w'.ownsRow base e size (.slice p nm k) nm ys → w.grownBy w' v.ownBlock → wpList P ops Q rest (a.put o.dst (.slice p nm k)) w') : wpList P ops Q (o :: rest) a w := by
  subst hnm hys
  refine wl_tail hgd s x t ho base e i z size bytes ht hi hz hsize hby hzs hsz v n xs hs hown sp m c news hx hnone hl hnews h1 h63 hbytes hbase (fun v' w' k1 k2 => ?_)
  obtain ⟨p, k, rfl⟩ := own_len k1
  exact h p k w' k1 k2
theorem own_form {w : World} {B : Nat} {e : TypeId} {size n : Nat} {v : Value} {xs : List Value} (h : w.ownsRow B e size v n xs) : ∃ p k, v = .slice p n k := own_len h

set_option maxHeartbeats 4000000 in
set_option maxRecDepth 10000 in
theorem change_any {w : World} {pages fuse done : Int} {down : Bool} {cp lp bp : Option Addr} {cn cc lc bn bc : Nat} {lo : List Lo} {c : Chg} (hL : LooseAt w (.slice lp lo.length lc) lo) (hN : lp = none → lc = 0) (hl : lo.length ≤ 900) (_hd0 : 0 ≤ done) (_hd1 : done ≤ 1000)
    (_R : Value) (code : Int) (gone : Bool) (hgc : code = if gone = true then 11 else 0) (fuse' done' : Int) (down' : Bool) (hRB : ∀ (p : Option Addr) (n k : Nat) (w : World), Calls Tryz.prog 70 #[.agg #[.int .i64 pages, .slice cp cn cc, .slice p n k, .int .i64 fuse, .bool down, .int .i64 done]] w fun e w' => e = .returned (.tuple #[.agg #[.int .i64 pages, .slice cp cn cc, .slice p n k, .int .i64 fuse', .bool down', .int .i64 done'], .bool gone]) ∧ Below w.heap.size w w') :
    Calls Tryz.prog 60 #[.agg #[.int .i64 pages, .slice cp cn cc, .slice lp lo.length lc, .int .i64 fuse, .bool down, .int .i64 done], .agg #[.int .i64 c.at_, .slice bp bn bc, .bool c.trim]] w fun e w' => ∃ p k, e = .returned (.tuple #[.agg #[.int .i64 pages, .slice cp cn cc, .slice p (lo.length + 1) k, .int .i64 fuse', .bool down', .int .i64 done'], .int .i64 code]) ∧ w'.ownsRow w.heap.size 105 3 (.slice p (lo.length + 1) k) (lo.length + 1) (loL lo ++ [.int .i64 c.at_, .slice bp bn bc, .bool c.trim]) ∧ Below w.heap.size w w' := by
  obtain ⟨i0, hi, hz0, hz1, hz2⟩ := info_of Tryz.info98m
  obtain ⟨x0, x1, x2, x3⟩ := heap4 w (.cells #[.int .i64 pages, .slice cp cn cc, .slice lp lo.length lc, .int .i64 fuse, .bool down, .int .i64 done] 36) (.cells #[.int .i64 c.at_, .slice bp bn bc, .bool c.trim] 105) (.cells #[.int .i64 0, .slice none 0 0, .slice none 0 0, .int .i64 0, .bool false, .int .i64 0] 36) (.cells #[.int .i64 pages, .slice cp cn cc, .slice none 0 0, .int .i64 fuse, .bool down, .int .i64 done] 36)
  have hbW : Below w.heap.size w ((((w.alloc (.cells #[.int .i64 pages, .slice cp cn cc, .slice lp lo.length lc, .int .i64 fuse, .bool down, .int .i64 done] 36)).alloc (.cells #[.int .i64 c.at_, .slice bp bn bc, .bool c.trim] 105)).alloc (.cells #[.int .i64 0, .slice none 0 0, .slice none 0 0, .int .i64 0, .bool false, .int .i64 0] 36)).alloc (.cells #[.int .i64 pages, .slice cp cn cc, .slice none 0 0, .int .i64 fuse, .bool down, .int .i64 done] 36)) := by go_grown
  have HS : Hid ((lp = none → lo.length = 0 ∧ lc = 0) ∧ (0 < lo.length → ∃ ad, lp = some ad ∧ ∀ i u, (loL lo)[i]? = some u → ((((w.alloc (.cells #[.int .i64 pages, .slice cp cn cc, .slice lp lo.length lc, .int .i64 fuse, .bool down, .int .i64 done] 36)).alloc (.cells #[.int .i64 c.at_, .slice bp bn bc, .bool c.trim] 105)).alloc (.cells #[.int .i64 0, .slice none 0 0, .slice none 0 0, .int .i64 0, .bool false, .int .i64 0] 36)).alloc (.cells #[.int .i64 pages, .slice cp cn cc, .slice none 0 0, .int .i64 fuse, .bool down, .int .i64 done] 36)).cell? (ad.add i) = some u)) := loose_src (hL.below hbW) hN
  have HONE : Hid (∀ u ∈ loL lo, u.oneCell' = true) := loL_one hL
  have HBW : Hid (Below w.heap.size w ((((w.alloc (.cells #[.int .i64 pages, .slice cp cn cc, .slice lp lo.length lc, .int .i64 fuse, .bool down, .int .i64 done] 36)).alloc (.cells #[.int .i64 c.at_, .slice bp bn bc, .bool c.trim] 105)).alloc (.cells #[.int .i64 0, .slice none 0 0, .slice none 0 0, .int .i64 0, .bool false, .int .i64 0] 36)).alloc (.cells #[.int .i64 pages, .slice cp cn cc, .slice none 0 0, .int .i64 fuse, .bool down, .int .i64 done] 36))) := hbW
  have X0 := hid2 x0
  have X1 := hid2 x1
  have X2 := hid2 x2
  have X3 := hid2 x3
  have HRB := hid2 hRB
  have HWS : Hid (w.heap.size ≤ ((((w.alloc (.cells #[.int .i64 pages, .slice cp cn cc, .slice lp lo.length lc, .int .i64 fuse, .bool down, .int .i64 done] 36)).alloc (.cells #[.int .i64 c.at_, .slice bp bn bc, .bool c.trim] 105)).alloc (.cells #[.int .i64 0, .slice none 0 0, .slice none 0 0, .int .i64 0, .bool false, .int .i64 0] 36)).alloc (.cells #[.int .i64 pages, .slice cp cn cc, .slice none 0 0, .int .i64 fuse, .bool down, .int .i64 done] 36)).heap.size) := hbW.size
  clear x0 x1 x2 x3 hL hbW hRB
  go_enter Tryz.func60, Tryz.ntmps60
  cases gone
  all_goals
    simp at hgc
    subst hgc
    go_wp2_with (first | (at_builtin; refine wl_tail2 rfl (.tmp 12) (.tmp 14) 34 rfl w.heap.size 105 i0 (.agg #[.int .i64 0, .slice none 0 0, .bool false]) 3 40 Tryz.underlying34 hi hz0 hz1 hz2 rfl (by decide) (.slice none 0 0) 0 [] rfl (World.ownsRow_nil _ _ _ _) lp lo.length lc (loL lo) rfl HS.out.1 (by rw [loL_length]) HS.out.2 HONE.out (by unfold maxLen; omega) (by omega) HWS.out lo.length (by omega) (loL lo) (by simp) ?_; go_must (intro p3 k3 w3 hown3 hgrow3; have y1 := heap_grown X1.out hgrow3 (by simp [Value.ownBlock]); have y2 := heap_grown X2.out hgrow3 (by simp [Value.ownBlock]); have y3 := heap_grown X3.out hgrow3 (by simp [Value.ownBlock]); obtain ⟨a0, a1, a2⟩ := three y1; obtain ⟨⟨d0, d1, d2, d3, d4, d5⟩, df⟩ := six' y3; have hs3 : w.heap.size + 1 + 1 + 1 < w3.heap.size := (Array.getElem?_eq_some_iff.1 y3).1; have Y2 := hid2 y2; have Y3 := hid2 y3; have HO3 := hid2 hown3; have HG3 := hid2 hgrow3; have Y3q : Hid ((w3.setCell ⟨w.heap.size + 1 + 1 + 1, 2, none⟩ (.slice p3 lo.length k3)).heap[w.heap.size + 1 + 1 + 1]? = some (.cells #[.int .i64 pages, .slice cp cn cc, .slice p3 lo.length k3, .int .i64 fuse, .bool down, .int .i64 done] 36 (0, 0))) := chg_y3 y3; have Y2q : Hid ((w3.setCell ⟨w.heap.size + 1 + 1 + 1, 2, none⟩ (.slice p3 lo.length k3)).heap[w.heap.size + 1 + 1]? = some (.cells #[.int .i64 0, .slice none 0 0, .slice none 0 0, .int .i64 0, .bool false, .int .i64 0] 36 (0, 0))) := heap_set_old y2 (by omega) _; have HOq : Hid (((w3.setCell ⟨w.heap.size + 1 + 1 + 1, 2, none⟩ (.slice p3 lo.length k3)).alloc (.cells #[.int .i64 c.at_, .slice bp bn bc, .bool c.trim] 105)).ownsRow w.heap.size 105 3 (.slice p3 lo.length k3) lo.length (loL lo)) := (hown3.kept (setCell_grown (o := 2) y3 _) (.inr (Ne.symm (own_ne hown3 y3 (by decide))))).alloc _; have HBq : Hid (Below w.heap.size w (w3.setCell ⟨w.heap.size + 1 + 1 + 1, 2, none⟩ (.slice p3 lo.length k3))) := (HBW.out.grown hgrow3 HWS.out (fun k hk => nomatch hk)).trans (grown_below (setCell_grown (o := 2) y3 _) (by omega) (by omega)); have HNq := hid2 (three_new_at (w3.setCell ⟨w.heap.size + 1 + 1 + 1, 2, none⟩ (.slice p3 lo.length k3)) (.int .i64 c.at_) (.slice bp bn bc) (.bool c.trim) 105 w3.heap.size (World.size_setCell _ _ _)); have HZq : Hid (w.heap.size ≤ ((w3.setCell ⟨w.heap.size + 1 + 1 + 1, 2, none⟩ (.slice p3 lo.length k3)).alloc (.cells #[.int .i64 c.at_, .slice bp bn bc, .bool c.trim] 105)).heap.size) := (by show _ ≤ _; rw [World.size_alloc, World.size_setCell]; omega); clear y1 y2 y3 hown3 hgrow3)) | (at_builtin; refine wl_tail2 rfl (.tmp 18) (.tmp 20) 34 rfl w.heap.size 105 i0 (.agg #[.int .i64 0, .slice none 0 0, .bool false]) 3 40 Tryz.underlying34 hi hz0 hz1 hz2 rfl (by decide) (.slice p3 lo.length k3) lo.length (loL lo) rfl HOq.out (some ⟨w3.heap.size, 0, none⟩) 1 1 [.int .i64 c.at_, .slice bp bn bc, .bool c.trim] rfl (fun h => nomatch h) rfl (fun _ => ⟨_, rfl, HNq.out⟩) (by intro y hy; simp at hy; rcases hy with rfl | rfl | rfl <;> rfl) (by unfold maxLen; omega) (by omega) HZq.out (lo.length + 1) rfl (loL lo ++ [.int .i64 c.at_, .slice bp bn bc, .bool c.trim]) rfl ?_; go_must (intro p4 k4 w4 hown4 hgrow4; have z3 := heap_grown (heap_alloc_old Y3q.out _) hgrow4 (own_ne HOq.out (heap_alloc_old Y3q.out _) (by decide)); have z2 := heap_grown (heap_alloc_old Y2q.out _) hgrow4 (own_ne HOq.out (heap_alloc_old Y2q.out _) (by decide)); clear a0 a1 a2 d0 d1 d2 d3 d4 d5 df; obtain ⟨⟨d0, d1, d2, d3, d4, d5⟩, df⟩ := six' z3; have hs4 : w.heap.size + 1 + 1 + 1 < w4.heap.size := (Array.getElem?_eq_some_iff.1 z3).1; have HO4 : Hid ((w4.setCell ⟨w.heap.size + 1 + 1 + 1, 2, none⟩ (.slice p4 (lo.length + 1) k4)).ownsRow w.heap.size 105 3 (.slice p4 (lo.length + 1) k4) (lo.length + 1) (loL lo ++ [.int .i64 c.at_, .slice bp bn bc, .bool c.trim])) := hown4.kept (setCell_grown (o := 2) z3 _) (.inr (Ne.symm (own_ne hown4 z3 (by decide)))); have HB4 : Hid (Below w.heap.size w (w4.setCell ⟨w.heap.size + 1 + 1 + 1, 2, none⟩ (.slice p4 (lo.length + 1) k4))) := ((HBq.out.alloc HBq.out.size _).grown hgrow4 HZq.out (fun k hk => (HOq.out.lt k hk).1)).trans (grown_below (setCell_grown (o := 2) z3 _) (by omega) (by omega)); have Z2q : Hid ((w4.setCell ⟨w.heap.size + 1 + 1 + 1, 2, none⟩ (.slice p4 (lo.length + 1) k4)).heap[w.heap.size + 1 + 1]? = some (.cells #[.int .i64 0, .slice none 0 0, .slice none 0 0, .int .i64 0, .bool false, .int .i64 0] 36 (0, 0))) := heap_set_old z2 (by omega) _; clear z3 z2 hown4 hgrow4)) | (go_at_call 70; refine (HRB.out p4 (lo.length + 1) k4 _).mono ?_; rintro e w5 ⟨rfl, hb5⟩; have zz := heap_stays Z2q.out hb5; clear d0 d1 d2 d3 d4 d5 df hs4; have hs5 : w.heap.size + 1 + 1 < w5.heap.size := (Array.getElem?_eq_some_iff.1 zz).1; have HO5 := hid2 (own_below HO4.out hb5); have HB5 := hid2 (HB4.out.trans (hb5.mono HB4.out.size)); have ZZ := hid2 zz; clear hb5 zz; skip) | (refine st33 rfl (.tmp 4) (.tmp 29) rfl (w.heap.size + 1 + 1) rfl _ _ _ _ _ _ _ (heap_alloc_old ZZ.out _) rfl rfl ⟨rfl, rfl, rfl, rfl, rfl, rfl⟩ ?_; intro w6 hw6 hg6) | (refine st33 rfl (.tmp 4) (.tmp 30) rfl (w.heap.size + 1 + 1) rfl _ _ _ _ _ _ _ (heap_alloc_old ZZ.out _) rfl rfl ⟨rfl, rfl, rfl, rfl, rfl, rfl⟩ ?_; intro w6 hw6 hg6))
    refine bodyPost_ret (v := .tuple #[.agg #[.int .i64 pages, .slice cp cn cc, .slice p4 (lo.length + 1) k4, .int .i64 fuse', .bool down', .int .i64 done'], .int .i64 _]) ?_ rfl ⟨p4, k4, rfl, ?_, ?_⟩
    · exact results33 Tryz.results60 _ _ (w.heap.size + 1 + 1) rfl _ _ _ _ _ _ 36 (0, 0) hw6 _ rfl
    · exact (HO5.out.alloc _).kept hg6 (.inr (Ne.symm (own_ne HO5.out ZZ.out (by decide))))
    · exact (HB5.out.alloc HB5.out.size _).trans (grown_below hg6 (by omega) (by have := HB5.out.size; simp; omega))
end Go.Proofs.YtkbfihnoohhojaaGreatDoor.Fla
