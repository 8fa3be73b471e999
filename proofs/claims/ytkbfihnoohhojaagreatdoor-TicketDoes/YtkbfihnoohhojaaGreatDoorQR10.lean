/-
  The document's ticket in memory: stored whole, in parts, and as a result.
-/
import Derived.Test.YtkbfihnoohhojaaGreatDoorQFRefG
import Derived.Test.YtkbfihnoohhojaaGreatDoorQTk
import Derived.Test.YtkbfihnoohhojaaGreatDoorQGets
import Derived.Test.YtkbfihnoohhojaaGreatDoorQFRefH
import Derived.Test.YtkbfihnoohhojaaGreatDoorQFDoB
import Derived.Test.YtkbfihnoohhojaaGreatDoorQLPuts
import Derived.Test.YtkbfihnoohhojaaGreatDoorQLRGets
namespace Go.Proofs.YtkbfihnoohhojaaGreatDoor.Fla
open Go.RowKit

/-- The first pages that are not blank. -/
def rallN (r : Rf) (n : Nat) : List (Int × List Nat) := (List.range n).filterMap fun (a : Nat) => if isBlank (rlook r (a : Int)) = true then none else some ((a : Int), rlook r (a : Int))
theorem clL_snoc (l : List Cl) (a : Int) (u : Value) (q : List Nat) : clL (l ++ [(a, u, q)]) = clL l ++ [.int .i64 a, u] := by simp [clL]
theorem rallN_succ (r : Rf) (n : Nat) : rallN r (n + 1) = rallN r n ++ (if isBlank (rlook r (n : Int)) = true then [] else [((n : Int), rlook r (n : Int))]) := by
  unfold rallN
  rw [List.range_succ, List.filterMap_append]
  congr 1
  simp only [List.filterMap_cons, List.filterMap_nil]
  split <;> simp_all

set_option maxHeartbeats 2000000 in
set_option maxRecDepth 10000 in
theorem rall_any {w : World} {rv : Value} {r : Rf} {N : Nat} (hR : RfAt w rv r N) (hp1 : r.pages ≤ 4096) (hp0 : 1 ≤ r.pages) :
    Calls Tryz.prog 28 #[rv] w fun e w' => ∃ v l, e = .returned v ∧ CellsAt w' v l ∧ plainC l = rall r ∧ Below w.heap.size w w' := by
  obtain ⟨cp, cc, lp, lc, cs, lo, rfl, h2, h3, h4, h5, h6, h7, h8, h9, h10, h11, h12⟩ := hR
  obtain ⟨i0, hi, hz0, hz1, hz2⟩ := info_of Tryz.info89m
  have HRL : Hid (∀ a, rlook r a = rlookL (plainL lo) a (rsafe (plainC cs) a)) := fun a => by unfold rlook; rw [h4, h7]
  have HALL : Hid (rall r = rallN r r.pages.toNat) := rfl
  have HF0 : Hid ((w.alloc (.cells #[.int .i64 r.pages, .slice cp cs.length cc, .slice lp lo.length lc, .int .i64 r.fuse, .bool r.down, .int .i64 r.done] 36)).heap[w.heap.size]? = some (.cells #[.int .i64 r.pages, .slice cp cs.length cc, .slice lp lo.length lc, .int .i64 r.fuse, .bool r.down, .int .i64 r.done] 36 (0, 0))) := heap_alloc_last _ _
  have HB0 : Hid (Below w.heap.size w (w.alloc (.cells #[.int .i64 r.pages, .slice cp cs.length cc, .slice lp lo.length lc, .int .i64 r.fuse, .bool r.down, .int .i64 r.done] 36))) := by show Below _ _ _; go_grown
  clear h4 h7
  go_enter Tryz.func28, Tryz.ntmps28
  go_wp2_with fail
  go_loopw [3, 4] (fun o i wr => ∃ a : Nat, i = .int .i64 (a : Int) ∧ (a : Int) ≤ r.pages ∧ ∃ l : List Cl, plainC l = rallN r a ∧ l.length ≤ a ∧ wr.ownsRow w.heap.size 79 2 o l.length (clL l) ∧ (∀ x ∈ l, BAt wr x.2.1 x.2.2) ∧ wr.heap[w.heap.size]? = some (.cells #[.int .i64 r.pages, .slice cp cs.length cc, .slice lp lo.length lc, .int .i64 r.fuse, .bool r.down, .int .i64 r.done] 36 (0, 0)) ∧ Below w.heap.size w wr) (fun _ i _ => (r.pages - intOf i).toNat)
  case atStart => exact ⟨0, rfl, by omega, [], rfl, Nat.le_refl _, World.ownsRow_nil _ _ _ _, by simp, HF0.out, HB0.out⟩
  case round =>
    obtain ⟨a, rfl, ha, l, hl1, hl2, hown, hpg, hF, hB⟩ := hrel
    obtain ⟨⟨d0, d1, d2, d3, d4, d5⟩, _⟩ := six' hF
    have hsz : w.heap.size < wr.heap.size := (Array.getElem?_eq_some_iff.1 hF).1
    have HL1 := hid2 hl1
    have HOW := hid2 hown
    have HPG : Hid (∀ x ∈ l, BAt wr x.2.1 x.2.2) := hpg
    have HF := hid2 hF
    have HB := hid2 hB
    clear hl1 hown hpg hF hB
    by_cases hlt : (a : Int) < r.pages
    · have KL := look_any (pages := r.pages) (fuse := r.fuse) (done := r.done) (down := r.down) (h2.below HB.out) (h5.below HB.out) (a : Int)
      rw [← HRL.out] at KL
      have HSN : Hid (rallN r (a + 1) = rallN r a ++ (if isBlank (rlook r (a : Int)) = true then [] else [((a : Int), rlook r (a : Int))])) := rallN_succ r a
      generalize rlook r (a : Int) = q at *
      have HKL : Hid (Calls Tryz.prog 52 #[.agg #[.int .i64 r.pages, .slice cp cs.length cc, .slice lp lo.length lc, .int .i64 r.fuse, .bool r.down, .int .i64 r.done], .int .i64 (a : Int)] wr _) := KL
      clear KL
      cases hbl : isBlank q
      · have HBL := hid2 hbl
        clear hbl
        go_wp2_with (first | (go_at_call 52; refine (show Calls _ _ _ _ _ from HKL).mono ?_; rintro e w3 ⟨u, rfl, hu, hb3⟩; obtain ⟨up, ucap, hue, _⟩ := hu.form; subst hue; have HU := hid2 hu; have hs3 := hb3.size; have H3 := hid2 hb3; have HO2 : Hid ((w3.alloc (.cells #[.int .i64 (a : Int), .slice up q.length ucap] 79)).ownsRow w.heap.size 79 2 u3 l.length (clL l)) := (own_below HOW.out hb3).alloc _; have HNW : Hid (∀ j y, [Value.int .i64 (a : Int), .slice up q.length ucap][j]? = some y → (w3.alloc (.cells #[.int .i64 (a : Int), .slice up q.length ucap] 79)).cell? ((⟨w3.heap.size, 0, none⟩ : Addr).add j) = some y) := cell_two_new w3 _ _ _; have KB := blank_any hu; rw [HBL.out] at KB; have HKB : Hid (Calls Tryz.prog 53 #[.slice up q.length ucap] w3 _) := KB; have HSA : Hid (∀ o, w.heap.size ≤ (w3.alloc o).heap.size) := fun o => (by rw [World.size_alloc]; omega); clear hu hb3 KB) | (go_at_call 53; refine (show Calls _ _ _ _ _ from HKB).mono ?_; rintro e w4 ⟨rfl, hww⟩; cases hww) | (at_builtin; go_must (refine wpList_append_own _ rfl (.tmp 18) (.tmp 22) 33 rfl w.heap.size 79 i0 (.agg #[.int .i64 0, .slice none 0 0]) 2 32 Tryz.underlying33 hi hz0 hz1 hz2 rfl (by decide) u3 l.length (clL l) rfl HO2.out ⟨w3.heap.size, 0, none⟩ 1 1 [.int .i64 (a : Int), .slice up q.length ucap] rfl rfl HNW.out (by intro y hy; simp at hy; rcases hy with rfl | rfl <;> rfl) (by unfold maxLen; omega) (by omega) (HSA.out _) ?_; intro v5 w5 hown5 hgrow5 hnil5)))
        have HB3 : Below w.heap.size w w3 := HB.out.trans (H3.out.mono HB.out.size)
        have HO5 : Hid (w5.ownsRow w.heap.size 79 2 v5 (l.length + 1) (clL l ++ [.int .i64 (a : Int), .slice up q.length ucap])) := hown5
        have HB5 : Hid (Below w.heap.size w w5) := (HB3.alloc HB3.size _).grown hgrow5 (HSA.out _) (fun k hk => (HO2.out.lt k hk).1)
        have HF5 : Hid (w5.heap[w.heap.size]? = some (.cells #[.int .i64 r.pages, .slice cp cs.length cc, .slice lp lo.length lc, .int .i64 r.fuse, .bool r.down, .int .i64 r.done] 36 (0, 0))) := heap_grown (heap_alloc_old (heap_stays HF.out H3.out) _) hgrow5 (own_ne HO2.out (heap_alloc_old (heap_stays HF.out H3.out) _) (by decide))
        have HP5 : Hid (∀ x ∈ l ++ [((a : Int), .slice up q.length ucap, q)], BAt w5 x.2.1 x.2.2) := by
          intro x hx
          rcases List.mem_append.1 hx with hx | hx
          · exact (((HPG.out x hx).below H3.out).below (by go_grown)).other HO2.out (.inl rfl) hgrow5
          · simp at hx
            subst hx
            exact (HU.out.below (by go_grown)).other HO2.out (.inl rfl) hgrow5
        clear hown5 hgrow5 hnil5
        go_wp2
        go_roundw
        case rel => exact ⟨a + 1, by go_num, by omega, l ++ [((a : Int), .slice up q.length ucap, q)], by rw [HSN.out, HBL.out, ← HL1.out]; simp [plainC], by simp; omega, by rw [clL_snoc, List.length_append]; exact HO5.out, HP5.out, HF5.out, HB5.out⟩
        case measure => simp [intOf]; omega
      · have HBL := hid2 hbl
        clear hbl
        go_wp2_with (first | (go_at_call 52; refine (show Calls _ _ _ _ _ from HKL).mono ?_; rintro e w3 ⟨u, rfl, hu, hb3⟩; have hs3 := hb3.size; have H3 := hid2 hb3; have KB := blank_any hu; rw [HBL.out] at KB; have HKB : Hid (Calls Tryz.prog 53 #[u] w3 _) := KB; clear hu hb3 KB) | (go_at_call 53; refine (show Calls _ _ _ _ _ from HKB).mono ?_; rintro e w4 ⟨rfl, hww⟩; cases hww))
        go_roundw
        case rel => exact ⟨a + 1, by go_num, by omega, l, by rw [HSN.out, HBL.out]; simpa using HL1.out, by omega, own_below HOW.out H3.out, fun x hx => (HPG.out x hx).below H3.out, heap_stays HF.out H3.out, HB.out.trans (H3.out.mono HB.out.size)⟩
        case measure => simp [intOf]; omega
    · have hd : decide ((a : Int) < r.pages) = false := by simpa using hlt
      have HE : Hid (a = r.pages.toNat) := by show _ = _; omega
      go_wp2
      go_ret
      exact ⟨_, rfl, l, ⟨own_row HOW.out (by decide) (by decide), HPG.out⟩, by rw [HALL.out, ← HE.out]; exact HL1.out, HB.out⟩
end Go.Proofs.YtkbfihnoohhojaaGreatDoor.Fla

namespace Go.Proofs.YtkbfihnoohhojaaGreatDoor
open Go.RowKit Go.Extern.Stop Go.Stop Go.Extern

theorem Tryz.info38m : (Tryz.prog.info? 38).map (fun i => (i.zero, i.size, i.bytes)) = some (some (.agg #[.int .i64 0, .slice none 0 0, .slice none 0 0, .int .i64 0, .bool false, .int .i64 0, .int .i64 0]), 7, 88) := by kernel_rfl
theorem Tryz.und38 : ∃ fs, Tryz.prog.underlying 38 = some (.struct fs) := ⟨Tryz.prog.fieldsOf 38, by kernel_rfl⟩
/-- The seven cells of a ticket, apart. -/
theorem seven {w : World} {g : Nat} {t : TypeId} {x0 x1 x2 x3 x4 x5 x6 : Value} (h : w.heap[g]? = some (.cells #[x0, x1, x2, x3, x4, x5, x6] t (0, 0))) :
    (w.cell? ⟨g, 0, none⟩ = some x0 ∧ w.cell? ⟨g, 1, none⟩ = some x1 ∧ w.cell? ⟨g, 2, none⟩ = some x2 ∧ w.cell? ⟨g, 3, none⟩ = some x3 ∧ w.cell? ⟨g, 4, none⟩ = some x4 ∧ w.cell? ⟨g, 5, none⟩ = some x5 ∧ w.cell? ⟨g, 6, none⟩ = some x6) ∧ ∀ o, w.frozen? ⟨g, o, none⟩ = false := by
  refine ⟨⟨?_, ?_, ?_, ?_, ?_, ?_, ?_⟩, ?_⟩ <;> simp [World.cell?, World.frozen?, h]
section
variable {ops : Array Oper} {rest : List Oper} {op : Oper} {a : Act} {w : World} {Q : Exit → Act → World → Prop}
theorem st38 (hgd : op.guard = none) (x y : Operand) (ho : op.op = .store 38 x y) (b : Nat) (hx : a.eval x = .pointer (some ⟨b, 0, none⟩)) (c : Array Value) (x0 x1 x2 x3 x4 x5 x6 : Value)
    (hw : w.heap[b]? = some (.cells c 38 (0, 0))) (hc : c.size = 7) (hy : a.eval y = .agg #[x0, x1, x2, x3, x4, x5, x6]) (h1 : x0.oneCell' = true ∧ x1.oneCell' = true ∧ x2.oneCell' = true ∧ x3.oneCell' = true ∧ x4.oneCell' = true ∧ x5.oneCell' = true) (h6 : x6.oneCell' = true)
    (h : ∀ w', w'.heap[b]? = some (.cells #[x0, x1, x2, x3, x4, x5, x6] 38 (0, 0)) → w.grownBy w' (some b) → wpList Tryz.prog ops Q rest (a.put op.dst undef) w') : wpList Tryz.prog ops Q (op :: rest) a w :=
  Fla.stB 38 7 (Fla.size_of Tryz.info38m) hgd x y ho b hx c _ hw hy hc rfl (by
    obtain ⟨e0, e1, e2, e3, e4, e5⟩ := h1
    intro u hu
    simp at hu
    rcases hu with rfl | rfl | rfl | rfl | rfl | rfl | rfl <;> assumption) h
end
theorem load38 (w : World) (b : Nat) (x0 x1 x2 x3 x4 x5 x6 : Value) (t : TypeId) (fr : Nat × Nat) (hc : w.heap[b]? = some (.cells #[x0, x1, x2, x3, x4, x5, x6] t fr)) : (loadVar 38 ⟨b, 0, none⟩).run Tryz.prog w = .ok (.agg #[x0, x1, x2, x3, x4, x5, x6]) w := by
  obtain ⟨fs, hu⟩ := Tryz.und38
  exact run_loadVar_row (P := Tryz.prog) w b t 38 _ fr _ hc hu rfl (Fla.size_of Tryz.info38m)
theorem results38 {fn : Func} {p u : Tmp} (h : fn.results = #[.cell p 38, .tmp u]) (tmps : Array Value) (w : World) (b : Nat) (ht : tmps.getD p undef = .pointer (some ⟨b, 0, none⟩)) (x0 x1 x2 x3 x4 x5 x6 : Value) (t : TypeId) (fr : Nat × Nat)
    (hc : w.heap[b]? = some (.cells #[x0, x1, x2, x3, x4, x5, x6] t fr)) (y : Value) (hy : tmps.getD u undef = y) : (results fn tmps).run Tryz.prog w = .ok (.tuple #[.agg #[x0, x1, x2, x3, x4, x5, x6], y]) w := by
  rw [results_cell_tmp h, ht, hy]
  simp only [asAddr, Sem.run_pure, Result.andThen_ok, load38 w b x0 x1 x2 x3 x4 x5 x6 t fr hc]
end Go.Proofs.YtkbfihnoohhojaaGreatDoor
