/-
  Of of the program: the filter of keys.
-/
import Derived.Test.YtdoeneokblphnaaAdd
import Derived.Laws.ResultCell
import Derived.Laws.Tables
namespace Go.Proofs.Ytdoeneokblphnaa
open Go.RowKit

theorem Try.size33 : (Try.prog.info? 33).map (·.size) = some 2 := by kernel_rfl
theorem grown_setRow (w : World) (g : Nat) (cs : Array Value) : w.grownBy (w.setRow g cs) (some g) :=
  ⟨rfl, rfl, rfl, by simp [World.setRow], fun k _ hk => setRow_other w g k cs (by intro e; exact hk (by rw [e]))⟩
theorem run_st33 {w : World} {b : Nat} {c : Array Value} {x0 x1 : Value} (hw : w.heap[b]? = some (.cells c 33 (0, 0))) (hc : c.size = 2) (h1 : x0.oneCell' = true ∧ x1.oneCell' = true) :
    (Instr.storeAt 33 (.pointer (some ⟨b, 0, none⟩)) (.agg #[x0, x1])).run Try.prog w = .ok () (w.setRow b #[x0, x1]) := by
  have h2 : (#[x0, x1] : Array Value).all (·.oneCell') = true := by simp [h1]
  simp only [Instr.storeAt, Instr.sureAddr, Sem.run_bind, Sem.run_pure, Result.andThen]
  exact run_storeVar_row _ _ 33 33 c _ hw Try.size33 hc h2
section
variable {ops : Array Oper} {rest : List Oper} {op : Oper} {a : Act} {w : World}
/-- A filter stored whole. -/
theorem st33 {Q : Exit → Act → World → Prop} (hgd : op.guard = none) (x y : Operand) (ho : op.op = .store 33 x y) (b : Nat) (hx : a.eval x = .pointer (some ⟨b, 0, none⟩)) (c : Array Value) (x0 x1 : Value)
    (hw : w.heap[b]? = some (.cells c 33 (0, 0))) (hc : c.size = 2) (hy : a.eval y = .agg #[x0, x1]) (h1 : x0.oneCell' = true ∧ x1.oneCell' = true)
    (h : ∀ w', w'.heap[b]? = some (.cells #[x0, x1] 33 (0, 0)) → w.grownBy w' (some b) → wpList Try.prog ops Q rest (a.put op.dst undef) w') : wpList Try.prog ops Q (op :: rest) a w := by
  refine wpList_plain hgd fun K hK => ?_
  unfold Oper.wp execOp
  simp only [ho, hx, hy, Sem.run_bind, run_st33 hw hc h1, Result.andThen_ok, Sem.run_pure]
  exact hK _ _ (h _ (setRow_heap w b c _ 33 (0, 0) hw) (grown_setRow w b _))
theorem step_st33 {K : Act → World → Prop} {Q : Exit → Act → World → Prop} {E : Prop} (hgd : op.guard = none) (x y : Operand) (ho : op.op = .store 33 x y) (b : Nat) (hx : a.eval x = .pointer (some ⟨b, 0, none⟩)) (c : Array Value) (x0 x1 : Value)
    (hw : w.heap[b]? = some (.cells c 33 (0, 0))) (hc : c.size = 2) (hy : a.eval y = .agg #[x0, x1]) (h1 : x0.oneCell' = true ∧ x1.oneCell' = true)
    (h : ∀ w', w'.heap[b]? = some (.cells #[x0, x1] 33 (0, 0)) → w.grownBy w' (some b) → K (a.put op.dst undef) w') :
    if Region.wanted op (yielded ops a.tmps) = true then Oper.wp Try.prog op a w K Q else E := by
  have hwt : Region.wanted op (yielded ops a.tmps) = true := by simp [Region.wanted, hgd]
  rw [if_pos hwt]
  unfold Oper.wp execOp
  simp only [ho, hx, hy, Sem.run_bind, run_st33 hw hc h1, Result.andThen_ok, Sem.run_pure]
  exact h _ (setRow_heap w b c _ 33 (0, 0) hw) (grown_setRow w b _)
end
/-- The hashes of keys. -/
def hs (l : List ByteArray) : List Nat := l.map fun s => hash (bl s)
theorem hs_snoc (l : List ByteArray) (x : ByteArray) : hs (l ++ [x]) = hs l ++ [hash (bl x)] := by simp [hs]
theorem hs_append (l m : List ByteArray) : hs (l ++ m) = hs l ++ hs m := by simp [hs]
theorem ofF_snoc (l : List Nat) (h : Nat) : ofF (l ++ [h]) = addF (ofF l) h := by unfold ofF; rw [List.foldl_append, List.foldl_cons, List.foldl_nil]
theorem addF_split (f : Nat × Nat) (h : Nat) : ∃ x y, addF f h = (x, y) := ⟨_, _, rfl⟩
theorem wide_add {f : Nat × Nat} (hf : Wide f) (h : Nat) : Wide (addF f h) := wide_putAll (fun _ hp => places_lt hp) hf
theorem load33 (w : World) (b : Nat) (x0 x1 : Value) (t : TypeId) (fr : Nat × Nat) (hc : w.heap[b]? = some (.cells #[x0, x1] t fr)) : w.cell? ⟨b, 0, none⟩ = some x0 ∧ w.cell? ⟨b, 1, none⟩ = some x1 := by
  constructor <;> simp [World.cell?, hc]

set_option maxHeartbeats 4000000 in
set_option maxRecDepth 10000 in
theorem of_any {w : World} {b : Nat} {v : Value} {l : List ByteArray} {fx fy : Nat} (h : SlAt w b v (S l)) (hk : ∀ k ∈ l, k.size ≤ 200) (hl : l.length ≤ 200) (hof : ofF (hs l) = (fx, fy)) :
    Calls Try.prog 17 #[v] w fun e w' => e = .returned (.agg #[.int .u64 (fx : Int), .int .u64 (fy : Int)]) ∧ Below w.heap.size w w' := by
  obtain ⟨p, cap, hu, hc1, hc2, hel⟩ := h.each
  rw [S_length] at hu hc1
  unfold maxLen at hc2
  subst hu
  have EL : Hid (∀ (k : Nat) (x : ByteArray), l[k]? = some x → ∃ off, p = some ⟨b, off, none⟩ ∧ b < w.heap.size ∧ w.cell? ⟨b, off + k, none⟩ = some (.string x)) := fun k x hx => hel k _ (S_at hx)
  have HK : Hid (∀ k ∈ l, k.size ≤ 200) := hk
  have HOF := hid2 hof
  clear hel h hk hof
  obtain ⟨w0, hw0⟩ : ∃ w0, w0 = (w.alloc (.cells #[.int .u64 0, .int .u64 0] 33)).alloc (.cells #[.int .u64 0, .int .u64 0] 33) := ⟨_, rfl⟩
  have h1 : w0.heap[w.heap.size]? = some (.cells #[.int .u64 0, .int .u64 0] 33 (0, 0)) := by
    rw [hw0, Below.heap_alloc _ _ _ (by simp)]; exact heap_alloc_new w _
  have h2 : w0.heap[w.heap.size + 1]? = some (.cells #[.int .u64 0, .int .u64 0] 33 (0, 0)) := by
    have := heap_alloc_new (w.alloc (.cells #[.int .u64 0, .int .u64 0] 33)) (.cells #[.int .u64 0, .int .u64 0] 33)
    rw [show (w.alloc (.cells #[.int .u64 0, .int .u64 0] 33)).heap.size = w.heap.size + 1 by simp] at this
    rw [hw0]; exact this
  have HB : Hid (Below w.heap.size w w0) := by show Below _ _ _; rw [hw0]; go_grown
  go_enter Try.func17, Try.ntmps17
  go_wp2_with fail
  obtain ⟨gb, hgb⟩ : ∃ gb, gb = w.heap.size := ⟨_, rfl⟩
  have HGB := hid2 hgb
  have HW := hid2 hw0
  rw [← hgb] at h1 h2 ⊢
  clear hgb hw0
  go_loopg [8] l.length (fun gk i wr => ∃ k f g : Nat, k ≤ l.length ∧ gk = l.length - k ∧ i = .int .i64 k ∧ f < 18446744073709551616 ∧ g < 18446744073709551616 ∧ wr.heap[gb]? = some (.cells #[.int .u64 0, .int .u64 0] 33 (0, 0)) ∧ wr.heap[gb + 1]? = some (.cells #[.int .u64 (f : Int), .int .u64 (g : Int)] 33 (0, 0)) ∧ ofF (hs (l.take k)) = (f, g) ∧ Below w.heap.size w wr)
  case atStart => rw [← HW.out]; exact ⟨0, 0, 0, by omega, rfl, rfl, by omega, by omega, h1, h2, rfl, HB.out⟩
  case round =>
    clear h1 h2 HB HW
    obtain ⟨k, f, g, hk, hgk, rfl, hf, hg, h1, h2, hr, hbr⟩ := hrel
    have HO := hid2 hr
    have HG := hid2 hgk
    have H1 := hid2 h2
    have H2 := hid2 h1
    have HBR := hid2 hbr
    clear hr hgk
    by_cases hlt : k < l.length
    · obtain ⟨x, hx⟩ : ∃ x, l[k]? = some x := ⟨l[k], List.getElem?_eq_getElem hlt⟩
      obtain ⟨off, rfl, hcl, hce⟩ := EL.out k x hx
      have hx2 : x.size ≤ 1000 := Nat.le_trans (HK.out x (List.mem_of_getElem? hx)) (by omega)
      have HX : Hid (l[k]? = some x) := hx
      have hce2 := (hbr.cell (p := ⟨b, off + k, none⟩) hcl).trans hce
      have hcl2 : b < wr.heap.size := Nat.lt_of_lt_of_le hcl hbr.size
      obtain ⟨x1, y1, hA⟩ := addF_split (f, g) (hash (bl x))
      have hw1 := wide_add (f := (f, g)) ⟨hf, hg⟩ (hash (bl x))
      rw [hA] at hw1
      have HA := hid2 hA
      obtain ⟨⟨q0, q1⟩, _⟩ := two33 h2
      have hlt1 := lt_of_block h2
      clear hA hx hce h1 h2 hbr
      go_wp2_with fail
      refine wp_region_any (by kernel_rfl) ?_
      change wpAny _ _ _ _ _ _ _ (World.drew _)
      refine wpAny_take (i := 1) (v := .string x) rfl (by kernel_rfl) (by kernel_rfl) (by kernel_rfl) (fun _ _ _ h => h) (Or.inl ⟨by kernel_rfl, ?_⟩) ?_
      · intro w; go_simp
      change wpAny _ _ _ _ _ _ (Act.put _ (some 13) _) _
      simp only [Act.put, List.setIfInBounds_toArray, List.set_cons_succ, List.set_cons_zero]
      refine wpAny_ready (rs := [0, 2]) (by kernel_rfl) (by simp) ?_
      refine AllReady.cons rfl (fun K hK => ?_) (AllReady.cons rfl (fun K hK => ?_) AllReady.nil)
      · go_simp
        go_wp2_with (fail)
        refine wpAny_ready (rs := [2]) (by kernel_rfl) (by simp) ?_
        refine AllReady.cons rfl (fun K hK => ?_) AllReady.nil
        go_simp
        go_wp2_with (go_at_call 9; refine (hash_any _ x hx2).mono ?_; rintro e w2 ⟨rfl, hw2⟩; cases hw2)
        refine wpAny_ready (rs := [3]) (by kernel_rfl) (by simp) ?_
        refine AllReady.cons rfl (fun K hK => ?_) AllReady.nil
        go_simp
        go_wp2_with (go_at_call 23; refine (add_any _ f g _ x1 y1 hf hg (hash_lt _) HA.out).mono ?_; rintro e w3 ⟨rfl, B3⟩)
        have z3 := heap_stays (w := wr.drew) H1.out B3
        have r3 := heap_stays (w := wr.drew) H2.out B3
        have D3 : Below w.heap.size w w3 := HBR.out.trans (((Below.refl wr.heap.size wr).drew.trans B3).mono HBR.out.size)
        refine wpAny_ready (rs := [4]) (by kernel_rfl) (by simp) ?_
        refine AllReady.cons rfl (fun K hK => ?_) AllReady.nil
        refine step_st33 rfl (.tmp 3) (.tmp 15) rfl (gb + 1) rfl _ _ _ z3 rfl rfl ⟨rfl, rfl⟩ ?_
        intro w4 z4 g4
        refine hK _ _ ?_
        clear hK K
        simp only [Act.put]
        refine wpAny_done (by kernel_rfl) ?_ _
        have r4 := heap_grownBy r3 g4 (by omega)
        have D4 := D3.grown g4 D3.size (fun k hk => by cases hk; have := HGB.out; omega)
        clear q0 q1 hlt1
        go_wp2
        go_roundg (l.length - (k + 1))
        case measure => rw [HG.out]; omega
        case rel => exact ⟨k + 1, x1, y1, by omega, rfl, by go_num, hw1.1, hw1.2, r4, z4, by rw [take_snoc HX.out, hs_snoc, ofF_snoc, HO.out, HA.out], D4⟩
      · go_simp
        go_wp2_with (go_at_call 9; refine (hash_any _ x hx2).mono ?_; rintro e w2 ⟨rfl, hw2⟩; cases hw2)
        refine wpAny_ready (rs := [0]) (by kernel_rfl) (by simp) ?_
        refine AllReady.cons rfl (fun K hK => ?_) AllReady.nil
        go_simp
        go_wp2_with (fail)
        refine wpAny_ready (rs := [3]) (by kernel_rfl) (by simp) ?_
        refine AllReady.cons rfl (fun K hK => ?_) AllReady.nil
        go_simp
        go_wp2_with (go_at_call 23; refine (add_any _ f g _ x1 y1 hf hg (hash_lt _) HA.out).mono ?_; rintro e w3 ⟨rfl, B3⟩)
        have z3 := heap_stays (w := wr.drew) H1.out B3
        have r3 := heap_stays (w := wr.drew) H2.out B3
        have D3 : Below w.heap.size w w3 := HBR.out.trans (((Below.refl wr.heap.size wr).drew.trans B3).mono HBR.out.size)
        refine wpAny_ready (rs := [4]) (by kernel_rfl) (by simp) ?_
        refine AllReady.cons rfl (fun K hK => ?_) AllReady.nil
        refine step_st33 rfl (.tmp 3) (.tmp 15) rfl (gb + 1) rfl _ _ _ z3 rfl rfl ⟨rfl, rfl⟩ ?_
        intro w4 z4 g4
        refine hK _ _ ?_
        clear hK K
        simp only [Act.put]
        refine wpAny_done (by kernel_rfl) ?_ _
        have r4 := heap_grownBy r3 g4 (by omega)
        have D4 := D3.grown g4 D3.size (fun k hk => by cases hk; have := HGB.out; omega)
        clear q0 q1 hlt1
        go_wp2
        go_roundg (l.length - (k + 1))
        case measure => rw [HG.out]; omega
        case rel => exact ⟨k + 1, x1, y1, by omega, rfl, by go_num, hw1.1, hw1.2, r4, z4, by rw [take_snoc HX.out, hs_snoc, ofF_snoc, HO.out, HA.out], D4⟩
    · obtain ⟨⟨q0, q1⟩, _⟩ := two33 h2
      obtain ⟨⟨r0, r1⟩, fz⟩ := two33 h1
      have hlt1 := lt_of_block h2
      have hlt2 := lt_of_block h1
      have hfg : (f, g) = (fx, fy) := by
        have e := HO.out
        rw [List.take_of_length_le (by omega : l.length ≤ k)] at e
        rw [← e]
        exact HOF.out
      obtain ⟨rfl, rfl⟩ := Prod.mk.inj hfg
      clear hfg h1 h2 hbr
      go_wp2_with (refine st33 rfl (.tmp 2) (.tmp 17) rfl gb rfl _ _ _ H2.out rfl rfl ⟨rfl, rfl⟩ ?_; intro w4 z4 g4)
      have D4 := HBR.out.grown g4 HBR.out.size (fun k hk => by cases hk; exact Nat.le_of_eq HGB.out.symm)
      obtain ⟨⟨t0, t1⟩, _⟩ := two33 z4
      refine bodyPost_ret (v := .agg #[.int .u64 (f : Int), .int .u64 (g : Int)]) (by simp [results, Try.results17, go_sem, t0, t1]) rfl ⟨rfl, D4⟩
end Go.Proofs.Ytdoeneokblphnaa
