/-
  The document's tier: a struct of two cells; what entries take; where a key's entry is.
-/
import Derived.Test.YtkgecpplgjfhiaaGreatDoorQSet
import Derived.Test.YtkgecpplgjfhiaaGreatDoorQIEnts
namespace Go.Proofs.YtkgecpplgjfhiaaGreatDoor
open Go.RowKit
open Ite (Ent zeroE checkE sizeE)
open Lis (Lst but Tag)

theorem size_rm : (Tryz.prog.info? 37).map (·.size) = some 2 := by kernel_rfl
theorem und_rm : ∃ fs, Tryz.prog.underlying 37 = some (.struct fs) := ⟨Tryz.prog.fieldsOf 37, by kernel_rfl⟩
/-- A block of two cells: the document's tier. -/
def Two (w : World) (b : Nat) (x y : Value) : Prop := w.heap[b]? = some (.cells #[x, y] 37 (0, 0))
theorem Two.cells {w : World} {b : Nat} {x y : Value} (h : Two w b x y) : b < w.heap.size ∧ w.cell? ⟨b, 0, none⟩ = some x ∧ w.cell? ⟨b, 1, none⟩ = some y ∧ ∀ o, w.frozen? ⟨b, o, none⟩ = false := by
  unfold Two at h
  refine ⟨lt_of_block h, ?_, ?_, fun o => ?_⟩
  · simp [World.cell?, h]
  · simp [World.cell?, h]
  · simp [World.frozen?, h]
theorem Two.set1 {w : World} {b : Nat} {x y : Value} (h : Two w b x y) (v : Value) : Two (w.setCell ⟨b, 1, none⟩ v) b x v := by
  unfold Two at h ⊢
  simp [World.setCell, Array.getElem?_modify, h]
theorem Two.stays {w w' : World} {b : Nat} {x y : Value} (h : Two w b x y) (hb : Below w.heap.size w w') : Two w' b x y := heap_stays h hb
theorem good_rm : ((37 : TypeId) ≠ 81 ∧ (37 : TypeId) ≠ 112 ∧ (37 : TypeId) ≠ 115 ∧ (37 : TypeId) ≠ 117 ∧ (37 : TypeId) ≠ 3 ∧ (37 : TypeId) ≠ 103) ∧ (37 : TypeId) ≠ 5 := by decide
theorem Two.fr {B : Nat} {w w' : World} {b : Nat} {x y : Value} (h : Two w b x y) (f : Fr B w w') : Two w' b x y := f.ent h good_rm.1
theorem Two.tag {w : World} {b : Nat} {x y : Value} (h : Two w b x y) : Tag w b 37 := ⟨_, _, h⟩
theorem Two.grown {w w' : World} {b : Nat} {row : Option Nat} {x y : Value} (h : Two w b x y) (hg : w.grownBy w' row) (hr : some b ≠ row) : Two w' b x y := by
  unfold Two at h ⊢
  rw [hg.block b (lt_of_block h) hr]
  exact h
theorem run_st37 {w : World} {b : Nat} {c : Array Value} {x0 x1 : Value} (hw : w.heap[b]? = some (.cells c 37 (0, 0))) (hc : c.size = 2) (h1 : x0.oneCell' = true ∧ x1.oneCell' = true) :
    (Instr.storeAt 37 (.pointer (some ⟨b, 0, none⟩)) (.agg #[x0, x1])).run Tryz.prog w = .ok () (w.setRow b #[x0, x1]) := by
  have h2 : (#[x0, x1] : Array Value).all (·.oneCell') = true := by simp [h1]
  simp only [Instr.storeAt, Instr.sureAddr, Sem.run_bind, Sem.run_pure, Result.andThen]
  exact run_storeVar_row _ _ 37 37 c _ hw size_rm hc h2
section
variable {ops : Array Oper} {rest : List Oper} {op : Oper} {a : Act} {w : World}
/-- The document's tier stored whole. -/
theorem st37 {Q : Exit → Act → World → Prop} (hgd : op.guard = none) (x y : Operand) (ho : op.op = .store 37 x y) (b : Nat) (hx : a.eval x = .pointer (some ⟨b, 0, none⟩)) (c : Array Value) (x0 x1 : Value)
    (hw : w.heap[b]? = some (.cells c 37 (0, 0))) (hc : c.size = 2) (hy : a.eval y = .agg #[x0, x1]) (h1 : x0.oneCell' = true ∧ x1.oneCell' = true)
    (h : ∀ w', Two w' b x0 x1 → w.grownBy w' (some b) → wpList Tryz.prog ops Q rest (a.put op.dst undef) w') : wpList Tryz.prog ops Q (op :: rest) a w := by
  refine wpList_plain hgd fun K hK => ?_
  unfold Oper.wp execOp
  simp only [ho, hx, hy, Sem.run_bind, run_st37 hw hc h1, Result.andThen_ok, Sem.run_pure]
  exact hK _ _ (h _ (setRow_heap w b c _ 37 (0, 0) hw) (Ite.grown_setRow w b _))
theorem step_st37 {K : Act → World → Prop} {Q : Exit → Act → World → Prop} {E : Prop} (hgd : op.guard = none) (x y : Operand) (ho : op.op = .store 37 x y) (b : Nat) (hx : a.eval x = .pointer (some ⟨b, 0, none⟩)) (c : Array Value) (x0 x1 : Value)
    (hw : w.heap[b]? = some (.cells c 37 (0, 0))) (hc : c.size = 2) (hy : a.eval y = .agg #[x0, x1]) (h1 : x0.oneCell' = true ∧ x1.oneCell' = true)
    (h : ∀ w', Two w' b x0 x1 → w.grownBy w' (some b) → K (a.put op.dst undef) w') : if Region.wanted op (yielded ops a.tmps) = true then Oper.wp Tryz.prog op a w K Q else E := by
  have hwt : Region.wanted op (yielded ops a.tmps) = true := by simp [Region.wanted, hgd]
  rw [if_pos hwt]
  unfold Oper.wp execOp
  simp only [ho, hx, hy, Sem.run_bind, run_st37 hw hc h1, Result.andThen_ok, Sem.run_pure]
  exact h _ (setRow_heap w b c _ 37 (0, 0) hw) (Ite.grown_setRow w b _)
end
theorem load37 (w : World) (b : Nat) (x0 x1 : Value) (t : TypeId) (fr : Nat × Nat) (hc : w.heap[b]? = some (.cells #[x0, x1] t fr)) : (loadVar 37 ⟨b, 0, none⟩).run Tryz.prog w = .ok (.agg #[x0, x1]) w := by
  obtain ⟨fs, hu⟩ := und_rm
  exact run_loadVar_row (P := Tryz.prog) w b t 37 _ fr _ hc hu rfl size_rm
theorem results37 {fn : Func} {p : Tmp} (h : fn.results = #[.cell p 37]) (tmps : Array Value) (w : World) (b : Nat) (ht : tmps.getD p undef = .pointer (some ⟨b, 0, none⟩)) (x0 x1 : Value) (t : TypeId) (fr : Nat × Nat)
    (hc : w.heap[b]? = some (.cells #[x0, x1] t fr)) : (results fn tmps).run Tryz.prog w = .ok (.agg #[x0, x1]) w := by
  rw [Ite.results_cell h, ht]
  simp only [asAddr, Sem.run_pure, Result.andThen_ok, load37 w b x0 x1 t fr hc]

/-- The document's tier as a value. -/
theorem takes_t (x : Ent) (p : Option Addr) (c : Nat) (w : World) (he : checkE x = 0) (hb : Ite.Bs w (.slice p x.val.length c) x.val) :
    Calls Tryz.prog 27 #[.agg #[.string x.key, .int .i64 x.ver, .int .i64 x.asof, .int .i64 x.ends, .slice p x.val.length c]] w fun e w' => e = .returned (.int .i64 (tk x)) ∧ Below w.heap.size w w' := by
  have B0 : Below w.heap.size w (w.alloc (.cells #[.string x.key, .int .i64 x.ver, .int .i64 x.asof, .int .i64 x.ends, .slice p x.val.length c] 25)) := by go_grown
  have hck := Ite.chk_ok he
  have KS := hid2 (Ite.rsizeE_any x.key x.ver x.asof x.ends (by omega) (by omega) (by omega) (by omega) (by omega) (hb.stays B0))
  have KC := hid2 (fun W => Sla.rclass_any W (Ite.sizeP x.key.size x.ver x.asof x.ends x.val.length : Int))
  have KZ := hid2 (fun W => Sla.rsize_any W (Sla.cls (Ite.sizeP x.key.size x.ver x.asof x.ends x.val.length : Int)))
  have htk : tk x = Sla.sz (Sla.cls (Ite.sizeP x.key.size x.ver x.asof x.ends x.val.length : Int)) := rfl
  rw [htk]
  have HB0 := hid2 B0
  clear B0 hb he hck htk
  generalize Ite.sizeP x.key.size x.ver x.asof x.ends x.val.length = m at *
  generalize Sla.cls (m : Int) = cc at *
  generalize Sla.sz cc = zz at *
  go_enter Tryz.func27, Tryz.ntmps27
  go_wp2_with fail
  refine (show Calls _ _ _ _ _ from KS.out).mono ?_
  rintro e1 w1 ⟨rfl, hb1⟩
  have HB1 := hid2 (HB0.out.trans (hb1.mono HB0.out.size))
  clear hb1
  go_wp2_with fail
  refine (show Calls _ _ _ _ _ from KC.out _).mono ?_
  rintro e2 w2 ⟨rfl, rfl⟩
  go_wp2_with fail
  refine (show Calls _ _ _ _ _ from KZ.out _).mono ?_
  rintro e3 w3 ⟨rfl, rfl⟩
  go_wp2
  go_ret
  exact ⟨rfl, HB1.out⟩

theorem rused_t {w : World} {B : Nat} {lim : Int} {p : Option Addr} {cap : Nat} {L : List Ent} (h : Es w B (.slice p L.length cap) L) (hf : ∀ x ∈ L, checkE x = 0) (hl : L.length ≤ 1000) :
    Calls Tryz.prog 16 #[.agg #[.int .i64 lim, .slice p L.length cap]] w fun e w' => e = .returned (.int .i64 (usedL L)) ∧ Below w.heap.size w w' := by
  have B0 : Below w.heap.size w (w.alloc (.cells #[.int .i64 lim, .slice p L.length cap] 37)) := by go_grown
  have Z0 : Hid (Two (w.alloc (.cells #[.int .i64 lim, .slice p L.length cap] 37)) w.heap.size (.int .i64 lim) (.slice p L.length cap)) := heap_alloc_new w _
  have HE := hid2 (h.stays B0)
  have HB0 := hid2 B0
  have HF := hid2 hf
  have hcap : L.length ≤ cap ∧ cap ≤ maxLen := by obtain ⟨_, _, e, h1, h2, _⟩ := h; cases e; exact ⟨h1, h2⟩
  obtain ⟨hc1, hc2⟩ := hcap
  unfold maxLen at hc2
  clear h B0 hf
  go_enter Tryz.func16, Tryz.ntmps16
  go_wp2_with fail
  obtain ⟨w0, hw0⟩ : ∃ w0, w0 = w.alloc (.cells #[.int .i64 lim, .slice p L.length cap] 37) := ⟨_, rfl⟩
  rw [← hw0] at Z0 HE HB0 ⊢
  clear hw0
  go_loopg [3, 4] L.length (fun gi a i wr => ∃ k : Nat, k ≤ L.length ∧ gi = L.length - k ∧ a = .int .i64 (usedL (L.take k)) ∧ i = .int .i64 (k : Int) ∧ Below w0.heap.size w0 wr)
  case atStart => exact ⟨0, Nat.zero_le _, rfl, rfl, rfl, Below.refl _ _⟩
  case round =>
    obtain ⟨k, hk, hgi, rfl, rfl, hbr⟩ := hrel
    have HG := hid2 hgi
    have HB := hid2 hbr
    have ZR := hid2 (Z0.out.stays hbr)
    obtain ⟨z0, z1, z2, z3⟩ := ZR.out.cells
    clear hgi hbr
    by_cases hkl : k = L.length
    · subst hkl
      rw [List.take_length]
      go_wp2
      go_ret
      exact ⟨rfl, HB0.out.trans (HB.out.mono HB0.out.size)⟩
    · have hlt : k < L.length := by omega
      obtain ⟨x, hx⟩ : ∃ x, L[k]? = some x := ⟨_, List.getElem?_eq_getElem hlt⟩
      have hfx := HF.out x (List.mem_of_getElem? hx)
      obtain ⟨b, off, q, c, rfl, hrange, hbq⟩ := (HE.out.stays HB.out).cells hx
      have hus := usedL_take_succ hx
      have h8 := (fine_class hfx).2.2.2
      have h0 := tk_nonneg x
      have hu0 := usedL_nonneg (L.take k)
      have hule : usedL (L.take k) ≤ 8192 * 1000 := by
        have h1 : ∀ M : List Ent, (∀ y ∈ M, checkE y = 0) → usedL M ≤ 8192 * (M.length : Int) := by
          intro M
          induction M with
          | nil => intro _; simp [usedL_nil]
          | cons y r ih =>
            intro hM
            have a := (fine_class (hM y (List.mem_cons_self ..))).2.2.2
            have b := ih fun z hz => hM z (List.mem_cons_of_mem _ hz)
            rw [usedL_cons, List.length_cons]; omega
        have := h1 (L.take k) (fun y hy => HF.out y (List.mem_of_mem_take hy))
        rw [List.length_take] at this
        omega
      have KT := hid2 (takes_t x q c wr hfx hbq.bs)
      have HR := hid2 hrange
      have HUS := hid2 hus
      have hI : (0 : Int) ≤ (k : Int) ∧ (k : Int) < (L.length : Int) := by omega
      have htn : ((k : Int)).toNat = k := by omega
      generalize usedL (L.take k) = us at *
      generalize tk x = tx at *
      clear hrange hbq hus hx hfx
      go_wp2_with (refine wpList_load_mid rfl 25 (.tmp 16) rfl b (off + k * 5) rfl _ _ HR.out Ite.Tryz.und24.choose_spec rfl Ite.Tryz.size24 ?_)
      refine (show Calls _ _ _ _ _ from KT.out).mono ?_
      rintro e w1 ⟨rfl, hb⟩
      have HB1 := hid2 (HB.out.trans (hb.mono HB.out.size))
      clear hb KT z0 z1 z2 z3
      go_wp2
      go_roundg (L.length - (k + 1))
      case measure => rw [HG.out]; omega
      case rel => exact ⟨k + 1, by omega, rfl, by rw [HUS.out], rfl, HB1.out⟩

theorem find_any {w : World} {B : Nat} {v : Value} {L : List Ent} (h : Es w B v L) (k : ByteArray) (_hl : L.length ≤ 1000000) :
    Calls Tryz.prog 26 #[v, .string k] w fun e w' => e = .returned (.int .i64 (findE L k)) ∧ w' = w := by
  obtain ⟨p, cap, rfl, h2, h3, h4⟩ := id h
  unfold maxLen at h3
  have HE := hid2 h
  clear h h4
  go_enter Tryz.func26, Tryz.ntmps26
  go_wp2_with fail
  go_loopg [5] L.length (fun gi i wr => ∃ m : Nat, m ≤ L.length ∧ gi = L.length - m ∧ i = .int .i64 (m : Int) ∧ wr = w ∧ ∀ j y, j < m → L[j]? = some y → y.key ≠ k)
  case atStart => exact ⟨0, Nat.zero_le _, rfl, rfl, rfl, fun j y hj => absurd hj (Nat.not_lt_zero _)⟩
  case round =>
    obtain ⟨m, hm, hgi, rfl, rfl, hno⟩ := hrel
    have HG := hid2 hgi
    have HN := hid2 hno
    clear hgi hno
    by_cases hml : m = L.length
    · subst hml
      have hnone : findE L k = -1 := by
        unfold findE
        rw [idx_none.2 (fun x hx => by
          obtain ⟨j, hj⟩ := List.mem_iff_getElem?.1 hx
          exact HN.out j x (List.getElem?_eq_some_iff.1 hj).1 hj)]
      have HNO := hid2 hnone
      clear hnone
      go_wp2
      go_ret
      exact ⟨by rw [HNO.out]; rfl, rfl⟩
    · have hlt : m < L.length := by omega
      obtain ⟨x, hx⟩ : ∃ x, L[m]? = some x := ⟨_, List.getElem?_eq_getElem hlt⟩
      obtain ⟨b, off, q, c, rfl, hrange, _⟩ := HE.out.cells hx
      have k0 := hrange 0 _ rfl
      rw [Nat.add_zero] at k0
      have hI : (0 : Int) ≤ (m : Int) ∧ (m : Int) < (L.length : Int) := by omega
      have htn : ((m : Int)).toNat = m := by omega
      clear hrange
      by_cases hkey : x.key = k
      · have hfound : findE L k = (m : Int) := by
          unfold findE
          rw [idx_some.2 ⟨x, hx, hkey, HN.out⟩]
        have HFO := hid2 hfound
        rw [hkey] at k0
        clear hfound hx
        go_wp2
        go_ret
        exact ⟨by rw [HFO.out]; rfl, rfl⟩
      · have d3 : (x.key.toList == k.toList) = false := by
          rw [beq_eq_false_iff_ne]
          exact fun e => hkey (key_inj e)
        have HX := hid2 hx
        have HK := hid2 hkey
        clear hx hkey
        go_wp2
        go_roundg (L.length - (m + 1))
        case measure => rw [HG.out]; omega
        case rel =>
          refine ⟨m + 1, by omega, rfl, rfl, rfl, fun j y hj hy => ?_⟩
          rcases Nat.lt_succ_iff_lt_or_eq.1 hj with h | rfl
          · exact HN.out j y h hy
          · rw [HX.out] at hy
            cases hy
            exact HK.out
end Go.Proofs.YtkgecpplgjfhiaaGreatDoor
