/-
  An entry's bytes, of the program and of the document.
-/
import Derived.Test.YtkgecpplgjfhiaaGreatDoorQIRChk
import Derived.Laws.ResultCell
import Derived.Laws.Tables
import Derived.Laws.Rows
namespace Go.Proofs.YtkgecpplgjfhiaaGreatDoor.Ite
open Go.RowKit

theorem strB_inj {a b : List Int} (ha : Byt a) (hb : Byt b) (h : strB a = strB b) : a = b := by
  rw [← kb_strB ha, ← kb_strB hb, h]
theorem take_eq_of {a b : List Int} (hl : a.length = b.length) {k : Nat} (hk : a.length ≤ k) (h : a.take k = b.take k) : a = b := by
  rwa [List.take_of_length_le hk, List.take_of_length_le (by omega)] at h

set_option maxHeartbeats 1000000 in
theorem same_any {w : World} {b c : Nat} {u v : Value} {l l' : List Int} (h : SlAt w b u (U l)) (g : SlAt w c v (U l')) : Calls Tryz.prog 59 #[u, v] w fun e w' => e = .returned (.bool (decide (l = l'))) ∧ ∃ m, w' = w.drewN m := by
  obtain ⟨p, cap, hu, h2, h3, h5⟩ := h.each
  obtain ⟨q, cap2, hv, k2, k3, k5⟩ := g.each
  rw [U_length] at hu h2 hv k2
  subst hu hv
  unfold maxLen at h3 k3
  have HE : Hid (∀ (k : Nat) (x : Int), l[k]? = some x → ∃ off, p = some ⟨b, off, none⟩ ∧ b < w.heap.size ∧ w.cell? ⟨b, off + k, none⟩ = some (.int .u8 x)) := fun k x hx => h5 k _ (U_at hx)
  have HF : Hid (∀ (k : Nat) (x : Int), l'[k]? = some x → ∃ off, q = some ⟨c, off, none⟩ ∧ c < w.heap.size ∧ w.cell? ⟨c, off + k, none⟩ = some (.int .u8 x)) := fun k x hx => k5 k _ (U_at hx)
  clear h h5 g k5
  by_cases hlen : l.length = l'.length
  · have HL := hid2 hlen
    have hl2 : ((l.length : Int) != (l'.length : Int)) = false := by rw [hlen]; simp
    clear hlen
    go_enter Tryz.func59, Tryz.ntmps59
    go_wp2_with fail
    go_loopw [5] (fun i wr => ∃ k : Nat, i = .int .i64 (k : Int) ∧ k ≤ l.length ∧ l.take k = l'.take k ∧ ∃ n, wr = w.drewN n) (fun i _ => l.length - (intOf i).toNat)
    case atStart => exact ⟨0, rfl, Nat.zero_le _, rfl, 0, rfl⟩
    case round =>
      clear hl2
      obtain ⟨k, rfl, hk, htk, n, rfl⟩ := hrel
      have HT := hid2 htk
      clear htk
      by_cases hlt : k < l.length
      · obtain ⟨x, hx⟩ : ∃ x, l[k]? = some x := ⟨_, List.getElem?_eq_getElem hlt⟩
        obtain ⟨y, hy⟩ : ∃ y, l'[k]? = some y := ⟨_, List.getElem?_eq_getElem (by rw [← HL.out]; exact hlt)⟩
        obtain ⟨off, rfl, hbb, hc⟩ := HE.out k _ hx
        obtain ⟨off2, rfl, hbb2, hc2⟩ := HF.out k _ hy
        have hki : (k : Int) < (l.length : Int) := by omega
        have hkc : (k : Int) < (l'.length : Int) := by have := HL.out; omega
        by_cases hxy : x = y
        · have HT2 : Hid (l.take (k + 1) = l'.take (k + 1)) := by
            show _ = _
            rw [take_snoc hx, take_snoc hy, HT.out, hxy]
          subst hxy
          clear hx hy
          go_wp2_with fail
          go_quiet (fail)
          go_wp2
          go_roundw
          case rel => exact ⟨k + 1, by go_num, by omega, HT2.out, _, rfl⟩
          case measure => simp [intOf]; omega
        · have hd : (x != y) = true := by rw [bne_iff_ne]; omega
          have HN : Hid (decide (l = l') = false) := by
            show _ = _
            apply decide_eq_false
            intro e
            rw [e, hy] at hx
            exact hxy (Option.some.inj hx).symm
          clear hx hy hxy
          go_wp2_with fail
          go_quiet (fail)
          go_wp2
          go_ret
          rw [HN.out]
          exact ⟨rfl, _, World.drewN_drewN ..⟩
      · have hki : ¬ ((k : Int) < (l.length : Int)) := by omega
        have HN : Hid (decide (l = l') = true) := decide_eq_true (take_eq_of HL.out (by omega) HT.out)
        go_wp2
        go_ret
        rw [HN.out]
        exact ⟨rfl, _, rfl⟩
  · have hl2 : ((l.length : Int) != (l'.length : Int)) = true := by rw [bne_iff_ne]; omega
    have HN : Hid (decide (l = l') = false) := decide_eq_false (fun e => hlen (by rw [e]))
    clear hlen
    go_enter Tryz.func59, Tryz.ntmps59
    go_wp2
    go_ret
    rw [HN.out]
    exact ⟨rfl, 0, rfl⟩

theorem eqlIn_nil (d : Nat) (a : Option Addr) (l c : Nat) (w : World) : (Op.equalIn (d + 1) 23 (.slice a l c) (.slice none 0 0)).run Tryz.prog w = .ok a.isNone w := by
  cases a <;> simp [Op.equalIn, run_underlying Tryz.underlying23]
theorem equal_nil (a : Option Addr) (l c : Nat) (w : World) : (Op.equal 23 (.slice a l c) (.slice none 0 0)).run Tryz.prog w = .ok a.isNone w := eqlIn_nil 9999 a l c w
theorem eql_nil (a : Option Addr) (l c : Nat) (w : World) : (binOp .eql 23 (.slice a l c) (.slice none 0 0)).run Tryz.prog w = .ok (.bool a.isNone) w := by
  simp [binOp, equal_nil]

set_option maxHeartbeats 1000000 in
set_option maxRecDepth 10000 in
theorem clone_any {w : World} {b : Nat} {v : Value} {l : List Int} (h : SlAt w b v (U l)) (hl : l.length ≤ 20000) : Calls Tryz.prog 75 #[v] w fun e w' => ∃ b' p cap, e = .returned (.slice p l.length cap) ∧ w.heap.size ≤ b' ∧ SlAt w' b' (.slice p l.length cap) (U l) ∧ T5 w' b' (U l) ∧ Below w.heap.size w w' := by
  have hnil := eql_nil
  have hsl := h
  obtain ⟨p, cap, hv, h1, h2⟩ := h.form
  rw [U_length] at hv h1
  unfold maxLen at h2
  subst hv
  cases p with
  | none =>
    have hl0 : l = [] ∧ cap = 0 := by
      rcases h with ⟨e, e2⟩ | ⟨a, c, e, _⟩
      · simp at e
        exact ⟨by simpa [U] using e2, e.2⟩
      · cases e
    obtain ⟨rfl, rfl⟩ := hl0
    go_enter Tryz.func75, Tryz.ntmps75
    go_wp2
    go_ret
    exact ⟨w.heap.size, none, 0, rfl, Nat.le_refl _, SlAt.nil _ _, .inl rfl, Below.refl _ _⟩
  | some a =>
    have hown0 : (w.alloc (.cells #[] 5)).ownsRow w.heap.size 5 1 (.slice (some ⟨w.heap.size, 0, none⟩) 0 0) 0 [] := World.ownsRow_made w #[] 0 (Nat.le_refl _) (Nat.zero_le _) rfl
    have hs0 : SlAt (w.alloc (.cells #[] 5)) b (.slice (some a) l.length cap) (U l) := hsl.stays (by go_grown)
    have HO := hid2 hown0
    have HS := hid2 hs0
    clear h hsl hown0 hs0
    go_enter Tryz.func75, Tryz.ntmps75
    go_wp2_with (at_builtin; refine wpList_append_sl _ rfl _ _ rfl w.heap.size _ 0 [] rfl HO.out b _ l rfl HS.out (by omega) (by simp) ?_; intro v1 w1 hown1 hgrow1)
    go_ret
    rw [Nat.zero_add, List.nil_append] at hown1
    obtain ⟨b1, hb1, hs1, ht1⟩ := own_sl5 hown1
    obtain ⟨p1, c1, e1, _, _⟩ := hs1.form
    rw [U_length] at e1
    subst e1
    exact ⟨b1, p1, c1, rfl, hb1, hs1, ht1, ((Below.refl _ _).alloc (Nat.le_refl _) _).grown hgrow1 (by simp) (fun k hk => by cases hk; exact Nat.le_refl _)⟩
end Go.Proofs.YtkgecpplgjfhiaaGreatDoor.Ite

namespace Go.Proofs.YtkgecpplgjfhiaaGreatDoor.Ite
open Go.RowKit

theorem Tryz.size24 : (Tryz.prog.info? 25).map (·.size) = some 5 := by kernel_rfl
theorem Tryz.und24 : ∃ fs, Tryz.prog.underlying 25 = some (.struct fs) := ⟨Tryz.prog.fieldsOf 25, by kernel_rfl⟩
theorem grown_setRow (w : World) (g : Nat) (cs : Array Value) : w.grownBy (w.setRow g cs) (some g) :=
  ⟨rfl, rfl, rfl, by simp [World.setRow], fun k _ hk => setRow_other w g k cs (by intro e; exact hk (by rw [e]))⟩
/-- An entry's five cells. -/
def eA (k : ByteArray) (v a e : Int) (sv : Value) : Array Value := #[.string k, .int .i64 v, .int .i64 a, .int .i64 e, sv]
theorem run_st24 {w : World} {b : Nat} {c : Array Value} {x0 x1 x2 x3 x4 : Value} (hw : w.heap[b]? = some (.cells c 25 (0, 0))) (hc : c.size = 5) (h1 : x0.oneCell' = true ∧ x1.oneCell' = true ∧ x2.oneCell' = true ∧ x3.oneCell' = true ∧ x4.oneCell' = true) :
    (Instr.storeAt 25 (.pointer (some ⟨b, 0, none⟩)) (.agg #[x0, x1, x2, x3, x4])).run Tryz.prog w = .ok () (w.setRow b #[x0, x1, x2, x3, x4]) := by
  have h2 : (#[x0, x1, x2, x3, x4] : Array Value).all (·.oneCell') = true := by simp [h1]
  simp only [Instr.storeAt, Instr.sureAddr, Sem.run_bind, Sem.run_pure, Result.andThen]
  exact run_storeVar_row _ _ 25 25 c _ hw Tryz.size24 hc h2
section
variable {ops : Array Oper} {rest : List Oper} {op : Oper} {a : Act} {w : World}
theorem st24 {Q : Exit → Act → World → Prop} (hgd : op.guard = none) (x y : Operand) (ho : op.op = .store 25 x y) (b : Nat) (hx : a.eval x = .pointer (some ⟨b, 0, none⟩)) (c : Array Value) (x0 x1 x2 x3 x4 : Value)
    (hw : w.heap[b]? = some (.cells c 25 (0, 0))) (hc : c.size = 5) (hy : a.eval y = .agg #[x0, x1, x2, x3, x4]) (h1 : x0.oneCell' = true ∧ x1.oneCell' = true ∧ x2.oneCell' = true ∧ x3.oneCell' = true ∧ x4.oneCell' = true)
    (h : ∀ w', w'.heap[b]? = some (.cells #[x0, x1, x2, x3, x4] 25 (0, 0)) → w.grownBy w' (some b) → wpList Tryz.prog ops Q rest (a.put op.dst undef) w') : wpList Tryz.prog ops Q (op :: rest) a w := by
  refine wpList_plain hgd fun K hK => ?_
  unfold Oper.wp execOp
  simp only [ho, hx, hy, Sem.run_bind, run_st24 hw hc h1, Result.andThen_ok, Sem.run_pure]
  exact hK _ _ (h _ (setRow_heap w b c _ 25 (0, 0) hw) (grown_setRow w b _))
theorem step_st24 {K : Act → World → Prop} {Q : Exit → Act → World → Prop} {E : Prop} (hgd : op.guard = none) (x y : Operand) (ho : op.op = .store 25 x y) (b : Nat) (hx : a.eval x = .pointer (some ⟨b, 0, none⟩)) (c : Array Value) (x0 x1 x2 x3 x4 : Value)
    (hw : w.heap[b]? = some (.cells c 25 (0, 0))) (hc : c.size = 5) (hy : a.eval y = .agg #[x0, x1, x2, x3, x4]) (h1 : x0.oneCell' = true ∧ x1.oneCell' = true ∧ x2.oneCell' = true ∧ x3.oneCell' = true ∧ x4.oneCell' = true)
    (h : ∀ w', w'.heap[b]? = some (.cells #[x0, x1, x2, x3, x4] 25 (0, 0)) → w.grownBy w' (some b) → K (a.put op.dst undef) w') :
    if Region.wanted op (yielded ops a.tmps) = true then Oper.wp Tryz.prog op a w K Q else E := by
  have hwt : Region.wanted op (yielded ops a.tmps) = true := by simp [Region.wanted, hgd]
  rw [if_pos hwt]
  unfold Oper.wp execOp
  simp only [ho, hx, hy, Sem.run_bind, run_st24 hw hc h1, Result.andThen_ok, Sem.run_pure]
  exact h _ (setRow_heap w b c _ 25 (0, 0) hw) (grown_setRow w b _)
end
theorem load24 (w : World) (b : Nat) (x0 x1 x2 x3 x4 : Value) (t : TypeId) (fr : Nat × Nat) (hc : w.heap[b]? = some (.cells #[x0, x1, x2, x3, x4] t fr)) : (loadVar 25 ⟨b, 0, none⟩).run Tryz.prog w = .ok (.agg #[x0, x1, x2, x3, x4]) w := by
  obtain ⟨fs, hu⟩ := Tryz.und24
  exact run_loadVar_row (P := Tryz.prog) w b t 25 _ fr _ hc hu rfl Tryz.size24

/-- What is the same of two entries. -/
def sameB (k k' : ByteArray) (v a e v' a' e' : Int) (l l' : List Int) : Bool := decide (k = k' ∧ v = v' ∧ a = a' ∧ e = e' ∧ l = l')
theorem sameB_self (k : ByteArray) (v a e : Int) (l : List Int) : sameB k k v a e v a e l l = true := by simp [sameB]

end Go.Proofs.YtkgecpplgjfhiaaGreatDoor.Ite

namespace Go.Proofs.YtkgecpplgjfhiaaGreatDoor.Ite
open Go.RowKit

set_option maxHeartbeats 2000000 in
set_option maxRecDepth 10000 in
theorem rsame6_any {w : World} {p p' : Option Addr} {n cap n' cap' : Nat} {l l' : List Int} (k k' : ByteArray) (v a e v' a' e' : Int) (h : Bs w (.slice p n cap) l) (g : Bs w (.slice p' n' cap') l') :
    Calls Tryz.prog 25 #[.agg #[.string k, .int .i64 v, .int .i64 a, .int .i64 e, .slice p n cap], .agg #[.string k', .int .i64 v', .int .i64 a', .int .i64 e', .slice p' n' cap']] w fun en w' => en = .returned (.bool (sameB k k' v a e v' a' e' l l')) ∧ Below w.heap.size w w' := by
  have HB0 : Hid (Below w.heap.size w ((w.alloc (.cells #[.string k, .int .i64 v, .int .i64 a, .int .i64 e, .slice p n cap] 25)).alloc (.cells #[.string k', .int .i64 v', .int .i64 a', .int .i64 e', .slice p' n' cap'] 25))) := by show Below _ _ _; go_grown
  obtain ⟨b, h⟩ := h
  obtain ⟨c, g⟩ := g
  have HE := hid2 (same_any (h.stays HB0.out) (g.stays HB0.out))
  clear h g
  by_cases h0 : k = k'
  · subst h0
    have d0 : (k.toList == k.toList) = true := by simp
    by_cases h1 : v = v'
    · subst h1
      by_cases h2 : a = a'
      · subst h2
        by_cases h3 : e = e'
        · subst h3
          have HC : Hid (sameB k k v a e v a e l l' = decide (l = l')) := by show _ = _; simp [sameB]
          go_enter Tryz.func25, Tryz.ntmps25
          go_wp2_with (go_at_call 59; refine (show Calls _ _ _ _ _ from HE).mono ?_; rintro en w1 ⟨rfl, m, rfl⟩)
          go_ret
          rw [HC.out]
          exact ⟨rfl, HB0.out.trans (below_drewN _ _ _)⟩
        · have HC : Hid (sameB k k v a e v a e' l l' = false) := by show _ = _; simp [sameB, h3]
          have d3 : (e == e') = false := by simpa using h3
          clear h3
          go_enter Tryz.func25, Tryz.ntmps25
          go_wp2
          go_ret
          rw [HC.out]
          exact ⟨rfl, HB0.out⟩
      · have HC : Hid (sameB k k v a e v a' e' l l' = false) := by show _ = _; simp [sameB, h2]
        have d3 : (a == a') = false := by simpa using h2
        clear h2
        go_enter Tryz.func25, Tryz.ntmps25
        go_wp2
        go_ret
        rw [HC.out]
        exact ⟨rfl, HB0.out⟩
    · have HC : Hid (sameB k k v a e v' a' e' l l' = false) := by show _ = _; simp [sameB, h1]
      have d3 : (v == v') = false := by simpa using h1
      clear h1
      go_enter Tryz.func25, Tryz.ntmps25
      go_wp2
      go_ret
      rw [HC.out]
      exact ⟨rfl, HB0.out⟩
  · have HC : Hid (sameB k k' v a e v' a' e' l l' = false) := by show _ = _; simp [sameB, h0]
    have d3 : (k.toList == k'.toList) = false := by
      have : k.toList ≠ k'.toList := fun h => h0 (Go.WideShapes.bytes_inj (by rw [← ByteArray.toList_eq, ← ByteArray.toList_eq]; exact h))
      simpa using this
    clear h0
    go_enter Tryz.func25, Tryz.ntmps25
    go_wp2
    go_ret
    rw [HC.out]
    exact ⟨rfl, HB0.out⟩

set_option maxHeartbeats 1000000 in
set_option maxRecDepth 10000 in
theorem size_any (k : ByteArray) (v a e : Int) (p : Option Addr) (n cap : Nat) (w : World) (hk : k.size ≤ 1000) (hn : n ≤ 5000) (hv : 0 ≤ v) (ha : 0 ≤ a) (he : 0 ≤ e) :
    Calls Tryz.prog 48 #[.agg #[.string k, .int .i64 v, .int .i64 a, .int .i64 e, .slice p n cap]] w fun en w' => en = .returned (.int .i64 ((sizeP k.size v a e n : Nat) : Int)) ∧ Below w.heap.size w w' := by
  have l1 := lenN_bd v
  have l2 := lenN_bd a
  have l3 := lenN_bd e
  have l4 := lenN_bd k.size
  have l5 := lenN_bd n
  go_enter Tryz.func48, Tryz.ntmps48
  go_wp2_with fail
  obtain ⟨w0, hw0⟩ : ∃ w0, w0 = w.alloc (.cells #[.string k, .int .i64 v, .int .i64 a, .int .i64 e, .slice p n cap] 25) := ⟨_, rfl⟩
  rw [← hw0]
  have hx0 : w0.heap[w.heap.size]? = some (.cells #[.string k, .int .i64 v, .int .i64 a, .int .i64 e, .slice p n cap] 25 (0, 0)) := by rw [hw0]; exact heap_alloc_new w _
  have B0 : Below w.heap.size w w0 := by rw [hw0]; go_grown
  clear hw0
  obtain ⟨⟨q0, q1, q2, q3, q4⟩, _⟩ := five24 hx0
  have hlt0 := lt_of_block hx0
  go_quiet (first
    | (go_at_call 71; exact Calls.quiet_of_same (len_any _ _ (by assumption))))
  go_wp2_with fail
  obtain ⟨w1, hw1⟩ : ∃ w1, w1 = w0.drewN nq := ⟨_, rfl⟩
  rw [← hw1]
  have B1 : Below w0.heap.size w0 w1 := by rw [hw1]; exact below_drewN _ _ _
  have hx1 := heap_stays hx0 B1
  clear hw1 q0 q1 q2 q3 q4 hlt0
  obtain ⟨⟨q0, q1, q2, q3, q4⟩, _⟩ := five24 hx1
  have hlt1 := lt_of_block hx1
  have T1 := hid2 (fun W => tsize_any k.size W (by omega))
  have T2 := hid2 (fun W => tsize_any n W (by omega))
  go_quiet (first
    | (go_at_call 72; exact Calls.quiet_of_same (T1.out _))
    | (go_at_call 72; exact Calls.quiet_of_same (T2.out _)))
  go_wp2
  go_ret
  refine ⟨ret_int ?_, (B0.trans (B1.mono B0.size)).trans (below_drewN _ _ _)⟩
  unfold sizeP
  omega
end Go.Proofs.YtkgecpplgjfhiaaGreatDoor.Ite

namespace Go.Proofs.YtkgecpplgjfhiaaGreatDoor.Ite
open Go.RowKit

theorem sl_int3 (w : World) (x y z : Int) : SlAt (w.alloc (.cells #[.int .i64 x, .int .i64 y, .int .i64 z] 3)) w.heap.size (.slice (some ⟨w.heap.size, 0, none⟩) 3 3) (I [x, y, z]) := by
  refine .inr ⟨_, 3, rfl, by simp [I], by unfold maxLen; omega, .inr ⟨0, rfl, by simp, fun k u hk => ?_⟩⟩
  rcases k with _ | _ | _ | k
  · simp [I] at hk; subst hk; simp
  · simp [I] at hk; subst hk; simp
  · simp [I] at hk; subst hk; simp
  · simp [I] at hk
theorem nat63_3 {x y z : Int} (hx : 0 ≤ x ∧ x ≤ 1099511627776) (hy : 0 ≤ y ∧ y ≤ 1099511627776) (hz : 0 ≤ z ∧ z ≤ 1099511627776) : Nat63 [x, y, z] := by
  intro u hu
  simp at hu
  rcases hu with rfl | rfl | rfl <;> omega

/-- The bytes of an entry, by its parts. -/
def rowP (k : ByteArray) (v a e : Int) (l : List Int) : List Int := textB (kb k) ++ puts [v, a, e] ++ textB l
theorem rowP_len (k : ByteArray) (v a e : Int) (l : List Int) : (rowP k v a e l).length = sizeP k.size v a e l.length := rowB_length ⟨k, v, a, e, l⟩
theorem textB_le (t : List Int) : (textB t).length ≤ 9 + t.length := by rw [textB_length]; have := lenN_bd t.length; omega
theorem puts3_le (x y z : Int) : (puts [x, y, z]).length ≤ 27 := puts_length [x, y, z]

end Go.Proofs.YtkgecpplgjfhiaaGreatDoor.Ite
