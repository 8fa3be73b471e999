/-
  From of the document: an entry that is read, by value.
-/
import Derived.Test.YtgmghekgelmmcaaDoorQIFromE
namespace Go.Proofs.YtgmghekgelmmcaaDoor.Ite
open Go.RowKit

theorem Tryd.size52 : (Tryd.prog.info? 98).map (·.size) = some 3 := by kernel_rfl
theorem Tryd.und52 : ∃ fs, Tryd.prog.underlying 98 = some (.struct fs) := ⟨Tryd.prog.fieldsOf 98, by kernel_rfl⟩
theorem three52 {w : World} {g : Nat} {x0 x1 x2 : Value} (h : w.heap[g]? = some (.cells #[x0, x1, x2] 98 (0, 0))) :
    (w.cell? ⟨g, 0, none⟩ = some x0 ∧ w.cell? ⟨g, 1, none⟩ = some x1 ∧ w.cell? ⟨g, 2, none⟩ = some x2) ∧ ∀ o, w.frozen? ⟨g, o, none⟩ = false := by
  refine ⟨⟨?_, ?_, ?_⟩, ?_⟩ <;> simp [World.cell?, World.frozen?, h]
theorem run_st52 {w : World} {b : Nat} {c : Array Value} {x0 x1 x2 : Value} (hw : w.heap[b]? = some (.cells c 98 (0, 0))) (hc : c.size = 3) (h1 : x0.oneCell' = true ∧ x1.oneCell' = true ∧ x2.oneCell' = true) :
    (Instr.storeAt 98 (.pointer (some ⟨b, 0, none⟩)) (.agg #[x0, x1, x2])).run Tryd.prog w = .ok () (w.setRow b #[x0, x1, x2]) := by
  have h2 : (#[x0, x1, x2] : Array Value).all (·.oneCell') = true := by simp [h1]
  simp only [Instr.storeAt, Instr.sureAddr, Sem.run_bind, Sem.run_pure, Result.andThen]
  exact run_storeVar_row _ _ 98 98 c _ hw Tryd.size52 hc h2
section
variable {ops : Array Oper} {rest : List Oper} {op : Oper} {a : Act} {w : World}
theorem st52 {Q : Exit → Act → World → Prop} (hgd : op.guard = none) (x y : Operand) (ho : op.op = .store 98 x y) (b : Nat) (hx : a.eval x = .pointer (some ⟨b, 0, none⟩)) (c : Array Value) (x0 x1 x2 : Value)
    (hw : w.heap[b]? = some (.cells c 98 (0, 0))) (hc : c.size = 3) (hy : a.eval y = .agg #[x0, x1, x2]) (h1 : x0.oneCell' = true ∧ x1.oneCell' = true ∧ x2.oneCell' = true)
    (h : ∀ w', w'.heap[b]? = some (.cells #[x0, x1, x2] 98 (0, 0)) → w.grownBy w' (some b) → wpList Tryd.prog ops Q rest (a.put op.dst undef) w') : wpList Tryd.prog ops Q (op :: rest) a w := by
  refine wpList_plain hgd fun K hK => ?_
  unfold Oper.wp execOp
  simp only [ho, hx, hy, Sem.run_bind, run_st52 hw hc h1, Result.andThen_ok, Sem.run_pure]
  exact hK _ _ (h _ (setRow_heap w b c _ 98 (0, 0) hw) (grown_setRow w b _))
theorem step_st52 {K : Act → World → Prop} {Q : Exit → Act → World → Prop} {E : Prop} (hgd : op.guard = none) (x y : Operand) (ho : op.op = .store 98 x y) (b : Nat) (hx : a.eval x = .pointer (some ⟨b, 0, none⟩)) (c : Array Value) (x0 x1 x2 : Value)
    (hw : w.heap[b]? = some (.cells c 98 (0, 0))) (hc : c.size = 3) (hy : a.eval y = .agg #[x0, x1, x2]) (h1 : x0.oneCell' = true ∧ x1.oneCell' = true ∧ x2.oneCell' = true)
    (h : ∀ w', w'.heap[b]? = some (.cells #[x0, x1, x2] 98 (0, 0)) → w.grownBy w' (some b) → K (a.put op.dst undef) w') :
    if Region.wanted op (yielded ops a.tmps) = true then Oper.wp Tryd.prog op a w K Q else E := by
  have hwt : Region.wanted op (yielded ops a.tmps) = true := by simp [Region.wanted, hgd]
  rw [if_pos hwt]
  unfold Oper.wp execOp
  simp only [ho, hx, hy, Sem.run_bind, run_st52 hw hc h1, Result.andThen_ok, Sem.run_pure]
  exact h _ (setRow_heap w b c _ 98 (0, 0) hw) (grown_setRow w b _)
end
theorem load52 (w : World) (b : Nat) (x0 x1 x2 : Value) (t : TypeId) (fr : Nat × Nat) (hc : w.heap[b]? = some (.cells #[x0, x1, x2] t fr)) : (loadVar 98 ⟨b, 0, none⟩).run Tryd.prog w = .ok (.agg #[x0, x1, x2]) w := by
  obtain ⟨fs, hu⟩ := Tryd.und52
  exact run_loadVar_row (P := Tryd.prog) w b t 98 _ fr _ hc hu rfl Tryd.size52
theorem results_cell_cell {fn : Func} {p q : Tmp} {ty ty' : TypeId} (h : fn.results = #[.cell p ty, .cell q ty']) (tmps : Array Value) (P : Program) (w : World) :
    (results fn tmps).run P w = ((asAddr (tmps.getD p undef)).run P w).andThen fun a w₁ => ((loadVar ty a).run P w₁).andThen fun v w₂ => ((asAddr (tmps.getD q undef)).run P w₂).andThen fun a' w₃ => ((loadVar ty' a').run P w₃).andThen fun v' w₄ => .ok (.tuple #[v, v']) w₄ := by
  simp only [results, h]
  simp [Sem.run_bind, Result.andThen]
theorem results_two {fn : Func} {p q : Tmp} (h : fn.results = #[.cell p 98, .cell q 39]) (tmps : Array Value) (w : World) (b c : Nat) (hp : tmps.getD p undef = .pointer (some ⟨b, 0, none⟩)) (hq : tmps.getD q undef = .pointer (some ⟨c, 0, none⟩)) (x0 x1 x2 y0 y1 y2 y3 y4 : Value)
    (hb : w.heap[b]? = some (.cells #[x0, x1, x2] 98 (0, 0))) (hc : w.heap[c]? = some (.cells #[y0, y1, y2, y3, y4] 39 (0, 0))) : (results fn tmps).run Tryd.prog w = .ok (.tuple #[.agg #[x0, x1, x2], .agg #[y0, y1, y2, y3, y4]]) w := by
  have l1 := load52 w b x0 x1 x2 _ _ hb
  have l2 := load24 w c y0 y1 y2 y3 y4 _ _ hc
  rw [results_cell_cell h, hp, hq]
  simp only [asAddr, Sem.run_pure, Result.andThen_ok, l1, l2]
theorem rdTxt_at_le (bs : List Int) (a : Nat) (code most : Int) (h1 : most ≤ 9223372036854775807) (hby : Byt bs) (ha : a ≤ bs.length) : (rdTxt bs a code most).2.1 ≤ bs.length := by
  have h := rdNum_at_le bs a code most h1 hby ha
  have h0 := rdNum_ok bs a code most h1 hby ha
  unfold rdTxt
  split
  · rename_i hz
    have := h0 hz
    split
    · exact ha
    · simp only
      omega
  · exact ha
theorem two_below {w W wy wz : World} (h : Below w.heap.size w W) (hy : W.grownBy wy (some (w.heap.size + 1))) (hz : wy.grownBy wz (some (w.heap.size + 2))) : Below w.heap.size w wz :=
  (h.grown hy h.size (fun k hk => by cases hk; omega)).grown hz (Nat.le_trans h.size hy.size) (fun k hk => by cases hk; omega)
theorem nob52 {w : World} {g : Nat} {p : Option Addr} {n cap : Nat} {x y : Int} (h : w.heap[g]? = some (.cells #[.slice p n cap, .int .i64 x, .int .i64 y] 98 (0, 0))) : NoB w g := by
  intro off u e
  simp only [World.cell?, h] at e
  rcases off with _ | _ | _ | off <;> simp at e
/-- A block made and written is new. -/
theorem made_below {w w' : World} {o : Obj} (h : (w.alloc o).grownBy w' (some w.heap.size)) : Below w.heap.size w w' :=
  ((Below.refl _ _).alloc (Nat.le_refl _) _).grown h (by simp) (fun k hk => by cases hk; exact Nat.le_refl _)

set_option maxHeartbeats 4000000 in
set_option maxRecDepth 10000 in
theorem rfrom_any {w : World} {b : Nat} {p : Option Addr} {cap a : Nat} {bs : List Int} {code : Int} (h : SlAt w b (.slice p bs.length cap) (U bs)) (hby : Byt bs) (ha : a ≤ bs.length) (hl : bs.length ≤ 30000) :
    Calls Tryd.prog 57 #[.agg #[.slice p bs.length cap, .int .i64 a, .int .i64 code]] w fun en w' => ∃ p' c', en = .returned (.tuple #[.agg #[.slice p bs.length cap, .int .i64 (frm bs a code).2.1, .int .i64 (frm bs a code).2.2], .agg #[.string (frm bs a code).1.key, .int .i64 (frm bs a code).1.ver, .int .i64 (frm bs a code).1.asof, .int .i64 (frm bs a code).1.ends, .slice p' (frm bs a code).1.val.length c']]) ∧ Bs5 w' (.slice p' (frm bs a code).1.val.length c') (frm bs a code).1.val ∧ Below w.heap.size w w' := by
  obtain ⟨k, a1, c1, h1⟩ : ∃ n s c, rdTxt bs a code 40 = (n, s, c) := ⟨_, _, _, rfl⟩
  obtain ⟨v, a2, c2, h2⟩ : ∃ n s c, rdNum bs a1 c1 1099511627776 = (n, s, c) := ⟨_, _, _, rfl⟩
  obtain ⟨s, a3, c3, h3⟩ : ∃ n s c, rdNum bs a2 c2 1099511627776 = (n, s, c) := ⟨_, _, _, rfl⟩
  obtain ⟨e, a4, c4, h4⟩ : ∃ n s c, rdNum bs a3 c3 1099511627776 = (n, s, c) := ⟨_, _, _, rfl⟩
  obtain ⟨t, a5, c5, h5⟩ : ∃ n s c, rdTxt bs a4 c4 4096 = (n, s, c) := ⟨_, _, _, rfl⟩
  have HF := hid2 (frm_eq h1 h2 h3 h4 h5)
  have i1 : a1 ≤ bs.length := by have := rdTxt_at_le bs a code 40 (by omega) hby ha; rwa [h1] at this
  have i2 : a2 ≤ bs.length := by have := rdNum_at_le bs a1 c1 1099511627776 (by omega) hby i1; rwa [h2] at this
  have i3 : a3 ≤ bs.length := by have := rdNum_at_le bs a2 c2 1099511627776 (by omega) hby i2; rwa [h3] at this
  have i4 : a4 ≤ bs.length := by have := rdNum_at_le bs a3 c3 1099511627776 (by omega) hby i3; rwa [h4] at this
  have C1 := fun W (hs : SlAt W b (.slice p bs.length cap) (U bs)) => rtext_any (code := code) 40 (by omega) (by omega) hs hby ha hl
  have C2 := fun W (hs : SlAt W b (.slice p bs.length cap) (U bs)) => rnumber_any (code := c1) 1099511627776 (by omega) (by omega) hs hby i1 hl
  have C3 := fun W (hs : SlAt W b (.slice p bs.length cap) (U bs)) => rnumber_any (code := c2) 1099511627776 (by omega) (by omega) hs hby i2 hl
  have C4 := fun W (hs : SlAt W b (.slice p bs.length cap) (U bs)) => rnumber_any (code := c3) 1099511627776 (by omega) (by omega) hs hby i3 hl
  have C5 := fun W (hs : SlAt W b (.slice p bs.length cap) (U bs)) => rtext_any (code := c4) 4096 (by omega) (by omega) hs hby i4 hl
  rw [h1] at C1
  rw [h2] at C2
  rw [h3] at C3
  rw [h4] at C4
  rw [h5] at C5
  have K1 := hid2 C1
  have K2 := hid2 C2
  have K3 := hid2 C3
  have K4 := hid2 C4
  have K5 := hid2 C5
  have HL : Hid (k.length ≤ 30000 ∧ t.length ≤ 30000) := by
    have q1 := rdTxt_len bs a code 40
    have q2 := rdTxt_len bs a4 c4 4096
    rw [h1] at q1
    rw [h5] at q2
    exact ⟨Nat.le_trans q1 hl, Nat.le_trans q2 hl⟩
  clear C1 C2 C3 C4 C5 h1 h2 h3 h4 h5 i1 i2 i3 i4 ha
  go_enter Tryd.func57, Tryd.ntmps57
  go_wp2_with fail
  obtain ⟨w0, hw0⟩ : ∃ w0, w0 = ((w.alloc (.cells #[.slice p bs.length cap, .int .i64 a, .int .i64 code] 98)).alloc (.cells #[.slice none 0 0, .int .i64 0, .int .i64 0] 98)).alloc (.cells #[.string ⟨#[]⟩, .int .i64 0, .int .i64 0, .int .i64 0, .slice none 0 0] 39) := ⟨_, rfl⟩
  rw [← hw0]
  have B0 : Below w.heap.size w w0 := by rw [hw0]; go_grown
  have s1 : (w.alloc (.cells #[.slice p bs.length cap, .int .i64 a, .int .i64 code] 98)).heap.size = w.heap.size + 1 := by simp
  have s2 : ((w.alloc (.cells #[.slice p bs.length cap, .int .i64 a, .int .i64 code] 98)).alloc (.cells #[.slice none 0 0, .int .i64 0, .int .i64 0] 98)).heap.size = w.heap.size + 2 := by simp
  have hR2 : w0.heap[w.heap.size + 1]? = some (.cells #[.slice none 0 0, .int .i64 0, .int .i64 0] 98 (0, 0)) := by
    rw [hw0, Below.heap_alloc _ _ _ (by rw [s2]; omega)]
    have := heap_alloc_new (w.alloc (.cells #[.slice p bs.length cap, .int .i64 a, .int .i64 code] 98)) (.cells #[.slice none 0 0, .int .i64 0, .int .i64 0] 98)
    rw [s1] at this
    exact this
  have hR3 : w0.heap[w.heap.size + 2]? = some (.cells #[.string ⟨#[]⟩, .int .i64 0, .int .i64 0, .int .i64 0, .slice none 0 0] 39 (0, 0)) := by
    have := heap_alloc_new ((w.alloc (.cells #[.slice p bs.length cap, .int .i64 a, .int .i64 code] 98)).alloc (.cells #[.slice none 0 0, .int .i64 0, .int .i64 0] 98)) (.cells #[.string ⟨#[]⟩, .int .i64 0, .int .i64 0, .int .i64 0, .slice none 0 0] 39)
    rw [s2] at this
    rw [hw0]
    exact this
  have hs0 := h.stays B0
  have HR2 := hid2 hR2
  have HR3 := hid2 hR3
  have HB0 := hid2 B0
  clear hw0 s1 s2 h hR2 hR3 B0
  refine (show Calls _ _ _ _ _ from K1.out _ hs0).mono ?_
  rintro en w1 ⟨sv1, tb1, rfl, hk1, _, B1⟩
  have hs1m := hs0.stays B1
  have hk := hid2 (show Bs w1 sv1 k from ⟨tb1, hk1⟩)
  clear hk1
  go_wp2_with (refine st52 rfl (.tmp 4) (.tmp 18) rfl w1.heap.size rfl _ _ _ _ (heap_alloc_new w1 _) rfl rfl ⟨rfl, rfl, rfl⟩ ?_; intro v1 z1 y1; obtain ⟨⟨q0, q1, q2⟩, _⟩ := three52 z1; have hlt := lt_of_block z1)
  have X1 := made_below y1
  have hs1 := hs1m.stays X1
  have D1 := hid2 (B1.trans (X1.mono B1.size))
  have kk1 := hid2 (hk.out.stays X1)
  clear q0 q1 q2 hlt y1 X1 hs1m B1
  refine (show Calls _ _ _ _ _ from K2.out _ hs1).mono ?_
  rintro en w2 ⟨rfl, B2⟩
  have hs2m := hs1.stays B2
  go_wp2_with (refine st52 rfl (.tmp 6) (.tmp 23) rfl w2.heap.size rfl _ _ _ _ (heap_alloc_new w2 _) rfl rfl ⟨rfl, rfl, rfl⟩ ?_; intro v2 z2 y2; obtain ⟨⟨q0, q1, q2⟩, _⟩ := three52 z2; have hlt := lt_of_block z2)
  have X2 := made_below y2
  have hs2 := hs2m.stays X2
  have D2 := hid2 (D1.out.trans ((B2.trans (X2.mono B2.size)).mono D1.out.size))
  have kk2 := hid2 ((kk1.out.stays B2).stays X2)
  clear q0 q1 q2 hlt y2 X2 hs2m B2
  refine (show Calls _ _ _ _ _ from K3.out _ hs2).mono ?_
  rintro en w3 ⟨rfl, B3⟩
  have hs3m := hs2.stays B3
  go_wp2_with (refine st52 rfl (.tmp 8) (.tmp 28) rfl w3.heap.size rfl _ _ _ _ (heap_alloc_new w3 _) rfl rfl ⟨rfl, rfl, rfl⟩ ?_; intro v3 z3 y3; obtain ⟨⟨q0, q1, q2⟩, _⟩ := three52 z3; have hlt := lt_of_block z3)
  have X3 := made_below y3
  have hs3 := hs3m.stays X3
  have D3 := hid2 (D2.out.trans ((B3.trans (X3.mono B3.size)).mono D2.out.size))
  have kk3 := hid2 ((kk2.out.stays B3).stays X3)
  clear q0 q1 q2 hlt y3 X3 hs3m B3
  refine (show Calls _ _ _ _ _ from K4.out _ hs3).mono ?_
  rintro en w4 ⟨rfl, B4⟩
  have hs4m := hs3.stays B4
  go_wp2_with (refine st52 rfl (.tmp 10) (.tmp 33) rfl w4.heap.size rfl _ _ _ _ (heap_alloc_new w4 _) rfl rfl ⟨rfl, rfl, rfl⟩ ?_; intro v4 z4 y4; obtain ⟨⟨q0, q1, q2⟩, _⟩ := three52 z4; have hlt := lt_of_block z4)
  have X4 := made_below y4
  have hs4 := hs4m.stays X4
  have D4 := hid2 (D3.out.trans ((B4.trans (X4.mono B4.size)).mono D3.out.size))
  have kk4 := hid2 ((kk3.out.stays B4).stays X4)
  clear q0 q1 q2 hlt y4 X4 hs4m B4
  refine (show Calls _ _ _ _ _ from K5.out _ hs4).mono ?_
  rintro en w5 ⟨sv5, tb5, rfl, ht5, hg5, B5⟩
  have hs5m := hs4.stays B5
  obtain ⟨pt, ct, hf, _⟩ := (show Bs w5 sv5 t from ⟨tb5, ht5⟩).form
  subst hf
  have htb := hid2 (show Bs5 w5 (.slice pt t.length ct) t from ⟨tb5, ht5, hg5.2⟩)
  clear ht5 hg5
  go_wp2_with (refine st52 rfl (.tmp 12) (.tmp 38) rfl w5.heap.size rfl _ _ _ _ (heap_alloc_new w5 _) rfl rfl ⟨rfl, rfl, rfl⟩ ?_; intro v5 z5 y5; obtain ⟨⟨q0, q1, q2⟩, _⟩ := three52 z5; have hlt := lt_of_block z5)
  have X5 := made_below y5
  have hs5 := hs5m.stays X5
  have D5 := hid2 (D4.out.trans ((B5.trans (X5.mono B5.size)).mono D4.out.size))
  have kk5 := hid2 ((kk4.out.stays B5).stays X5)
  have tt5 := hid2 (htb.out.stays X5)
  clear q0 q1 q2 hlt
  rw [conv_any kk5.out]
  obtain ⟨eb, heb⟩ : ∃ eb, eb = w5.heap.size := ⟨_, rfl⟩
  rw [← heb] at z5 ⊢
  have HEB : Hid (w0.heap.size ≤ eb) := by show _ ≤ _; rw [heb]; exact Nat.le_trans D4.out.size B5.size
  clear heb y5 hs5 hs5m
  by_cases hc5 : c5 = 0
  · subst hc5
    rw [if_pos rfl] at HF
    go_wp2_with (refine st24 rfl (.tmp 14) (.tmp 46) rfl v5.heap.size rfl _ _ _ _ _ _ (heap_alloc_new v5 _) rfl rfl ⟨rfl, rfl, rfl, rfl, rfl⟩ ?_; intro v6 z6 y6; have X6 := made_below y6; have ze6 := heap_stays z5 X6; obtain ⟨⟨q0, q1, q2⟩, qf⟩ := three52 ze6; obtain ⟨⟨p0, p1, p2, p3, p4⟩, _⟩ := five24 z6; have hlt := lt_of_block ze6; have hlt2 := lt_of_block z6)
    refine (rcheck_any (strB k) v s e pt t.length ct _ (by rw [strB_size]; have := HL.out; unfold maxLen; omega) (by have := HL.out; unfold maxLen; omega)).mono ?_
    rintro en w7 ⟨rfl, B7⟩
    have ze7 := heap_stays ze6 B7
    have zx7 := heap_stays z6 B7
    have tt7 := hid2 ((tt5.out.stays X6).stays B7)
    have D7 := hid2 (D5.out.trans ((X6.trans (B7.mono X6.size)).mono D5.out.size))
    have HNX : Hid (eb < v5.heap.size) := lt_of_block z5
    clear ze6 z6 B7 X6 q0 q1 q2 p0 p1 p2 p3 p4 qf hlt hlt2 y6 z5
    generalize hc6 : chk (strB k) v s e t.length = c6 at *
    obtain ⟨⟨m0, m1, m2⟩, mf⟩ := three52 ze7
    have hlt7 := lt_of_block ze7
    have hst := heap_setCell_same w7 eb 2 _ 98 (.int .i64 c6) ze7
    have ze8 : (w7.setCell ⟨eb, 2, none⟩ (.int .i64 c6)).heap[eb]? = some (.cells #[.slice p bs.length cap, .int .i64 a5, .int .i64 c6] 98 (0, 0)) := by rw [hst]; rfl
    have hgst := setCell_grownBy w7 eb 2 (.int .i64 c6)
    have zx8 := heap_grownBy zx7 hgst (by have := HNX.out; omega)
    have tt8 := hid2 (tt7.out.grown hgst ze7 (by decide))
    have D8 := hid2 (D7.out.grown hgst D7.out.size (fun k hk => by cases hk; exact HEB.out))
    have HR8 := hid2 (heap_stays HR2.out D8.out)
    have HS8 := hid2 (heap_stays HR3.out D8.out)
    have HZE := hid2 ze8
    have HZX := hid2 zx8
    have HW0 : Hid (w.heap.size + 3 ≤ w0.heap.size) := by
      show _ ≤ _
      have := lt_of_block HR3.out
      omega
    obtain ⟨⟨n0, n1, n2⟩, nf⟩ := three52 ze8
    obtain ⟨⟨p0, p1, p2, p3, p4⟩, _⟩ := five24 zx8
    have hlt8 := lt_of_block ze8
    have hlt9 := lt_of_block zx8
    clear ze7 zx7 hst hgst ze8 zx8
    by_cases h6 : c6 = 0
    · subst h6
      have HF6 : Hid (frm bs a code = (⟨strB k, v, s, e, t⟩, a5, 0)) := by show _ = _; rw [HF.out, if_pos rfl]
      clear hc6
      go_wp2_with fail
      obtain ⟨w8, hw8⟩ : ∃ w8, w8 = w7.setCell ⟨eb, 2, none⟩ (.int .i64 0) := ⟨_, rfl⟩
      rw [← hw8] at HZE HZX tt8 D8 HR8 HS8 ⊢
      clear hw8 m0 m1 m2 mf n0 n1 n2 nf p0 p1 p2 p3 p4
      refine wp_region_held_drew (S := fun W => W.heap[eb]? = some (.cells #[.slice p bs.length cap, .int .i64 a5, .int .i64 0] 98 (0, 0)) ∧ W.heap[v5.heap.size]? = some (.cells #[.string (strB k), .int .i64 v, .int .i64 s, .int .i64 e, .slice pt t.length ct] 39 (0, 0))) (by kernel_rfl) (⟨HZE.out, HZX.out⟩) (fun hS => ?_)
      change wpAnyH _ _ _ _ _ _ _ _ (World.drew _)
      have B9 : Below w8.heap.size w8 w8.drew := (Below.refl _ _).drew
      have hR2 := heap_stays HR8.out B9
      have hR3 := heap_stays HS8.out B9
      have tt9 := tt8.out.stays B9
      have D9 := D8.out.trans (B9.mono D8.out.size)
      generalize World.drew w8 = w9 at *
      refine wpAnyH_take (i := 0) (v := .agg #[.slice p bs.length cap, .int .i64 a5, .int .i64 0]) rfl (by kernel_rfl) (by kernel_rfl) (by kernel_rfl) (fun _ _ _ h => h) (Or.inl ⟨by kernel_rfl, ?_⟩) hS ?_
      · intro W hw
        obtain ⟨⟨q0, q1, q2⟩, _⟩ := three52 hw.1
        go_simp
      change wpAnyH _ _ _ _ _ _ _ (Act.put _ (some 58) _) _
      simp only [Act.put, List.setIfInBounds_toArray, List.set_cons_succ, List.set_cons_zero]
      refine wpAnyH_take (i := 1) (v := .agg #[.string (strB k), .int .i64 v, .int .i64 s, .int .i64 e, .slice pt t.length ct]) rfl (by kernel_rfl) (by kernel_rfl) (by kernel_rfl) (fun _ _ _ h => h) (Or.inl ⟨by kernel_rfl, ?_⟩) hS ?_
      · intro W hw
        obtain ⟨⟨q0, q1, q2, q3, q4⟩, _⟩ := five24 hw.2
        go_simp
      change wpAnyH _ _ _ _ _ _ _ (Act.put _ (some 59) _) _
      simp only [Act.put, List.setIfInBounds_toArray, List.set_cons_succ, List.set_cons_zero]
      refine wpAnyH_ready (rs := [2]) (by kernel_rfl) (by simp) ?_
      refine AllReadyH.cons rfl (fun K hK => ?_) AllReadyH.nil
      refine step_st52 rfl (.tmp 2) (.tmp 58) rfl (w.heap.size + 1) rfl _ _ _ _ hR2 rfl rfl ⟨rfl, rfl, rfl⟩ ?_
      intro wy hwy hgy
      have hR3y := heap_grownBy hR3 hgy (by omega)
      refine hK.out _ _ (⟨heap_grownBy hS.1 hgy (by have := HEB.out; have := HW0.out; omega), heap_grownBy hS.2 hgy (by have := HNX.out; have := HEB.out; have := HW0.out; omega)⟩) (fun hS => ?_)
      clear hK K
      change wpAnyH _ _ _ _ _ _ _ (Act.put _ (none) _) _
      simp only [Act.put]
      refine wpAnyH_ready (rs := [3]) (by kernel_rfl) (by simp) ?_
      refine AllReadyH.cons rfl (fun K hK => ?_) AllReadyH.nil
      refine step_st24 rfl (.tmp 3) (.tmp 59) rfl (w.heap.size + 2) rfl _ _ _ _ _ _ hR3y rfl rfl ⟨rfl, rfl, rfl, rfl, rfl⟩ ?_
      intro wz hwz hgz
      refine hK.out _ _ (⟨heap_grownBy hS.1 hgz (by have := HEB.out; have := HW0.out; omega), heap_grownBy hS.2 hgz (by have := HNX.out; have := HEB.out; have := HW0.out; omega)⟩) (fun hS => ?_)
      clear hK K
      change wpAnyH _ _ _ _ _ _ _ (Act.put _ (none) _) _
      simp only [Act.put]
      refine wpAnyH_done (by kernel_rfl) ?_ _
      go_wp2_with fail
      refine bodyPost_ret (v := .tuple #[.agg #[.slice p bs.length cap, .int .i64 a5, .int .i64 0], .agg #[.string (strB k), .int .i64 v, .int .i64 s, .int .i64 e, .slice pt t.length ct]]) ?_ rfl ⟨pt, ct, ?_, ?_, ?_⟩
      · exact results_two Tryd.results57 _ _ (w.heap.size + 1) (w.heap.size + 2) rfl rfl _ _ _ _ _ _ _ _ (heap_grownBy hwy hgz (by omega)) hwz
      · rw [HF6.out]
      · rw [HF6.out]; exact (tt9.grown hgy hR2 (by decide)).grown hgz hR3y (by decide)
      · exact two_below (HB0.out.trans (D9.mono HB0.out.size)) hgy hgz
    · have HF6 : Hid (frm bs a code = (zeroE, a5, c6)) := by show _ = _; rw [HF.out, if_neg h6]
      have hd6 : (c6 != 0) = true := by simpa using h6
      have hR2 := HR8.out
      have hR3 := HS8.out
      clear hc6 h6
      go_wp2_with (first
        | (refine st52 rfl (.tmp 2) (.tmp 56) rfl (w.heap.size + 1) rfl _ _ _ _ hR2 rfl rfl ⟨rfl, rfl, rfl⟩ ?_; intro wy hwy hgy; have hR3y := heap_grownBy hR3 hgy (by omega))
        | (refine st24 rfl (.tmp 3) (.tmp 57) rfl (w.heap.size + 2) rfl _ _ _ _ _ _ hR3y rfl rfl ⟨rfl, rfl, rfl, rfl, rfl⟩ ?_; intro wz hwz hgz))
      refine bodyPost_ret (v := .tuple #[.agg #[.slice p bs.length cap, .int .i64 a5, .int .i64 c6], .agg #[.string ⟨#[]⟩, .int .i64 0, .int .i64 0, .int .i64 0, .slice none 0 0]]) ?_ rfl ⟨none, 0, ?_, ?_, ?_⟩
      · exact results_two Tryd.results57 _ _ (w.heap.size + 1) (w.heap.size + 2) rfl rfl _ _ _ _ _ _ _ _ (heap_grownBy hwy hgz (by omega)) hwz
      · rw [HF6.out]; rfl
      · rw [HF6.out]; exact Bs5.nil _
      · exact two_below (HB0.out.trans (D8.out.mono HB0.out.size)) hgy hgz
  · rw [if_neg hc5] at HF
    have HF6 : Hid (frm bs a code = (zeroE, a5, c5)) := by show _ = _; rw [HF.out, if_neg hc5]
    have hd5 : (c5 == 0) = false := by simpa using hc5
    have hd6 : (c5 != 0) = true := by simpa using hc5
    clear hc5
    go_wp2_with (first
      | (refine st24 rfl (.tmp 14) (.tmp 46) rfl v5.heap.size rfl _ _ _ _ _ _ (heap_alloc_new v5 _) rfl rfl ⟨rfl, rfl, rfl, rfl, rfl⟩ ?_; intro v6 z6 y6; have X6 := made_below y6; have ze6 := heap_stays z5 X6; obtain ⟨⟨q0, q1, q2⟩, qf⟩ := three52 ze6; obtain ⟨⟨p0, p1, p2, p3, p4⟩, _⟩ := five24 z6; have hlt := lt_of_block ze6; have hlt2 := lt_of_block z6; have D6 := hid2 (D5.out.trans (X6.mono D5.out.size)); have hR2 := heap_stays HR2.out D6.out; have hR3 := heap_stays HR3.out D6.out)
      | (refine st52 rfl (.tmp 2) (.tmp 56) rfl (w.heap.size + 1) rfl _ _ _ _ hR2 rfl rfl ⟨rfl, rfl, rfl⟩ ?_; intro wy hwy hgy; have hR3y := heap_grownBy hR3 hgy (by omega))
      | (refine st24 rfl (.tmp 3) (.tmp 57) rfl (w.heap.size + 2) rfl _ _ _ _ _ _ hR3y rfl rfl ⟨rfl, rfl, rfl, rfl, rfl⟩ ?_; intro wz hwz hgz))
    refine bodyPost_ret (v := .tuple #[.agg #[.slice p bs.length cap, .int .i64 a5, .int .i64 c5], .agg #[.string ⟨#[]⟩, .int .i64 0, .int .i64 0, .int .i64 0, .slice none 0 0]]) ?_ rfl ⟨none, 0, ?_, ?_, ?_⟩
    · exact results_two Tryd.results57 _ _ (w.heap.size + 1) (w.heap.size + 2) rfl rfl _ _ _ _ _ _ _ _ (heap_grownBy hwy hgz (by omega)) hwz
    · rw [HF6.out]; rfl
    · rw [HF6.out]; exact Bs5.nil _
    · exact two_below (HB0.out.trans (D6.out.mono HB0.out.size)) hgy hgz
end Go.Proofs.YtgmghekgelmmcaaDoor.Ite
