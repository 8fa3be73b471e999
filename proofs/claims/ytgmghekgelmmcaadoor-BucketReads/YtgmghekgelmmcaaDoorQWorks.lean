/-
  The fixed example of the laws.
-/
import Derived.Test.YtgmghekgelmmcaaDoorQRd
import Derived.Test.YtgmghekgelmmcaaDoorQInsert
import Derived.Test.YtgmghekgelmmcaaDoorQBMay
import Derived.Lib.AppendZeros
namespace Go.Proofs.YtgmghekgelmmcaaDoor
open Go.RowKit
open Ite (Ent zeroE checkE sizeE Fine EsAt readE)

def ea : Ent := ⟨⟨#[97]⟩, 1, 1, 0, List.replicate 100 0⟩
def eb : Ent := ⟨⟨#[98]⟩, 1, 1, 0, List.replicate 100 0⟩
def ec : Ent := ⟨⟨#[99]⟩, 1, 1, 0, List.replicate 100 0⟩
def ed : Ent := ⟨⟨#[100]⟩, 1, 1, 0, List.replicate 300 0⟩
theorem w_ins : insP [ea, eb] ec = ([eb, ec], [ea], 0) := by kernel_rfl
theorem w_big : insP [] ed = ([], [], 3) := by kernel_rfl
theorem w_but : butK [eb, ec] ⟨#[99]⟩ = [eb] := by kernel_rfl
theorem w_find : findE [eb, ec] ⟨#[99]⟩ = 1 := by kernel_rfl
theorem w_size : szL [ea] = 106 := by kernel_rfl
theorem w_ab : szL [ea, eb] = 212 := by kernel_rfl
theorem w_check : checkE ea = 0 ∧ checkE eb = 0 ∧ checkE ec = 0 := by decide +kernel
theorem w_two : dupR (readE (Ite.allB [ea, ea])) = ([], 13) := by
  have h := Ite.readE_put [ea, ea] (fun x hx => by
    simp only [List.mem_cons, List.not_mem_nil, or_false, or_self] at hx
    rw [hx]; exact w_check.1)
  rw [h]
  exact dupR_two rfl (by simp)
theorem w_byt : Ite.Byt ea.val := by
  intro x hx
  rw [show ea.val = List.replicate 100 0 from rfl] at hx
  rw [List.eq_of_mem_replicate hx]
  decide
theorem info_u8 : (Tryd.prog.info? 5).map (fun i => (i.zero, i.size, i.bytes)) = some (some (.int .u8 0), 1, 1) := by kernel_rfl
section
variable {ops : Array Oper} {rest : List Oper} {o : Oper} {a : Act}
theorem st_makeb {w : World} {Q : Exit → Act → World → Prop} (hgd : o.guard = none) (l c : Operand) (n : Nat) (d : Nat) (hd : o.dst = some d) (ho : o.op = Op.makeSlice 22 l c) (hl : a.eval l = .int .i64 (n : Int)) (hc : a.eval c = .int .i64 (n : Int)) (hn : n ≤ 1000)
    (h : ∀ w', Ite.Bs w' (.slice (some ⟨w.heap.size, 0, none⟩) n n) (List.replicate n 0) → Below w.heap.size w w' → wpList Tryd.prog ops Q rest (a.put o.dst (.slice (some ⟨w.heap.size, 0, none⟩) n n)) w') : wpList Tryd.prog ops Q (o :: rest) a w := by
  refine wpList_plain hgd fun K hK => ?_
  obtain ⟨i, hi, h1, h2, h3⟩ := info_parts info_u8
  have hbi : (i.bytes : Int) * (n : Int) ≤ 281474976710656 := by rw [h3]; omega
  have hr := run_make (P := Tryd.prog) w 22 5 i (.int .u8 0) Tryd.underlying22 hi h1 .i64 .i64 n n (by omega) (Int.le_refl _) hbi (by omega)
  rw [h2] at hr
  have hz := heap_alloc_new w (.cells (madeCells (Value.int .u8 0).cells (n * 1)) 5)
  have hb : Below w.heap.size w (w.alloc (.cells (madeCells (Value.int .u8 0).cells (n * 1)) 5)) := by go_grown
  have hq : Ite.Bs (w.alloc (.cells (madeCells (Value.int .u8 0).cells (n * 1)) 5)) (.slice (some ⟨w.heap.size, 0, none⟩) n n) (List.replicate n 0) := by
    refine ⟨w.heap.size, .inr ⟨⟨w.heap.size, 0, none⟩, n, by simp [Ite.U], by simp [Ite.U], by unfold maxLen; omega, .inr ⟨0, rfl, lt_of_block hz, fun k u hk => ?_⟩⟩⟩
    have ht := toList_madeCells_one (.int .u8 0) (n * 1)
    simp only [World.cell?, hz, Nat.zero_add]
    have : (madeCells (Value.int .u8 0).cells (n * 1))[k]? = (madeCells #[Value.int .u8 0] (n * 1)).toList[k]? := by rw [Array.getElem?_toList]; rfl
    rw [if_neg (by simp), this, ht, ← hk]
    simp [Ite.U, List.getElem?_replicate]
  unfold Oper.wp
  simp [execOp, ho, hl, hc, hr, Result.andThen, Oper.upon]
  rw [hd] at h ⊢
  have := h _ hq hb
  exact hK _ _ (by simpa using this)
end
def bx (w : World) (b : Nat) (k : ByteArray) (m : Nat) : Prop := w.heap[b]? = some (.cells #[.string k, .int .i64 1, .int .i64 1, .int .i64 0, .slice (some ⟨m, 0, none⟩) 100 100] 39 (0, 0))
theorem bx.below {w w' : World} {b : Nat} {k : ByteArray} {m : Nat} (h : bx w b k m) (f : Below w.heap.size w w') : bx w' b k m := heap_stays h f
theorem two_facts {w w1 w3 : World} {v : Value} {l : List Int} {o : Obj} (q : Ite.Bs w1 v l) (b1 : Below w.heap.size w w1) (b2 : Below (w1.alloc o).heap.size (w1.alloc o) w3) : w3.heap[w1.heap.size]? = some o ∧ Ite.Bs w3 v l ∧ Below w1.heap.size w1 w3 ∧ Below w.heap.size w w3 := by
  have ha : Below w1.heap.size w1 (w1.alloc o) := (Below.refl _ _).alloc (Nat.le_refl _) o
  have D := ha.trans (b2.mono ha.size)
  exact ⟨heap_stays (heap_alloc_new w1 o) b2, q.stays D, D, b1.trans (D.mono b1.size)⟩
theorem e_two {w : World} {k1 k2 : ByteArray} {p q : Option Addr} {V : List Int} {n : Nat} (hn : V.length = n) (x y : Ent) (ex : x = ⟨k1, 1, 1, 0, V⟩) (ey : y = ⟨k2, 1, 1, 0, V⟩) (hx : Ite.Bs w (.slice p n n) V) (hy : Ite.Bs w (.slice q n n) V) :
    EsAt (w.alloc (.cells #[.string k1, .int .i64 1, .int .i64 1, .int .i64 0, .slice p n n, .string k2, .int .i64 1, .int .i64 1, .int .i64 0, .slice q n n] 39)) (.slice (some ⟨w.heap.size, 0, none⟩) 2 2) [x, y] := by
  subst hn ex ey
  exact Ite.ents_two (x := ⟨k1, 1, 1, 0, V⟩) (y := ⟨k2, 1, 1, 0, V⟩) hx hy
theorem e_one {w : World} {k1 : ByteArray} {p : Option Addr} {V : List Int} {n : Nat} (hn : V.length = n) (x : Ent) (ex : x = ⟨k1, 1, 1, 0, V⟩) (hx : Ite.Bs w (.slice p n n) V) :
    EsAt (w.alloc (.cells #[.string k1, .int .i64 1, .int .i64 1, .int .i64 0, .slice p n n] 39)) (.slice (some ⟨w.heap.size, 0, none⟩) 1 1) [x] := by
  subst hn ex
  exact Ite.ents_one (x := ⟨k1, 1, 1, 0, V⟩) hx
theorem ins_lit {w : World} {v : Value} {L : List Ent} (h : EsAt w v L) (hf : ∀ y ∈ L, Fine y) (hl : L.length ≤ 9000) (hz : szL L ≤ 90000) {k : ByteArray} {V : List Int} {n : Nat} (hn : V.length = n) (x : Ent) (ex : x = ⟨k, 1, 1, 0, V⟩) {r : List Ent × List Ent × Int} (hr : insP L x = r) {q : Option Addr} (hx : Ite.Bs w (.slice q n n) V) (hk : k.size ≤ 100000) (hV : n ≤ 20000) :
    Calls Tryd.prog 14 #[v, .agg #[.string k, .int .i64 1, .int .i64 1, .int .i64 0, .slice q n n]] w fun e w' => ∃ a g u, e = .returned (.tuple #[a, g, u]) ∧ EsAt w' a r.1 ∧ EsAt w' g r.2.1 ∧ Ite.Fault1 w' u r.2.2 ∧ Below w.heap.size w w' := by
  subst hn ex hr
  exact insert_any h hf hl hz ⟨k, 1, 1, 0, V⟩ hx hk hV
theorem split2 (p : Nat × Nat) : ∃ x y, p = (x, y) := ⟨p.1, p.2, rfl⟩
theorem rep_len (n : Nat) : (List.replicate n (0 : Int)).length = n := List.length_replicate ..
set_option maxHeartbeats 4000000 in
set_option maxRecDepth 10000 in
theorem works_any (w : World) (hE : ErrT w) : Calls Tryd.prog 7 #[] w fun e w' => e = .returned (.bool true) ∧ Below w.heap.size w w' := by
  have HE := hid2 hE
  have f0 := Ite.fine_of w_check.1
  have f1 := Ite.fine_of w_check.2.1
  have f2 := Ite.fine_of w_check.2.2
  have HF0 := hid2 f0
  have HF1 := hid2 f1
  have HF2 := hid2 f2
  clear hE f0 f1 f2
  go_enter Tryd.func7, Tryd.ntmps7
  go_wp2_with (first
    | (refine st_makeb rfl (.const (.int .i64 100)) (.const (.int .i64 100)) 100 14 rfl rfl rfl rfl (by omega) ?_; intro w1 hq1 hb1; have HQ1 := hid2 hq1; have HB1 := hid2 hb1; clear hq1 hb1)
    | (refine st_makeb rfl (.const (.int .i64 100)) (.const (.int .i64 100)) 100 16 rfl rfl rfl rfl (by omega) ?_; intro w3 hq2 hb2; obtain ⟨X1, Q1, D1, D3⟩ := two_facts HQ1.out HB1.out hb2; rw [show (w1.alloc (.cells #[.string ⟨#[97]⟩, .int .i64 1, .int .i64 1, .int .i64 0, .slice (some ⟨w.heap.size, 0, none⟩) 100 100] 39)).heap.size = w1.heap.size + 1 by simp] at hq2; have HX1 := hid2 (show bx w3 w1.heap.size ⟨#[97]⟩ w.heap.size from X1); have HQ1' := hid2 Q1; have HD3 := hid2 D3; have HQ2 := hid2 hq2; clear hq2 hb2 X1 Q1 D1 D3)
    | (refine st_makeb rfl (.const (.int .i64 100)) (.const (.int .i64 100)) 100 18 rfl rfl rfl rfl (by omega) ?_; intro w5 hq3 hb3; obtain ⟨X2, Q2, D35, D5⟩ := two_facts HQ2.out HD3.out hb3; rw [show (w3.alloc (.cells #[.string ⟨#[98]⟩, .int .i64 1, .int .i64 1, .int .i64 0, .slice (some ⟨w1.heap.size + 1, 0, none⟩) 100 100] 39)).heap.size = w3.heap.size + 1 by simp] at hq3; have HX2 := hid2 (show bx w5 w3.heap.size ⟨#[98]⟩ (w1.heap.size + 1) from X2); have HX1' := hid2 (HX1.out.below D35); have HQ1'' := hid2 (HQ1'.out.stays D35); have HQ2' := hid2 Q2; have HQ3 := hid2 hq3; have HD5 := hid2 D5; clear hq3 hb3 X2 Q2 D35 D5; obtain ⟨⟨q0, q1, q2, q3, q4⟩, _⟩ := Ite.five24 HX1'.out; obtain ⟨⟨r0, r1, r2, r3, r4⟩, _⟩ := Ite.five24 HX2.out; have l1 := lt_of_block HX1'.out; have l2 := lt_of_block HX2.out))
  obtain ⟨w6, hw6⟩ : ∃ w6, w6 = w5.alloc (.cells #[.string ⟨#[99]⟩, .int .i64 1, .int .i64 1, .int .i64 0, .slice (some ⟨w3.heap.size + 1, 0, none⟩) 100 100] 39) := ⟨_, rfl⟩
  have A56 : Below w5.heap.size w5 w6 := by rw [hw6]; go_grown
  have S6 : w5.heap.size + 1 = w6.heap.size := by rw [hw6]; simp
  rw [← hw6, S6]
  clear S6
  have HX1'' := hid2 (HX1'.out.below A56)
  have HQA := hid2 (HQ1''.out.stays A56)
  have HQB := hid2 (HQ2'.out.stays A56)
  have HQC := hid2 (HQ3.out.stays A56)
  have HD6 := hid2 (HD5.out.trans (A56.mono HD5.out.size))
  clear A56 hw6 q0 q1 q2 q3 q4 r0 r1 r2 r3 r4 l1 l2 HX1 HX1' HX2 HQ1 HQ1' HQ1'' HQ2 HQ2' HQ3 HD3 HD5 HB1
  have hal : Below w6.heap.size w6 (w6.alloc (.cells #[.string ⟨#[97]⟩, .int .i64 1, .int .i64 1, .int .i64 0, .slice (some ⟨w.heap.size, 0, none⟩) 100 100, .string ⟨#[98]⟩, .int .i64 1, .int .i64 1, .int .i64 0, .slice (some ⟨w1.heap.size + 1, 0, none⟩) 100 100] 39)) := by go_grown
  have e6 := e_two (rep_len 100) ea eb rfl rfl HQA.out HQB.out
  have q6 := Ite.Bs.stays HQC.out hal
  have KI := hid2 (ins_lit e6 (fun y hy => by
    simp only [List.mem_cons, List.not_mem_nil, or_false] at hy
    rcases hy with rfl | rfl
    · exact HF0.out
    · exact HF1.out) (by decide) (by rw [w_ab]; omega) (rep_len 100) ec rfl w_ins q6 (by decide) (by omega))
  have HAL := hid2 hal
  clear e6 q6 hal
  refine (show Calls _ _ _ _ _ from KI.out).mono ?_
  rintro e w7 ⟨va, vg, vu, rfl, ea7, eg7, fu7, hb7⟩
  obtain rfl := Ite.Fault1.zero fu7
  obtain ⟨pa, ca, rfl, _, _⟩ := ea7.form
  obtain ⟨pg, cg, rfl, _, _⟩ := eg7.form
  have D67 := HAL.out.trans (hb7.mono HAL.out.size)
  have HD7 := hid2 (HD6.out.trans (D67.mono HD6.out.size))
  have HX7 := hid2 (HX1''.out.below D67)
  have HQ7 := hid2 (HQA.out.stays D67)
  have HA7 := hid2 ea7
  have HG7 := hid2 eg7
  clear ea7 eg7 fu7 hb7 D67 HAL KI HX1'' HQA HQB HQC HD6
  go_wp2_with (refine st_makeb rfl (.const (.int .i64 300)) (.const (.int .i64 300)) 300 30 rfl rfl rfl rfl (by omega) ?_; intro w8 hq8 hb8; have HQ8 := hid2 hq8; have HD8 := hid2 (HD7.out.trans (hb8.mono HD7.out.size)); have HX8 := hid2 (HX7.out.below hb8); have HA8 := hid2 (HA7.out.stays hb8); have HG8 := hid2 (HG7.out.stays hb8); have HQ18 := hid2 (HQ7.out.stays hb8); clear hq8 hb8)
  have KD := hid2 (ins_lit (EsAt.nil w8) (fun y hy => by cases hy) (by decide) (by decide) (rep_len 300) ed rfl w_big HQ8.out (by decide) (by omega))
  refine (show Calls _ _ _ _ _ from KD.out).mono ?_
  rintro e w9 ⟨vb, vh, vf, rfl, eb9, eh9, ff9, hb9⟩
  have HF9 := hid2 ff9
  have HD9 := hid2 (HD8.out.trans (hb9.mono HD8.out.size))
  have HX9 := hid2 (HX8.out.below hb9)
  have HA9 := hid2 (HA8.out.stays hb9)
  have HG9 := hid2 (HG8.out.stays hb9)
  have HQ9 := hid2 (HQ18.out.stays hb9)
  clear eb9 eh9 ff9 hb9 HX7 HX8 HA7 HA8 HG7 HG8 HQ7 HQ8 HQ18
  obtain ⟨⟨q0, q1, q2, q3, q4⟩, _⟩ := Ite.five24 HX9.out
  have l9 := lt_of_block HX9.out
  have hal : Below w9.heap.size w9 (w9.alloc (.cells #[.string ⟨#[97]⟩, .int .i64 1, .int .i64 1, .int .i64 0, .slice (some ⟨w.heap.size, 0, none⟩) 100 100, .string ⟨#[97]⟩, .int .i64 1, .int .i64 1, .int .i64 0, .slice (some ⟨w.heap.size, 0, none⟩) 100 100] 39)) := by go_grown
  have e9 := e_two (rep_len 100) ea ea rfl rfl HQ9.out HQ9.out
  have KA := hid2 (Ite.all_any e9 (fun y hy => by
    simp only [List.mem_cons, List.not_mem_nil, or_false, or_self] at hy
    rw [hy]; exact HF0.out) (by decide +kernel))
  have HAL := hid2 hal
  clear e9 hal
  go_wp2_with fail
  refine (show Calls _ _ _ _ _ from KA.out).mono ?_
  rintro e w10 ⟨sv, rfl, ho10, hb10⟩
  obtain ⟨b10, _, hs10⟩ := Ite.own_sl ho10
  have D10 := HAL.out.trans (hb10.mono HAL.out.size)
  have HD10 := hid2 (HD9.out.trans (D10.mono HD9.out.size))
  have HX10 := hid2 (HX9.out.below D10)
  have HA10 := hid2 (HA9.out.stays D10)
  have HG10 := hid2 (HG9.out.stays D10)
  have HQ10 := hid2 (HQ9.out.stays D10)
  have HF10 := hid2 (HF9.out.below D10)
  have HE10 := hid2 (HE.out.below HD10.out)
  have KR := hid2 (bread_any hs10 (Ite.allB_byt (fun x hx => by
    simp only [List.mem_cons, List.not_mem_nil, or_false, or_self] at hx
    rw [hx]; exact w_byt)) (by decide +kernel) HE10.out)
  rw [w_two] at KR
  clear ho10 hb10 hs10 D10 q0 q1 q2 q3 q4 HX9 HA9 HG9 HQ9 HF9
  go_wp2_with fail
  refine (show Calls _ _ _ _ _ from KR.out).mono ?_
  rintro e w11 ⟨rv, ru, rfl, _, fr11, hb11⟩
  have HD11 := hid2 (HD10.out.trans (hb11.mono HD10.out.size))
  have HX11 := hid2 (HX10.out.below hb11)
  have HA11 := hid2 (HA10.out.stays hb11)
  have HG11 := hid2 (HG10.out.stays hb11)
  have HQ11 := hid2 (HQ10.out.stays hb11)
  have HF11 := hid2 (HF10.out.below hb11)
  have HR11 := hid2 fr11
  clear fr11 hb11 HX10 HA10 HG10 HQ10 HF10 KR KA HAL
  have KB := hid2 (remove_any HA11.out (fun y hy => by
    simp only [List.mem_cons, List.not_mem_nil, or_false] at hy
    rcases hy with rfl | rfl
    · exact HF1.out
    · exact HF2.out) (by decide) ⟨#[99]⟩)
  rw [w_but, w_find] at KB
  go_wp2_with fail
  refine (show Calls _ _ #[.slice pa 2 ca, .string ⟨#[99]⟩] _ _ from KB.out).mono ?_
  rintro e w12 ⟨vm, cs12, rfl, ho12, _, hb12⟩
  obtain ⟨pm, cm, rfl⟩ := own_form5 ho12
  have HD12 := hid2 (HD11.out.trans (hb12.mono HD11.out.size))
  have HX12 := hid2 (HX11.out.below hb12)
  have HA12 := hid2 (HA11.out.stays hb12)
  have HG12 := hid2 (HG11.out.stays hb12)
  have HQ12 := hid2 (HQ11.out.stays hb12)
  have HF12 := hid2 (HF11.out.below hb12)
  have HR12 := hid2 (HR11.out.below hb12)
  have HE12 := hid2 (HE.out.below HD12.out)
  clear ho12 hb12 HX11 HA11 HG11 HQ11 HF11 HR11 KB
  obtain ⟨g0, go, gq, gc, hpg, hgl, hgr, _⟩ := EsAt.cells HG12.out (k := 0) (x := ea) rfl
  obtain ⟨a0, ao, aq, ac, hpa, hal0, har, _⟩ := EsAt.cells HA12.out (k := 1) (x := ec) rfl
  subst hpg hpa
  have k0 := hgr 0 _ rfl
  have k1 := har 0 _ rfl
  rw [Nat.zero_mul, Nat.add_zero] at k0
  rw [Nat.one_mul, Nat.add_zero] at k1
  rw [show ea.key = ⟨#[97]⟩ from rfl] at k0
  rw [show ec.key = ⟨#[99]⟩ from rfl] at k1
  clear hgr har
  go_wp2_with fail
  refine (Ite.of_code HE12.out HF12.out.fault).mono ?_
  rintro e w13 ⟨rfl, hb13⟩
  have HD13 := hid2 (HD12.out.trans (hb13.mono HD12.out.size))
  have HX13 := hid2 (HX12.out.below hb13)
  have HA13 := hid2 (HA12.out.stays hb13)
  have HQ13 := hid2 (HQ12.out.stays hb13)
  have HR13 := hid2 (HR12.out.below hb13)
  have HE13 := hid2 (HE.out.below HD13.out)
  clear hb13 k0 k1
  go_wp2_with fail
  refine (Ite.of_code HE13.out HR13.out).mono ?_
  rintro e w14 ⟨rfl, hb14⟩
  have HD14 := hid2 (HD13.out.trans (hb14.mono HD13.out.size))
  have HX14 := hid2 (HX13.out.below hb14)
  have HA14 := hid2 (HA13.out.stays hb14)
  have HQ14 := hid2 (HQ13.out.stays hb14)
  clear hb14
  have KF := hid2 (bfind_any HA14.out ⟨#[99]⟩)
  rw [w_find] at KF
  go_wp2_with fail
  refine (show Calls _ _ #[.slice (some ⟨a0, ao, none⟩) 2 ca, .string ⟨#[99]⟩] _ _ from KF.out).mono ?_
  rintro e w15 ⟨rfl, hb15⟩
  have HD15 := hid2 (HD14.out.trans (hb15.mono HD14.out.size))
  have HX15 := hid2 (HX14.out.below hb15)
  have HA15 := hid2 (HA14.out.stays hb15)
  have HQ15 := hid2 (HQ14.out.stays hb15)
  clear hb15 KF
  obtain ⟨⟨q0, q1, q2, q3, q4⟩, _⟩ := Ite.five24 HX15.out
  have l15 := lt_of_block HX15.out
  have hal : Below w15.heap.size w15 (w15.alloc (.cells #[.string ⟨#[97]⟩, .int .i64 1, .int .i64 1, .int .i64 0, .slice (some ⟨w.heap.size, 0, none⟩) 100 100] 39)) := by go_grown
  have KS := hid2 (bsize_any (xs := [ea]) (e_one (rep_len 100) ea rfl HQ15.out) (fun y hy => by rw [List.mem_singleton.1 hy]; exact HF0.out) (by rw [w_size]; omega))
  rw [w_size] at KS
  have HAL := hid2 hal
  clear hal
  go_wp2_with fail
  refine (show Calls _ _ #[.slice (some ⟨w15.heap.size, 0, none⟩) 1 1] _ _ from KS.out).mono ?_
  rintro e w16 ⟨rfl, hb16⟩
  have D16 := HAL.out.trans (hb16.mono HAL.out.size)
  have HD16 := hid2 (HD15.out.trans (D16.mono HD15.out.size))
  have HA16 := hid2 (HA15.out.stays D16)
  clear hb16 D16 q0 q1 q2 q3 q4 KS HAL
  obtain ⟨fx, fy, hof⟩ : ∃ fx fy, Blo.ofF (Blo.hs ([eb, ec].map (·.key))) = (fx, fy) := split2 _
  have hw := Blo.wide_ofF (Blo.hs ([eb, ec].map (·.key)))
  have hmay := Blo.may_mem (l := Blo.hs ([eb, ec].map (·.key))) (h := Blo.hash (Blo.bl ⟨#[98]⟩)) (by
    show _ ∈ Blo.hs [eb.key, ec.key]
    exact List.mem_cons_self ..)
  rw [hof] at hw hmay
  have KF := hid2 (filter_any HA16.out (fun y hy => by
    simp only [List.mem_cons, List.not_mem_nil, or_false] at hy
    rcases hy with rfl | rfl <;> decide) hof)
  have KM := hid2 (fun W => Blo.may_any W fx fy (Blo.hash (Blo.bl ⟨#[98]⟩)) hw.1 hw.2 (Blo.hash_lt _))
  rw [hmay] at KM
  clear hof hw hmay
  go_wp2_with fail
  refine (show Calls _ _ #[.slice (some ⟨a0, ao, none⟩) 2 ca] _ _ from KF.out).mono ?_
  rintro e w17 ⟨rfl, hb17⟩
  have HD17 := hid2 (HD16.out.trans (hb17.mono HD16.out.size))
  clear hb17
  go_wp2_with fail
  refine (Blo.hash_any _ ⟨#[98]⟩ (by decide)).mono ?_
  rintro e w18 ⟨rfl, hw18⟩
  cases hw18
  go_wp2_with fail
  refine (show Calls _ _ _ _ _ from KM.out _).mono ?_
  rintro e w19 ⟨rfl, hb19⟩
  have HD19 := hid2 (HD17.out.trans (hb19.mono HD17.out.size))
  clear hb19
  go_wp2
  go_ret
  exact ⟨rfl, HD19.out⟩
end Go.Proofs.YtgmghekgelmmcaaDoor
