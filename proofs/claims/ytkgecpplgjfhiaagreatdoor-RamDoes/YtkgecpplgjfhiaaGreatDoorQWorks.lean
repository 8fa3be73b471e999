/-
  The fixed example of the laws.
-/
import Derived.Test.YtkgecpplgjfhiaaGreatDoorQOpenR
import Derived.Test.YtkgecpplgjfhiaaGreatDoorQNew
import Derived.Lib.AppendZeros
namespace Go.Proofs.YtkgecpplgjfhiaaGreatDoor
open Go.RowKit Go.Extern.Stop Go.Stop Go.Extern
open Ite (Ent zeroE checkE sizeE)
open Lis (Lst but Tag)

def ea : Ent := ⟨⟨#[97]⟩, 1, 1, 0, []⟩
def eb : Ent := ⟨⟨#[98]⟩, 1, 1, 0, List.replicate 40 0⟩
def ec : Ent := ⟨⟨#[99]⟩, 1, 1, 0, []⟩
def ed : Ent := ⟨⟨#[100]⟩, 1, 1, 0, List.replicate 70 0⟩
theorem w_s1 : setP 100 [] ea 0 = ([ea], [], 0) := by kernel_rfl
theorem w_s2 : setP 100 [ea] eb 0 = ([eb, ea], [], 0) := by kernel_rfl
theorem w_g1 : getP [eb, ea] ⟨#[97]⟩ 0 = ([ea, eb], ea, true) := by kernel_rfl
theorem w_s3 : setP 100 [ea, eb] ec 0 = ([ec, ea], [eb], 0) := by kernel_rfl
theorem w_s4 : setP 100 [ec, ea] ed 0 = ([ec, ea], [], 3) := by kernel_rfl
theorem w_u : usedL [ec, ea] = 64 := by kernel_rfl

theorem ErrT.frR {B : Nat} {w w' : World} (h : ErrT w) (f : Fr B w w') (h0 : 0 < B) : ErrT w' := by
  unfold ErrT at h ⊢
  have hlt := World.block_lt_of_cell? w _ h
  rw [cell_eq (f.block 0 hlt (.inl h0))]; exact h
theorem Lk.frR {B : Nat} {w w' : World} {v : Value} {ls : List Lnk} (h : Lk w v ls) (f : Fr B w w') : Lk w' v ls := by
  induction ls generalizing v with
  | nil => exact h
  | cons l r ih =>
    obtain ⟨op, a, c⟩ := l
    obtain ⟨b, u, h1, h2, h3⟩ := h
    exact ⟨b, u, h1, f.ent h2 (by decide), ih h3⟩
theorem Fault1.frR {B : Nat} {w w' : World} {v : Value} {code : Int} (h : Ite.Fault1 w v code) (f : Fr B w w') : Ite.Fault1 w' v code := by
  rcases h with h | ⟨h1, op, a, p, h2, h3⟩
  · exact .inl h
  · exact .inr ⟨h1, op, a, p, Lk.frR h2 f, h3⟩
theorem info_u8 : (Tryz.prog.info? 5).map (fun i => (i.zero, i.size, i.bytes)) = some (some (.int .u8 0), 1, 1) := by kernel_rfl
section
variable {ops : Array Oper} {rest : List Oper} {o : Oper} {a : Act}
theorem st_makeb {w : World} {B : Nat} {Q : Exit → Act → World → Prop} (hgd : o.guard = none) (l c : Operand) (n : Nat) (ho : o.op = Op.makeSlice 23 l c) (hl : a.eval l = .int .i64 (n : Int)) (hc : a.eval c = .int .i64 (n : Int)) (hn : n ≤ 1000)
    (h : ∀ w', Bq w' B (.slice (some ⟨w.heap.size, 0, none⟩) n n) (List.replicate n 0) → Below w.heap.size w w' → wpList Tryz.prog ops Q rest (a.put o.dst (.slice (some ⟨w.heap.size, 0, none⟩) n n)) w') : wpList Tryz.prog ops Q (o :: rest) a w := by
  refine wpList_plain hgd fun K hK => ?_
  obtain ⟨i, hi, h1, h2, h3⟩ := info_parts info_u8
  have hbi : (i.bytes : Int) * (n : Int) ≤ 281474976710656 := by rw [h3]; omega
  have hr := run_make (P := Tryz.prog) w 23 5 i (.int .u8 0) Tryz.underlying23 hi h1 .i64 .i64 n n (by omega) (Int.le_refl _) hbi (by omega)
  rw [h2] at hr
  have hz := heap_alloc_new w (.cells (madeCells (Value.int .u8 0).cells (n * 1)) 5)
  have hb : Below w.heap.size w (w.alloc (.cells (madeCells (Value.int .u8 0).cells (n * 1)) 5)) := by go_grown
  have hq : Bq (w.alloc (.cells (madeCells (Value.int .u8 0).cells (n * 1)) 5)) B (.slice (some ⟨w.heap.size, 0, none⟩) n n) (List.replicate n 0) := by
    refine ⟨w.heap.size, .inr ⟨⟨w.heap.size, 0, none⟩, n, by simp [Ite.U], by simp [Ite.U], by unfold maxLen; omega, .inr ⟨0, rfl, lt_of_block hz, fun k u hk => ?_⟩⟩, .inr (.inr ⟨_, _, hz⟩)⟩
    have ht := toList_madeCells_one (.int .u8 0) (n * 1)
    simp only [World.cell?, hz, Nat.zero_add]
    have : (madeCells (Value.int .u8 0).cells (n * 1))[k]? = (madeCells #[Value.int .u8 0] (n * 1)).toList[k]? := by rw [Array.getElem?_toList]; rfl
    rw [if_neg (by simp), this, ht, ← hk]
    simp [Ite.U, List.getElem?_replicate]
  unfold Oper.wp
  simp [execOp, ho, hl, hc, hr, Result.andThen, Oper.upon]
  have := h _ hq hb
  exact hK _ _ (by simpa using this)
end
theorem mk_check : checkE ea = 0 ∧ checkE eb = 0 ∧ checkE ec = 0 ∧ checkE ed = 0 := by decide +kernel
set_option maxHeartbeats 4000000 in
set_option maxRecDepth 10000 in
theorem works_any (w : World) (hE : ErrT w) (h0 : 0 < w.heap.size) : Calls Tryz.prog 9 #[] w fun e w' => e = .returned (.bool true) ∧ Below w.heap.size w w' := by
  have HE := hid2 hE
  clear hE
  go_enter Tryz.func9, Tryz.ntmps9
  go_wp2_with fail
  refine (show Calls _ _ #[.int .i64 100] _ _ from new_t w 100 (by omega) (by omega)).mono ?_
  rintro e w1 ⟨g, rfl, ht1, hb1⟩
  have HT1 : Hid (Tier w1 w.heap.size g 100 [] 0) := ht1
  have F1 := hid2 (Fr.of (B := w.heap.size) hb1)
  clear ht1 hb1
  go_wp2_with fail
  refine (new_bad w1 0 (by omega)).mono ?_
  rintro e w2 ⟨vf, rfl, hf2, hb2⟩
  have HT2 := hid2 (HT1.out.below hb2)
  have F2 := hid2 (F1.out.then_ hb2)
  have FL2 := hid2 hf2
  clear hf2 hb2
  go_wp2_with fail
  refine (show Calls _ _ #[.pointer (some ⟨g, 0, none⟩), .agg #[.string ⟨#[97]⟩, .int .i64 1, .int .i64 1, .int .i64 0, .slice none 0 0], .int .i64 0] _ _ from set_t HT2.out (by omega) ea (p := none) (c := 0) (Bq.nil _ _) (by decide) (by decide) 0).mono ?_
  rintro e w3 ⟨ga, fa, rfl, ga3, fa3, f3, ht3⟩
  rw [w_s1] at ga3 fa3 ht3
  obtain rfl := Ite.Fault1.zero fa3
  obtain ⟨pa, ca, rfl, _, _⟩ := ga3.form
  have HT3 := hid2 ht3
  have F3 := hid2 (F2.out.trans f3)
  have FL3 := hid2 (Fault1.frR FL2.out f3)
  clear ga3 fa3 f3 ht3
  go_wp2_with (refine st_makeb (B := w.heap.size) rfl (.const (.int .i64 40)) (.const (.int .i64 40)) 40 rfl rfl rfl (by omega) ?_; intro w4 hq4 hb4; have HQ4 := hid2 hq4; have HT4 := hid2 (HT3.out.below hb4); have F4 := hid2 (F3.out.then_ hb4); have FL4 := hid2 (FL3.out.below hb4); clear hq4 hb4)
  refine (show Calls _ _ #[.pointer (some ⟨g, 0, none⟩), .agg #[.string ⟨#[98]⟩, .int .i64 1, .int .i64 1, .int .i64 0, .slice (some ⟨w3.heap.size, 0, none⟩) 40 40], .int .i64 0] _ _ from set_t HT4.out (by omega) eb (p := some ⟨w3.heap.size, 0, none⟩) (c := 40) HQ4.out (by decide) (by decide) 0).mono ?_
  rintro e w5 ⟨gb, fb, rfl, gb5, fb5, f5, ht5⟩
  rw [w_s2] at gb5 fb5 ht5
  obtain rfl := Ite.Fault1.zero fb5
  obtain ⟨pb, cb, rfl, _, _⟩ := gb5.form
  have HT5 := hid2 ht5
  have F5 := hid2 (F4.out.trans f5)
  have FL5 := hid2 (Fault1.frR FL4.out f5)
  clear gb5 fb5 f5 ht5 HQ4
  go_wp2_with fail
  refine (show Calls _ _ #[.pointer (some ⟨g, 0, none⟩), .string ⟨#[97]⟩, .int .i64 0] _ _ from get_t HT5.out (by omega) ⟨#[97]⟩ 0 (by decide)).mono ?_
  rintro e w6 ⟨pg, cg, rfl, _, f6, ht6⟩
  rw [w_g1] at ht6 ⊢
  have HT6 := hid2 ht6
  have F6 := hid2 (F5.out.trans f6)
  have FL6 := hid2 (Fault1.frR FL5.out f6)
  have Y6 := hid2 (heap_alloc_new w6 (.cells #[.string ⟨#[]⟩, .int .i64 0, .int .i64 0, .int .i64 0, .slice none 0 0] 25))
  have BA : Hid (Below w6.heap.size w6 (w6.alloc (.cells #[.string ⟨#[]⟩, .int .i64 0, .int .i64 0, .int .i64 0, .slice none 0 0] 25))) := by show Below _ _ _; go_grown
  clear f6 ht6
  go_wp2_with (refine Ite.st24 rfl (.tmp 9) (.tmp 45) rfl w6.heap.size rfl _ _ _ _ _ _ Y6.out rfl rfl ⟨rfl, rfl, rfl, rfl, rfl⟩ ?_; intro w7 hw7 hg7; have hb7 : Below w6.heap.size w6 w7 := BA.out.grown hg7 BA.out.size (fun j hj => by (cases hj; exact Nat.le_refl _)); have HT7 := hid2 (HT6.out.below hb7); have F7 := hid2 (F6.out.then_ hb7); have FL7 := hid2 (FL6.out.below hb7); clear hw7 hg7 hb7)
  refine (show Calls _ _ #[.pointer (some ⟨g, 0, none⟩), .agg #[.string ⟨#[99]⟩, .int .i64 1, .int .i64 1, .int .i64 0, .slice none 0 0], .int .i64 0] _ _ from set_t HT7.out (by omega) ec (p := none) (c := 0) (Bq.nil _ _) (by decide) (by decide) 0).mono ?_
  rintro e w8 ⟨gc, fc, rfl, gc8, fc8, f8, ht8⟩
  rw [w_s3] at gc8 fc8 ht8
  obtain rfl := Ite.Fault1.zero fc8
  obtain ⟨pc, cc, rfl, _, _⟩ := gc8.form
  have HGC8 := hid2 gc8
  have HT8 := hid2 ht8
  have F8 := hid2 (F7.out.trans f8)
  have FL8 := hid2 (Fault1.frR FL7.out f8)
  clear gc8 fc8 f8 ht8
  go_wp2_with (refine st_makeb (B := w.heap.size) rfl (.const (.int .i64 70)) (.const (.int .i64 70)) 70 rfl rfl rfl (by omega) ?_; intro w9 hq9 hb9; have HQ9 := hid2 hq9; have HT9 := hid2 (HT8.out.below hb9); have F9 := hid2 (F8.out.then_ hb9); have FL9 := hid2 (FL8.out.below hb9); have HGC9 := hid2 (HGC8.out.stays hb9); clear hq9 hb9)
  refine (show Calls _ _ #[.pointer (some ⟨g, 0, none⟩), .agg #[.string ⟨#[100]⟩, .int .i64 1, .int .i64 1, .int .i64 0, .slice (some ⟨w8.heap.size, 0, none⟩) 70 70], .int .i64 0] _ _ from set_t HT9.out (by omega) ed (p := some ⟨w8.heap.size, 0, none⟩) (c := 70) HQ9.out (by decide) (by decide) 0).mono ?_
  rintro e w10 ⟨gd, fd, rfl, _, fd10, f10, ht10⟩
  rw [w_s4] at fd10 ht10
  have HT10 := hid2 ht10
  have F10 := hid2 (F9.out.trans f10)
  have FL10 := hid2 (Fault1.frR FL9.out f10)
  have FD10 := hid2 fd10
  have HGC10 := hid2 (HGC9.out.fr f10)
  have HE10 := hid2 (HE.out.frR F10.out h0)
  clear fd10 f10 ht10 HQ9
  go_wp2_with fail
  refine (Ite.of_code HE10.out FL10.out.fault).mono ?_
  rintro e w11 ⟨rfl, hb11⟩
  have HT11 := hid2 (HT10.out.below hb11)
  have F11 := hid2 (F10.out.then_ hb11)
  have FD11 := hid2 (FD10.out.below hb11)
  have HE11 := hid2 (HE10.out.below hb11)
  obtain ⟨b, off, q, c, hp, hrange, _⟩ := (HGC10.out.stays hb11).cells (k := 0) (x := eb) rfl
  subst hp
  have k0 := hrange 0 _ rfl
  rw [Nat.zero_mul, Nat.add_zero] at k0
  have hk : eb.key = ⟨#[98]⟩ := rfl
  rw [hk] at k0
  clear hb11 hrange
  go_wp2_with fail
  refine (Ite.of_code HE11.out FD11.out.fault).mono ?_
  rintro e w12 ⟨rfl, hb12⟩
  have HT12 := hid2 (HT11.out.below hb12)
  have F12 := hid2 (F11.out.then_ hb12)
  clear hb12
  have KU := hid2 (used_t HT12.out)
  rw [w_u] at KU
  have KN := hid2 (len_t HT12.out)
  have KI := hid2 (limit_t HT12.out)
  go_wp2_with fail
  refine (show Calls _ _ _ _ _ from KU.out).mono ?_
  rintro e w13 ⟨rfl, hw⟩
  subst hw
  go_wp2_with fail
  refine (show Calls _ _ _ _ _ from KN.out).mono ?_
  rintro e w14 ⟨rfl, hw⟩
  subst hw
  go_wp2_with fail
  refine (show Calls _ _ _ _ _ from KI.out).mono ?_
  rintro e w15 ⟨rfl, hw⟩
  subst hw
  go_wp2
  go_ret
  exact ⟨rfl, F12.out.below (Nat.le_refl _)⟩
end Go.Proofs.YtkgecpplgjfhiaaGreatDoor
