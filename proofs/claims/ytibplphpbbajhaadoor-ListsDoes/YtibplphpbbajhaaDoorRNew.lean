/-
  New of the document.
-/
import Derived.Test.YtibplphpbbajhaaDoorRList
namespace Go.Proofs.YtibplphpbbajhaaDoor
open Go.RowKit

/-- A value is the document's lists, in memory from B on. -/
def RV (w : World) (B : Nat) (v : Value) (s : Lst) : Prop := ∃ pL nL cL pF nF cF pU nU cU, v = .agg #[.slice pL nL cL, .slice pF nF cF, .slice pU nU cU, .int .i64 s.n] ∧ LL w B (.slice pL nL cL) s.L ∧ Ls w B (.slice pF nF cF) s.F ∧ Ls w B (.slice pU nU cU) s.U
theorem RV.mid {B0 B : Nat} {w w' : World} {v : Value} {s : Lst} (h : RV w B v s) (m : Mid B0 B w w') : RV w' B v s := by
  obtain ⟨pL, nL, cL, pF, nF, cF, pU, nU, cU, e, h1, h2, h3⟩ := h
  exact ⟨pL, nL, cL, pF, nF, cF, pU, nU, cU, e, h1.mid m, h2.mid m, h3.mid m⟩
theorem RV.other {B q : Nat} {T : TypeId} {w w' : World} {v : Value} {s : Lst} (h : RV w B v s) (m : w.grownBy w' (some q)) (k : Tag w q T) (hT : T ≠ 3) (hT' : T ≠ 30) : RV w' B v s := by
  obtain ⟨pL, nL, cL, pF, nF, cF, pU, nU, cU, e, h1, h2, h3⟩ := h
  exact ⟨pL, nL, cL, pF, nF, cF, pU, nU, cU, e, h1.other m k hT hT', h2.other m k hT, h3.other m k hT⟩
theorem RV.stays {B : Nat} {w w' : World} {v : Value} {s : Lst} (h : RV w B v s) (m : Below w.heap.size w w') : RV w' B v s := by
  obtain ⟨pL, nL, cL, pF, nF, cF, pU, nU, cU, e, h1, h2, h3⟩ := h
  exact ⟨pL, nL, cL, pF, nF, cF, pU, nU, cU, e, h1.stays m, h2.stays m, h3.stays m⟩

theorem rnew_bad (w : World) (a b : Int) (h : a < 1 ∨ 64 < a ∨ b < 1 ∨ 65536 < b) : Calls Tryd.prog 8 #[.int .i64 a, .int .i64 b] w fun e w' => e = .returned (.tuple #[.agg #[.slice none 0 0, .slice none 0 0, .slice none 0 0, .int .i64 0], .int .i64 2]) ∧ Below w.heap.size w w' := by
  by_cases h1 : a < 1 ∨ 64 < a
  · go_enter Tryd.func8, Tryd.ntmps8
    go_wp2
    all_goals first | (refine bodyPost_ret (v := .tuple #[.agg #[.slice none 0 0, .slice none 0 0, .slice none 0 0, .int .i64 0], .int .i64 2]) (by simp [results, Tryd.results8, go_sem]) rfl ⟨rfl, ?_⟩; go_grown) | (exfalso; omega)
  · have a1 : decide (a < 1) = false := by simp; omega
    have a2 : decide (64 < a) = false := by simp; omega
    by_cases b1 : b < 1
    · have d1 : decide (b < 1) = true := by simpa using b1
      go_enter Tryd.func8, Tryd.ntmps8
      go_wp2
      all_goals first | (refine bodyPost_ret (v := .tuple #[.agg #[.slice none 0 0, .slice none 0 0, .slice none 0 0, .int .i64 0], .int .i64 2]) (by simp [results, Tryd.results8, go_sem]) rfl ⟨rfl, ?_⟩; go_grown) | (exfalso; omega)
    · have d1 : decide (b < 1) = false := by simpa using b1
      have d2 : decide (65536 < b) = true := by simp; omega
      go_enter Tryd.func8, Tryd.ntmps8
      go_wp2
      all_goals first | (refine bodyPost_ret (v := .tuple #[.agg #[.slice none 0 0, .slice none 0 0, .slice none 0 0, .int .i64 0], .int .i64 2]) (by simp [results, Tryd.results8, go_sem]) rfl ⟨rfl, ?_⟩; go_grown) | (exfalso; omega)

theorem range_snoc (k : Nat) : (List.range (k + 1)).map (fun (j : Nat) => (j : Int)) = (List.range k).map (fun (j : Nat) => (j : Int)) ++ [(k : Int)] := by
  rw [List.range_succ, List.map_append]; rfl

set_option maxHeartbeats 2000000 in
set_option maxRecDepth 10000 in
theorem rnew_good (w : World) {B : Nat} (hB : B ≤ w.heap.size) (kk n : Nat) (hk0 : 1 ≤ kk) (hk1 : kk ≤ 64) (hn0 : 1 ≤ n) (hn1 : n ≤ 40) : Calls Tryd.prog 8 #[.int .i64 (kk : Int), .int .i64 (n : Int)] w fun e w' => ∃ v, e = .returned (.tuple #[v, .int .i64 0]) ∧ RV w' B v (newP kk n) ∧ Below w.heap.size w w' := by
  have y1 : ¬ (kk : Int) < 1 := by omega
  have y2 : ¬ 64 < (kk : Int) := by omega
  have y3 : ¬ (n : Int) < 1 := by omega
  have y4 : ¬ 65536 < (n : Int) := by omega
  obtain ⟨w1, hw1⟩ : ∃ w1, w1 = w.alloc (.cells #[.slice none 0 0, .slice none 0 0, .slice none 0 0, .int .i64 0] 32) := ⟨_, rfl⟩
  have A1 : Below w.heap.size w w1 := by rw [hw1]; go_grown
  have s1 : w1.heap.size = w.heap.size + 1 := by rw [hw1]; simp
  have Z1 : Four w1 w.heap.size (.slice none 0 0) (.slice none 0 0) (.slice none 0 0) 0 := by rw [hw1]; exact four_new w _ _ _ _
  have HA := hid2 A1
  have HZ := hid2 Z1
  have HW := hid2 hw1
  have HS := hid2 s1
  clear A1 Z1 hw1 s1
  obtain ⟨i0, hi, z0, z1, z2⟩ := elem30
  go_enter Tryd.func8, Tryd.ntmps8
  go_upto_region 4 with (at_make; go_must (rw [← HW.out]; refine wpList_make_full _ rfl _ _ 29 rfl w1.heap.size 30 i0 (.slice none 0 0) 1 Tryd.underlying29 hi z0 z1 .i64 .i64 _ _ kk rfl rfl (by omega) (by omega) (by rw [z2]; omega) (by unfold maxLen; omega) (Nat.le_refl _) ?_; intro w2 hown hgrow))
  have hv0 : (madeCells (Value.slice none 0 0).cells (kk * 1)).toList = List.replicate kk (.slice none 0 0) := by
    rw [show (Value.slice none 0 0).cells = #[.slice none 0 0] by kernel_rfl, Nat.mul_one]
    exact toList_madeCells_one _ _
  rw [hv0] at hown
  have B2 := below_grown hgrow
  obtain ⟨w3, hw3⟩ : ∃ w3, w3 = w2.alloc (.cells #[.slice (some ⟨w1.heap.size, 0, none⟩) kk kk, .slice none 0 0, .slice none 0 0, .int .i64 (n : Int)] 32) := ⟨_, rfl⟩
  rw [← hw3]
  obtain ⟨q, hq⟩ : ∃ q, q = w2.heap.size := ⟨_, rfl⟩
  have B3 : Below w2.heap.size w2 w3 := by rw [hw3]; go_grown
  have s3 : w3.heap.size = q + 1 := by rw [hw3, hq]; simp
  have Z3 : Four w3 q (.slice (some ⟨w1.heap.size, 0, none⟩) kk kk) (.slice none 0 0) (.slice none 0 0) n := by rw [hw3, hq]; exact four_new w2 _ _ _ _
  have hlt1 : w1.heap.size < w2.heap.size := (hown.lt _ rfl).2
  have HTG := hid2 (show Tag w3 w1.heap.size 30 from by
    rcases hown.2 with ⟨h', _⟩ | ⟨g', c', _, h', _, hg, _⟩
    · simp at h'
    · simp only [Value.slice.injEq, Option.some.injEq, Addr.mk.injEq, and_true, true_and] at h'
      obtain ⟨rfl, rfl⟩ := h'
      exact Tag.same (w := w2) ⟨_, _, hg⟩ (B3.block _ hlt1))
  have HSL := hid2 (show SlAt w3 w1.heap.size (.slice (some ⟨w1.heap.size, 0, none⟩) kk kk) (List.replicate kk (.slice none 0 0)) from by
    obtain ⟨b, hb, hs⟩ := own_sl hown
    obtain ⟨off, cap', e, _⟩ := hs.elem (by simp; omega)
    simp only [Value.slice.injEq, Option.some.injEq, Addr.mk.injEq] at e
    obtain ⟨⟨rfl, _⟩, _⟩ := e
    exact hs.stays B3)
  obtain ⟨b, hb⟩ : ∃ b, b = w1.heap.size := ⟨_, rfl⟩
  rw [← hb] at HSL HTG Z3 hlt1 ⊢
  rw [← hq] at hlt1 ⊢
  have HG := hid2 (show w.heap.size < b by have := HS.out; omega)
  have HBQ := hid2 hlt1
  have HZ3 := hid2 (HZ.out.stays B2 |>.stays B3)
  have HQ3 := hid2 Z3
  have HB3 := hid2 (HA.out.trans ((B2.mono HA.out.size).trans (B3.mono (by have := HA.out.size; have := B2.size; omega))))
  have HS3 := hid2 s3
  clear hv0 hown B2 B3 hw3 hq s3 Z3 hlt1 hb hgrow HW hi z1 z2
  go_wp2_with fail
  go_loopg [7] n (fun gk i wr => ∃ (k : Nat) (pv : Option Addr) (cp : Nat), k ≤ n ∧ gk = n - k ∧ i = .int .i64 (k : Int) ∧ Four wr q (.slice (some ⟨b, 0, none⟩) kk kk) (.slice pv k cp) (.slice none 0 0) n ∧ Four wr w.heap.size (.slice none 0 0) (.slice none 0 0) (.slice none 0 0) 0 ∧ SlAt wr b (.slice (some ⟨b, 0, none⟩) kk kk) (List.replicate kk (.slice none 0 0)) ∧ Tag wr b 30 ∧ wr.ownsRow (q + 1) 3 1 (.slice pv k cp) k (I ((List.range k).map fun (j : Nat) => (j : Int))) ∧ Below w.heap.size w wr ∧ q + 1 ≤ wr.heap.size)
  case atStart => exact ⟨0, none, 0, Nat.zero_le _, rfl, rfl, HQ3.out, HZ3.out, HSL.out, HTG.out, by simpa [I] using World.ownsRow_nil w3 (q + 1) 3 1, HB3.out, Nat.le_of_eq HS3.out.symm⟩
  case round =>
    clear HQ3 HZ3 HSL HTG HB3 HS3
    obtain ⟨k, pv, cp, hk, hgk, rfl, hq, hz, hs, ht, ho, hb, hsz⟩ := hrel
    have HT := hid2 ht
    have HGK := hid2 hgk
    have HQ := hid2 hq
    have HZ := hid2 hz
    have HS := hid2 hs
    have HO := hid2 ho
    have HB := hid2 hb
    obtain ⟨d0, d1, d2, d3, d4, d5⟩ := hq.cells
    clear hgk hq hz hs ht ho hb
    by_cases hlt : k < n
    · have hbq := HBQ.out
      have hwb := HG.out
      have N1 := hid2 (own_ne HO.out (show q < q + 1 by omega))
      have N2 := hid2 (own_ne HO.out (show w.heap.size < q + 1 by omega))
      have N3 := hid2 (own_ne HO.out (show b < q + 1 by omega))
      go_wp2_with (at_builtin; go_must (refine wpList_append_gen Tryd.underlying30 elem3 rfl (by decide) _ rfl _ _ rfl (q + 1) _ _ _ rfl (HO.out.alloc _) _ _ (I [(k : Int)]) (I_one _) rfl (sl_one_new _ _ _) (by simp [I]; omega) (by simp; omega) ?_; intro v1 w4 hown1 hgrow1; obtain ⟨p1, c1, rfl⟩ := own_len hown1; have G4 := hid2 ((World.grownBy_alloc wr (.cells #[.int .i64 (k : Int)] 3) _).trans hgrow1); have Q4 := hid2 (HQ.out.grown G4.out (fun e => N1.out e.symm)); have Z4 := hid2 (HZ.out.grown G4.out (fun e => N2.out e.symm)); have S4 := hid2 (HS.out.keeps G4.out.size (fun hl => G4.out.block b hl (fun e => N3.out e.symm))); have O4 := hid2 hown1; obtain ⟨f0, f1, f2, f3, f4, f5⟩ := Q4.out.cells; have B4 := hid2 (HB.out.grown G4.out HB.out.size (fun j hj => Nat.le_trans (by omega) (own_lies HO.out j hj))); clear hown1 hgrow1))
      have R5 := hid2 (grown_set (World.grownBy.refl w4 (some q)) 1 (.slice p1 (k + 1) c1))
      go_roundg (n - (k + 1))
      case measure => rw [HGK.out]; omega
      case rel =>
        refine ⟨k + 1, p1, c1, by omega, rfl, by go_num, Q4.out.set1 _, Z4.out.grown R5.out (by simp; omega), S4.out.keeps R5.out.size (fun hl => R5.out.block b hl (by simp; omega)), (HT.out.same (G4.out.block b HT.out.lt (fun e => N3.out e.symm))).same (R5.out.block b (Nat.lt_of_lt_of_le HT.out.lt G4.out.size) (by simp; omega)), ?_, B4.out.grown R5.out B4.out.size (fun j hj => by cases hj; omega), Nat.le_trans (Nat.le_trans hsz G4.out.size) R5.out.size⟩
        rw [range_snoc, I_append]
        exact O4.out.kept R5.out (.inr (own_ne O4.out (by omega)))
    · obtain rfl : k = n := by omega
      go_wp2_with (refine st32 rfl (.tmp 4) (.tmp 38) rfl w.heap.size rfl _ _ _ _ _ HZ.out rfl rfl ⟨rfl, rfl, rfl, rfl⟩ ?_; intro w5 hz5 hg5)
      have hbq := HBQ.out
      have hwb := HG.out
      refine bodyPost_ret (v := .tuple #[.agg #[.slice (some ⟨b, 0, none⟩) kk kk, .slice pv k cp, .slice none 0 0, .int .i64 (k : Int)], .int .i64 0]) (results32 Tryd.results8 _ _ w.heap.size rfl _ _ _ _ 32 (0, 0) hz5 (.int .i64 0) rfl) rfl ⟨_, rfl, ⟨_, _, _, _, _, _, _, _, _, rfl, ?_, ?_, Ls.nil _ _⟩, HB.out.grown hg5 HB.out.size (fun j hj => by cases hj; omega)⟩
      · refine ⟨b, _, by omega, HS.out.keeps hg5.size (fun hl => hg5.block b hl (by simp; omega)), .inr (HT.out.same (hg5.block b HT.out.lt (by simp; omega))), by simp [newP], fun j u a hu ha => ?_⟩
        obtain rfl := List.eq_of_mem_replicate (List.mem_of_getElem? hu)
        obtain rfl := List.eq_of_mem_replicate (List.mem_of_getElem? ha)
        exact Ls.nil _ _
      · exact Ls.own (HO.out.kept hg5 (.inr (own_ne HO.out (by omega)))) (by omega)
end Go.Proofs.YtibplphpbbajhaaDoor
