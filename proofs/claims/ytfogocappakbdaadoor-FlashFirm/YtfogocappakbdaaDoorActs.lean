/-
  Acts in memory, and whether they are light.
-/
import Derived.Test.YtfogocappakbdaaDoorCrash
import Derived.Test.YtfogocappakbdaaDoorRefK
import Derived.Test.YtfogocappakbdaaDoorRes
import Derived.Test.YtfogocappakbdaaDoorSim
namespace Go.Proofs.YtfogocappakbdaaDoor
open Go.RowKit

/-- An act; kv: the value of what is kept. -/
structure Act4 where
  kind : Int
  at_ : Int
  a : Nat
  b : Nat
  n : Int
  keep : List Int
  kv : Value

/-- Numbers that lie below block B. -/
def KLow (w : World) (B : Nat) (v : Value) (ks : List Int) : Prop := ∃ p cap, v = .slice p ks.length cap ∧ ks.length ≤ cap ∧ cap ≤ maxLen ∧ ∀ k z, ks[k]? = some z → ∃ b off, p = some ⟨b, off, none⟩ ∧ b < B ∧ b < w.heap.size ∧ w.cell? ⟨b, off + k, none⟩ = some (.int .i64 z)
theorem KLow.kat {w : World} {B : Nat} {v : Value} {ks : List Int} (h : KLow w B v ks) : KAt w v ks := by
  obtain ⟨p, cap, h1, h2, h3, h4⟩ := h
  refine ⟨p, cap, h1, h2, h3, fun k z hk => ?_⟩
  obtain ⟨b, off, e1, _, e2, e3⟩ := h4 k z hk
  exact ⟨b, off, e1, e2, e3⟩
theorem Fr.cell {B : Nat} {w w' : World} (h : Fr B w w') {b : Nat} (hb : b < B) (hs : b < w.heap.size) (o : Nat) : w'.cell? ⟨b, o, none⟩ = w.cell? ⟨b, o, none⟩ := World.cell?_of_block (a := ⟨b, o, none⟩) (h.low b hs hb)
theorem KLow.fr {w w' : World} {B : Nat} {v : Value} {ks : List Int} (h : KLow w B v ks) (hf : Fr B w w') : KLow w' B v ks := by
  obtain ⟨p, cap, h1, h2, h3, h4⟩ := h
  refine ⟨p, cap, h1, h2, h3, fun k z hk => ?_⟩
  obtain ⟨b, off, e1, e0, e2, e3⟩ := h4 k z hk
  exact ⟨b, off, e1, e0, Nat.lt_of_lt_of_le e2 hf.size, (hf.cell e0 e2 _).trans e3⟩

/-- An act's six cells. -/
def actL (o : Act4) : List Value := [.int .i64 o.kind, .int .i64 o.at_, .int .u8 (o.a : Int), .int .u8 (o.b : Int), .int .i64 o.n, o.kv]
def actA (o : Act4) : Array Value := #[.int .i64 o.kind, .int .i64 o.at_, .int .u8 (o.a : Int), .int .u8 (o.b : Int), .int .i64 o.n, o.kv]
/-- What is fine with an act in memory. -/
def ActOk (w : World) (B : Nat) (o : Act4) : Prop := KLow w B o.kv o.keep ∧ o.a < 256 ∧ o.b < 256 ∧ (-9223372036854775808 ≤ o.kind ∧ o.kind ≤ 9223372036854775807) ∧ (-9223372036854775808 ≤ o.at_ ∧ o.at_ ≤ 9223372036854775807) ∧ (-9223372036854775808 ≤ o.n ∧ o.n ≤ 9223372036854775807)
theorem ActOk.fr {w w' : World} {B : Nat} {o : Act4} (h : ActOk w B o) (hf : Fr B w w') : ActOk w' B o := ⟨h.1.fr hf, h.2⟩
/-- A value is, in memory below B, a slice of acts. -/
def ActsAt (w : World) (B : Nat) (v : Value) (os : List Act4) : Prop := ∃ p cap, v = .slice p os.length cap ∧ os.length ≤ cap ∧ cap ≤ maxLen ∧
  ∀ i o, os[i]? = some o → ActOk w B o ∧ ∃ b off, p = some ⟨b, off, none⟩ ∧ b < B ∧ b < w.heap.size ∧ w.cell? ⟨b, off + i * 6, none⟩ = some (.int .i64 o.kind) ∧ w.cell? ⟨b, off + i * 6 + 1, none⟩ = some (.int .i64 o.at_) ∧ w.cell? ⟨b, off + i * 6 + 2, none⟩ = some (.int .u8 (o.a : Int)) ∧
    w.cell? ⟨b, off + i * 6 + 3, none⟩ = some (.int .u8 (o.b : Int)) ∧ w.cell? ⟨b, off + i * 6 + 4, none⟩ = some (.int .i64 o.n) ∧ w.cell? ⟨b, off + i * 6 + 5, none⟩ = some o.kv
theorem ActsAt.fr {w w' : World} {B : Nat} {v : Value} {os : List Act4} (h : ActsAt w B v os) (hf : Fr B w w') : ActsAt w' B v os := by
  obtain ⟨p, cap, h1, h2, h3, h4⟩ := h
  refine ⟨p, cap, h1, h2, h3, fun i o hi => ?_⟩
  obtain ⟨g, b, off, e1, e0, e2, q0, q1, q2, q3, q4, q5⟩ := h4 i o hi
  exact ⟨g.fr hf, b, off, e1, e0, Nat.lt_of_lt_of_le e2 hf.size, (hf.cell e0 e2 _).trans q0, (hf.cell e0 e2 _).trans q1, (hf.cell e0 e2 _).trans q2, (hf.cell e0 e2 _).trans q3, (hf.cell e0 e2 _).trans q4, (hf.cell e0 e2 _).trans q5⟩
theorem ActsAt.below {w w' : World} {B : Nat} {v : Value} {os : List Act4} (h : ActsAt w B v os) (hb : Below w.heap.size w w') : ActsAt w' B v os := h.fr (Below.fr hb)
theorem ActsAt.form {w : World} {B : Nat} {v : Value} {os : List Act4} (h : ActsAt w B v os) : ∃ p cap, v = .slice p os.length cap ∧ os.length ≤ cap ∧ cap ≤ maxLen := by
  obtain ⟨p, cap, h1, h2, h3, _⟩ := h
  exact ⟨p, cap, h1, h2, h3⟩

/-- Acts that are not more than is waited for. -/
def lightB (os : List Act4) : Bool := decide (os.length ≤ 40) && os.all fun o => decide (o.keep.length ≤ 60)
theorem light_len {os : List Act4} (h : lightB os = true) : os.length ≤ 40 := by
  unfold lightB at h
  simp at h
  exact h.1

set_option maxHeartbeats 1000000 in
theorem light_any {w : World} {B : Nat} {v : Value} {os : List Act4} (h : ActsAt w B v os) : Calls Tryd.prog 7 #[v] w fun e w' => e = .returned (.bool (lightB os)) ∧ w' = w := by
  obtain ⟨p, cap, rfl, h2, h3, h5⟩ := h
  unfold maxLen at h3
  have HE := hid_all h5
  clear h5
  by_cases h40 : os.length ≤ 40
  · have hgt : ¬ (40 < (os.length : Int)) := by omega
    go_enter Tryd.func7, Tryd.ntmps7
    go_wp2_with fail
    go_loop [3] (fun i => ∃ k : Nat, i = .int .i64 (k : Int) ∧ k ≤ os.length ∧ Hid (∀ j o, j < k → os[j]? = some o → o.keep.length ≤ 60)) (fun i => os.length - (intOf i).toNat)
    case atStart => exact ⟨0, rfl, Nat.zero_le _, fun j x hj => by omega⟩
    case round =>
      obtain ⟨k, rfl, hk, HZ⟩ := hrel
      by_cases hlt : k < os.length
      · obtain ⟨o, hx⟩ : ∃ o, os[k]? = some o := ⟨_, List.getElem?_eq_getElem hlt⟩
        obtain ⟨hok, bb, off, rfl, _, hbb, _, _, _, _, _, hc⟩ := HE.out k _ hx
        obtain ⟨kp, kc, hkv, _⟩ := hok.1
        rw [hkv] at hc
        have hki : (k : Int) < (os.length : Int) := by omega
        have HX := hid_all hx
        clear hx hok hkv
        by_cases h0 : o.keep.length ≤ 60
        · have hb : ¬ (60 < (o.keep.length : Int)) := by omega
          have H0 := hid_all h0
          clear h0
          go_wp2_with fail
          go_round
          case rel => exact ⟨k + 1, by go_num, by omega, fun j y hj hy => by
            by_cases e : j = k
            · subst e; rw [HX.out] at hy; cases hy; exact H0.out
            · exact HZ.out j y (by omega) hy⟩
          case measure => simp [intOf]; omega
        · have hb : 60 < (o.keep.length : Int) := by omega
          have HR : Hid (lightB os = false) := by
            show _ = _
            unfold lightB
            rw [Bool.and_eq_false_iff]
            right
            rw [List.all_eq_false]
            exact ⟨o, List.mem_of_getElem? HX.out, by simpa using h0⟩
          clear h0
          go_wp2
          go_ret
          exact ⟨by rw [HR.out]; rfl, rfl⟩
      · have hki : ¬ ((k : Int) < (os.length : Int)) := by omega
        have HR : Hid (lightB os = true) := by
          show _ = _
          unfold lightB
          rw [Bool.and_eq_true]
          refine ⟨by simpa using h40, ?_⟩
          rw [List.all_eq_true]
          intro o ho
          obtain ⟨j, hj⟩ := List.getElem?_of_mem ho
          simpa using HZ.out j o (by have := (List.getElem?_eq_some_iff.1 hj).1; omega) hj
        go_wp2
        go_ret
        exact ⟨by rw [HR.out]; rfl, rfl⟩
  · have hgt : 40 < (os.length : Int) := by omega
    have HR : Hid (lightB os = false) := by
      show _ = _
      unfold lightB
      rw [Bool.and_eq_false_iff]
      left
      simpa using h40
    go_enter Tryd.func7, Tryd.ntmps7
    go_wp2
    go_ret
    exact ⟨by rw [HR.out]; rfl, rfl⟩

/-- The document's device stored, as a step of a region that draws its order. -/
theorem step_st33 {ops : Array Oper} {o : Oper} {a : Act} {w : World} {K : Act → World → Prop} {Q : Exit → Act → World → Prop} {E : Prop} (hgd : o.guard = none) (x y : Operand) (ho : o.op = .store 33 x y) (b : Nat) (hx : a.eval x = .pointer (some ⟨b, 0, none⟩)) (c : Array Value) (x0 x1 x2 x3 x4 x5 : Value)
    (hw : w.heap[b]? = some (.cells c 33 (0, 0))) (hc : c.size = 6) (hy : a.eval y = .agg #[x0, x1, x2, x3, x4, x5]) (h1 : x0.oneCell' = true ∧ x1.oneCell' = true ∧ x2.oneCell' = true ∧ x3.oneCell' = true ∧ x4.oneCell' = true ∧ x5.oneCell' = true)
    (h : ∀ w', w'.heap[b]? = some (.cells #[x0, x1, x2, x3, x4, x5] 33 (0, 0)) → w.grownBy w' (some b) → K (a.put o.dst undef) w') :
    if Region.wanted o (yielded ops a.tmps) = true then Oper.wp Tryd.prog o a w K Q else E := by
  have hwt : Region.wanted o (yielded ops a.tmps) = true := by simp [Region.wanted, hgd]
  rw [if_pos hwt]
  have h2 : (#[x0, x1, x2, x3, x4, x5] : Array Value).all (·.oneCell') = true := by simp [h1]
  have hr : (Instr.storeAt 33 (.pointer (some ⟨b, 0, none⟩)) (.agg #[x0, x1, x2, x3, x4, x5])).run Tryd.prog w = .ok () (w.setRow b #[x0, x1, x2, x3, x4, x5]) := by
    simp only [Instr.storeAt, Instr.sureAddr, Sem.run_bind, Sem.run_pure, Result.andThen]
    exact run_storeVar_row _ _ 33 33 c _ hw (size_of Tryd.info33m) hc h2
  unfold Oper.wp execOp
  simp only [ho, hx, hy, Sem.run_bind, hr, Result.andThen_ok, Sem.run_pure]
  exact h _ (setRow_heap w b c _ 33 (0, 0) hw) (grown_setRow w b _)
end Go.Proofs.YtfogocappakbdaaDoor
