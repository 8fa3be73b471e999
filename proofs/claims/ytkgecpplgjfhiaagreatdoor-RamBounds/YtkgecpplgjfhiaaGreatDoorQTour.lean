/-
  A tier is gone through: its nodes by classes; what comes is All's list.
-/
import Derived.RangeFuncNested
import Derived.RangeFuncBound
import Derived.RangeFuncCalls
import Derived.RangeFuncLeaves
import Derived.Test.YtkgecpplgjfhiaaGreatDoorQSet
import Derived.Shelf.Abstract
import Derived.Shelf.RegionOpen
import Derived.WalkKit
import Derived.OwnWalkIn
import Derived.TacticsInMore
import Derived.LoopNIn
import Derived.LoopIn
namespace Go.Proofs.YtkgecpplgjfhiaaGreatDoor
open Go.RowKit

variable {F : Fence} {n : Nat} {P : Program} {w : World}

/-- What an iterator does that hands on N times, the k-th time what V k says, over whatever a caller keeps between two rounds (J k: k have come), where that says T k, and a round keeps Kp. -/
def SeqX (F : Fence) (n : Nat) (P : Program) (g : Nat) (lb : Array Value) (N : Nat) (V : Nat → Array Value → World → Prop) (Kp : World → World → Prop) (T : Nat → World → Prop) (w : World) : Prop :=
  ∀ (l : Nat) (J : Nat → World → Prop) (W : World), Below w.heap.size w W → (∀ k A B, J k A → Below A.heap.size A B → J k B) → (∀ k A, J k A → T k A) →
    (∀ k x W1, k < N → V k x W1 → J k W1 → YieldAt F (n - 1) P l x W1 fun e W' => e = .returned (.bool true) ∧ J (k + 1) W' ∧ Kp W1 W') →
    J 0 W → CallsIn F n P g (#[.func (.yield l) #[] #[]] ++ lb) W fun e W' => (∃ v, e = .returned v) ∧ J N W'

def postX (B : Nat) (Kp : World → World → Prop) (I : Nat → World → Prop) (k : Nat) (W : World) : Exit → Act → World → Prop
  | .normal, _, W' => KeepsFrom B W W' ∧ Kp W W' ∧ I k W'
  | _, _, _ => False

theorem heap_below {A B : World} (b : Below A.heap.size A B) {k : Nat} {o : Obj} (h : A.heap[k]? = some o) : B.heap[k]? = some o :=
  (b.block k (Array.getElem?_eq_some_iff.1 h).1).trans h

theorem wpIn_rangeFunc_x {g : Operand} {ps : Array Tmp} {assign body : Code} {Q : Exit → Act → World → Prop} {a : Act} {w : World}
    (hro : F.round = none) (h1 : 1 ≤ n) {gf : Nat} {lb : Array Value} (hg : a.eval g = .func (.func gf) #[] lb) (hFg : F.fn gf) (eg : ∀ args w, (callFunc gf args).run P w = .ok (.enter gf args) w)
    {N : Nat} {V : Nat → Array Value → World → Prop} {Kp : World → World → Prop} {T : Nat → World → Prop} (hseq : SeqX F (n - 1) P gf lb N V Kp T w)
    (hKt : ∀ {A B C : World}, Kp A B → Kp B C → Kp A C) (hKb : ∀ (W : World) (l : Nat) (o q : Loop), w.heap.size ≤ l → W.heap[l]? = some (.loop o) → Kp W (W.putObj l (.loop q))) (hps : ∀ k x W, V k x W → x.size = ps.size)
    (I : Nat → World → Prop) (hIb : ∀ k A B, I k A → Below A.heap.size A B → I k B) (hIp : ∀ k (W : World) (l : Nat) (o q : Loop), w.heap.size ≤ l → W.heap[l]? = some (.loop o) → I k W → I k (W.putObj l (.loop q)))
    (hIT : ∀ k A, I k A → T k A) (h0 : I 0 w)
    (Ax : Nat → Act → World → Prop) (hAx : ∀ k a' (W : World) (l : Nat) (o q : Loop), w.heap.size ≤ l → W.heap[l]? = some (.loop o) → Ax k a' W → Ax k a' (W.putObj l (.loop q)))
    (hassign : ∀ (l k : Nat) (x : Array Value) (W : World) (K : Act → World → Prop), k < N → V k x W → I k W → (∀ a' W', KeepsFrom w.heap.size W W' → Kp W W' → I k W' → Ax k a' W' → K a' W') →
      assign.wpIn (F.inRound l) (n - 1 - 1) P (Exit.then K (fun _ _ _ => False)) { tmps := (ps.zip x).foldl (fun t (p, v) => t.setIfInBounds p v) a.tmps, defers := [] } W)
    (hbody : ∀ (l k : Nat) (a' : Act) (W : World), w.heap.size ≤ l → k < N → I k W → Ax k a' W → body.wpIn (F.inRound l) (n - 1 - 1) P (postX w.heap.size Kp I (k + 1) W) a' W)
    (hdone : ∀ (D : Nat) (W : World), w.heap.size ≤ D → I N W → W.heap[D]? = some (.deferred (some [])) → Q .normal { a with defers := { target := .collected D, args := #[] } :: a.defers } W) :
    (Code.rangeFunc g ps assign body).wpIn F n P Q a w := by
  refine wpIn_rangeFunc ?_
  intro fn hfn
  rw [hro]
  obtain ⟨rec, hrec⟩ : ∃ rec : LoopState → Option Code → Loop, rec = fun st pe => { state := st, pending := pe, fn, tmps := a.tmps, params := ps, assign, body, defers := w.heap.size } := ⟨_, rfl⟩
  obtain ⟨W1, hW1⟩ : ∃ W1, (w.alloc (.deferred (some []))).alloc (.loop (rec .ready none)) = W1 := ⟨_, rfl⟩
  have hL1 : W1.heap[w.heap.size + 1]? = some (.loop (rec .ready none)) := by
    rw [← hW1]; have := World.alloc_heap_new (w.alloc (.deferred (some []))) (.loop (rec .ready none)); rwa [World.size_alloc] at this
  have hK1 : W1.heap[w.heap.size]? = some (.deferred (some [])) := by
    rw [← hW1]; exact (Below.heap_alloc _ _ _ (by simp)).trans (World.alloc_heap_new w _)
  have hb1 : Below w.heap.size w W1 := by
    rw [← hW1]; exact ((Below.refl _ w).alloc (Nat.le_refl _) _).alloc (by simp) _
  have hI1 : I 0 W1 := hIb _ _ _ h0 hb1
  refine ⟨w.heap.size + 1, [{ target := .collected w.heap.size, args := #[] }], W1, { target := .fn (.func gf) lb, args := #[.func (.yield (w.heap.size + 1)) #[] #[]] }, W1, gf,
    #[.func (.yield (w.heap.size + 1)) #[] #[]] ++ lb, W1, ?_, ?_, ?_, ?_, fun _ => h1, ?_⟩
  · rw [← hW1, hrec]; exact run_enterLoop_outer _ _ _ _ _
  · simp only [resolve, hg]
    simp [go_sem]
  · intro f' hf'; simp [Target.leads] at hf'; subst hf'; exact hFg
  · simp [invoke, go_sem, eg]
  · refine (hseq (w.heap.size + 1)
      (fun k W => I k W ∧ W.heap[w.heap.size + 1]? = some (.loop (rec .ready none)) ∧ W.heap[w.heap.size]? = some (.deferred (some [])))
      W1 hb1
      (fun k A B hs b => ⟨hIb k A B hs.1 b, heap_below b hs.2.1, heap_below b hs.2.2⟩)
      (fun k A hs => hIT k A hs.1)
      ?_ ⟨hI1, hL1, hK1⟩).mono ?_
    · -- one round
      rintro k x W hkN hx ⟨hi, hl, hk⟩
      have hlt : w.heap.size + 1 < W.heap.size := (Array.getElem?_eq_some_iff.1 hl).1
      have hy := run_yield (P := P) (args := x) hl (by rw [hrec]; exact hps _ x _ hx)
      rw [hrec] at hy
      refine ⟨fn, _, assign, body, hy, roundIn_of_wpIn hfn (hassign _ k x W _ hkN hx hi ?_)⟩
      clear hy
      intro a' Wa hkfa hkpa hia hax
      replace hl := hkfa.same _ _ (by omega) hl rfl
      replace hk := hkfa.same _ _ (Nat.le_refl _) hk rfl
      replace hlt : w.heap.size + 1 < Wa.heap.size := (Array.getElem?_eq_some_iff.1 hl).1
      refine ⟨_, run_beginRound hl (by rw [hrec]), ?_⟩
      have hl2 : (Wa.putObj (w.heap.size + 1) (.loop { rec .ready none with state := .busy })).heap[w.heap.size + 1]? = some (.loop { rec .ready none with state := .busy }) := World.putObj_heap_same hlt
      have hk2 : (Wa.putObj (w.heap.size + 1) (.loop { rec .ready none with state := .busy })).heap[w.heap.size]? = some (.deferred (some [])) := (World.putObj_heap_other (by omega)).trans hk
      have hw2 : Kp Wa (Wa.putObj (w.heap.size + 1) (.loop { rec .ready none with state := .busy })) := hKb _ _ _ _ (by omega) hl
      refine wpIn_mono (hbody _ k a' _ (by omega) hkN (hIp _ _ _ _ _ (by omega) hl hia) (hAx _ _ _ _ _ _ (by omega) hl hax)) ?_
      rintro e a3 W3 hp
      cases e with
      | normal =>
        obtain ⟨hk3, hkp3, hi3⟩ := hp
        have hl3 := hk3.same _ _ (by omega) hl2 rfl
        have hr := run_endRound (P := P) none hl3
        have hlt3 := (Array.getElem?_eq_some_iff.1 hl3).1
        refine ⟨_, _, hr, rfl, ⟨hIp _ _ _ _ _ (by omega) hl3 hi3, ?_, (World.putObj_heap_other (by omega)).trans (hk3.same _ _ (Nat.le_refl _) hk2 rfl)⟩, hKt hkpa (hKt (hKt hw2 hkp3) (hKb _ _ _ _ (by omega) hl3))⟩
        rw [World.putObj_heap_same hlt3, hrec]; rfl
      | ret => exact hp.elim
      | exit id => exact hp.elim
      | goto t => exact hp.elim
      | panic ch => exact hp.elim
      | outgrown => exact hp.elim
    · -- behind the iterator
      rintro e W2 ⟨⟨v, rfl⟩, hi, hl, hk⟩
      have he := run_endLoop (P := P) hl (by rw [hrec]; simp)
      rw [show (rec .ready none).pending = none by rw [hrec]] at he
      exact ⟨none, _, he, hdone _ _ (Nat.le_refl _) (hIp _ _ _ _ _ (by omega) hl hi) ((World.putObj_heap_other (by omega)).trans hk)⟩

end Go.Proofs.YtkgecpplgjfhiaaGreatDoor

namespace Go.Proofs.YtkgecpplgjfhiaaGreatDoor
open Go.RowKit
open Ite (Ent zeroE checkE sizeE)
open Lis (Lst but Tag Ls orderP)

/-- A row of cells is read whole, in a fence. -/
theorem wpListIn_load_mid {F : Fence} {n : Nat} {P : Program} {ops : Array Oper} {rest : List Oper} {op : Oper} {a : Act} {w : World} {Q : Exit → Act → World → Prop} (hgd : op.guard = none) (ty : TypeId) (x : Operand) (ho : op.op = .load ty x)
    (b o : Nat) (hx : a.eval x = .pointer (some ⟨b, o, none⟩)) (cs : List Value) (d : TypeDesc) (hc : w.rangeAt b o cs)
    (hu : P.underlying ty = some d) (hd : d.isRow = true) (hi : (P.info? ty).map (·.size) = some cs.length)
    (h : wpListIn F n P ops Q rest (a.put op.dst (.agg cs.toArray)) w) : wpListIn F n P ops Q (op :: rest) a w := by
  refine wpListIn_plain hgd fun K hK => ?_
  unfold Oper.wpIn
  refine ⟨by simp [Oper.about, ho], ?_⟩
  rw [Oper.semAt_plain F _ _ (by rw [ho]; intro c hc'; cases hc')]
  simp only [execOp, ho, hx, Instr.loadAt, Instr.sureAddr, Sem.run_bind, Sem.run_pure, Result.andThen_ok, run_loadVar_mid w b o ty cs d hc hu hd hi]
  exact hK _ _ h

theorem Lis.Ls.form {w : World} {B : Nat} {v : Value} {l : List Int} (h : Ls w B v l) : ∃ p cap, v = .slice p l.length cap ∧ l.length ≤ cap ∧ cap ≤ maxLen := by
  obtain ⟨b, _, h, _⟩ := h
  obtain ⟨p, cap, e, h1, h2⟩ := h.form
  simp only [Lis.I, List.length_map] at e h1
  exact ⟨p, cap, e, h1, h2⟩
theorem Lis.Ls.elem {w : World} {B : Nat} {p : Option Addr} {m cap : Nat} {l : List Int} (h : Ls w B (.slice p m cap) l) {j : Nat} {x : Int} (hj : l[j]? = some x) : ∃ b off, p = some ⟨b, off, none⟩ ∧ b < w.heap.size ∧ w.cell? ⟨b, off + j, none⟩ = some (.int .i64 x) := by
  obtain ⟨b, _, h, _⟩ := h
  obtain ⟨p', cap', e, h1, h2, h3⟩ := h.each
  cases e
  obtain ⟨off, e, hb, hc⟩ := h3 j (.int .i64 x) (by simp [Lis.I, hj])
  exact ⟨b, off, e, hb, hc⟩
theorem wrap_len {j m : Nat} (h : j < m) (hm : m ≤ maxLen) : wrap64 ((j : Int) + 1) = (j : Int) + 1 := by unfold maxLen at hm; unfold wrap64; omega
theorem wrap_len' {j m : Nat} (h : j < m) (hm : m ≤ maxLen) : (wrap64 ((j : Int) + 1)).toNat = j + 1 := by rw [wrap_len h hm]; omega
theorem meas_len {j m : Nat} {z y : Int} (h : j < m) (hz : z.toNat = j + 1) (hy : y.toNat = j) : m - (intOf (Value.int IntKind.i64 z)).toNat < m - (intOf (Value.int IntKind.i64 y)).toNat := by
  have e1 : intOf (Value.int IntKind.i64 z) = z := rfl
  have e2 : intOf (Value.int IntKind.i64 y) = y := rfl
  rw [e1, e2, hz, hy]
  omega
/-- What is gone through: nodes by classes, entries. -/
structure Tour where
  ord : Nat → List Int
  ent : Int → Ent
def Tour.upto (t : Tour) (c : Nat) : List Int := (List.range c).flatMap t.ord
def Tour.all (t : Tour) : List Int := t.upto 9
theorem Tour.upto_succ (t : Tour) (c : Nat) : t.upto (c + 1) = t.upto c ++ t.ord c := by simp [Tour.upto, List.range_succ]
theorem Tour.at (t : Tour) {c j : Nat} {x : Int} (hc : c < 9) (h : (t.ord c)[j]? = some x) : t.all[(t.upto c).length + j]? = some x := by
  have h9 : ∀ e, (t.upto (c + 1 + e))[(t.upto c).length + j]? = some x := by
    intro e
    induction e with
    | zero =>
      show (t.upto (c + 1))[(t.upto c).length + j]? = some x
      rw [t.upto_succ, List.getElem?_append_right (by omega)]
      simpa using h
    | succ e ih =>
      rw [show c + 1 + (e + 1) = c + 1 + e + 1 by omega, t.upto_succ, List.getElem?_append_left (List.getElem?_eq_some_iff.1 ih).1]
      exact ih
  have := h9 (9 - (c + 1))
  rwa [show c + 1 + (9 - (c + 1)) = 9 by omega] at this

/-- What the iterator leans on when k have come. -/
def TourAt (t : Tour) (Bn B g k : Nat) (w : World) : Prop := w.heap[Bn]? = some (.cells #[.pointer (some ⟨g, 0, none⟩)] 30 (0, 0)) ∧
  ∃ gb gl B1 B2 gc v lim n s bl T th X H M, Tb w B g gb gl B1 B2 gc v lim n s bl T th X H M ∧ th ≤ n ∧ (∀ c : Nat, c < 9 → (t.upto c).length = k → orderP s c = t.ord c) ∧
    ∀ x, t.all[k]? = some x → 0 ≤ x ∧ x < (th : Int) ∧ T x = t.ent x
/-- What is handed on, the k-th time. -/
def TourV (t : Tour) (B k : Nat) (x : Array Value) (w : World) : Prop := ∃ i p c, t.all[k]? = some i ∧
  x = #[.int .i64 i, .agg #[.string (t.ent i).key, .int .i64 (t.ent i).ver, .int .i64 (t.ent i).asof, .int .i64 (t.ent i).ends, .slice p (t.ent i).val.length c]] ∧ Bq w B (.slice p (t.ent i).val.length c) (t.ent i).val
attribute [local go_sem] Oper.semAt_some

set_option maxHeartbeats 2000000 in
set_option maxRecDepth 100000 in
theorem each1_x (t : Tour) (Bn B g S : Nat) (w : World) (hS : S ≤ w.heap.size) (n : Nat) : SeqX Fence.wide n Tryz.prog 73 #[.pointer (some ⟨Bn, 0, none⟩)] t.all.length (TourV t B) (Kept S) (TourAt t Bn B g) w := by
  intro l J W hW hJb hJT hY h0
  refine callsIn_of_wp Tryz.func73 rfl trivial ?_ rfl
  simp only [Tryz.ntmps73, List.size_toArray, List.length_cons, List.length_nil, Nat.reduceAdd, Nat.reduceSub, Array.replicate_succ, Array.replicate_zero, List.push_toArray, List.append_toArray, List.nil_append, List.cons_append]
  gi_wp2
  gi_loopw [6] (fun i wr => ∃ c : Nat, c ≤ 9 ∧ i = .int .i64 c ∧ J (t.upto c).length wr ∧ S ≤ wr.heap.size)
    (fun i _ => 9 - (intOf i).toNat)
  case atStart => exact ⟨0, by omega, rfl, h0, Nat.le_trans hS hW.size⟩
  case round =>
    obtain ⟨c, hc, rfl, hJc, hsz⟩ := hrel
    obtain ⟨hbox, gb, gl, B1, B2, gc, v, lim, nn, s, bl, T, th, X, H, M, HT, hth, hord, hat⟩ := hJT _ _ hJc
    by_cases hlt : c < 9
    · have ho := hord c hlt rfl
      have KO := hid2 (Lis.order_lx HT.lx c)
      rw [ho] at KO
      obtain ⟨c0, c1, c2, c3, c4, cf⟩ := HT.cells
      have hb : wr.cell? ⟨Bn, 0, none⟩ = some (.pointer (some ⟨g, 0, none⟩)) := by simp [World.cell?, hbox]
      have hcl : ((c : Int)) < 9 := by omega
      have hJ0 := hid2 hJc
      clear hord hat hJc c1 c3 c4 
      gi_wp2_with (refine ⟨trivial, fun hh => (by simp [Fence.wide] at hh), ?_⟩; gi_at_call 74; refine (callsIn_wide.2 (show Calls _ _ _ _ _ from KO.out)).mono ?_; rintro e w1 ⟨vo, rfl, hls, hb1⟩; clear KO; obtain ⟨p, cap, rfl, hcap, hmax⟩ := Lis.Ls.form hls)
      have HJ1 := hid2 (hJb _ _ _ hJ0.out hb1)
      have HL1 := hid2 (Lis.Ls.lower hls hsz)
      have HS1 := Nat.le_trans hsz hb1.size
      clear hJ0 hls hb1 HT hbox hb c0 c2 cf
      gi_loopw [16] (fun i wq => ∃ j : Nat, j ≤ (t.ord c).length ∧ i = .int .i64 j ∧ J ((t.upto c).length + j) wq ∧ Ls wq S (.slice p (t.ord c).length cap) (t.ord c) ∧ S ≤ wq.heap.size)
        (fun i _ => (t.ord c).length - (intOf i).toNat)
      case atStart => exact ⟨0, Nat.zero_le _, rfl, HJ1.out, HL1.out, HS1⟩
      case round =>
        clear HJ1 HL1 HS1 hsz
        obtain ⟨j, hj, rfl, hJq, hlq, hsq⟩ := hrel
        by_cases hjl : j < (t.ord c).length
        · obtain ⟨hbox, gb, gl, B1, B2, gc, v, lim, nn, s, bl, T, th, X, H, M, HT, hth, hord, hat⟩ := hJT _ _ hJq
          obtain ⟨x, hx⟩ : ∃ x, (t.ord c)[j]? = some x := ⟨_, List.getElem?_eq_getElem hjl⟩
          have hal := t.at hlt hx
          obtain ⟨hx0, hxt, hxT⟩ := hat _ hal
          obtain ⟨i, rfl⟩ := Int.eq_ofNat_of_zero_le hx0
          have hit : i < th := by omega
          obtain ⟨rb, ro, hp, hrb, hrc⟩ := Lis.Ls.elem hlq hx
          obtain ⟨tb, tcap, q, qc, hv, htc, htb, _, _, _, hrange, hbq⟩ := HT.thg.look hit
          obtain ⟨_, _, kr⟩ := thing_cells hrange
          rw [hxT] at kr hbq
          obtain ⟨c0, c1, c2, c3, c4, cf⟩ := HT.cells
          rw [hv] at c3
          have hb : wr.cell? ⟨Bn, 0, none⟩ = some (.pointer (some ⟨g, 0, none⟩)) := by simp [World.cell?, hbox]
          have hn640 := HT.n1.2
          have hlen := (List.getElem?_eq_some_iff.1 hal).1
          obtain ⟨fn, tmps, assign, body, hy, hR⟩ := hY _ _ wr hlen ⟨_, q, qc, hal, rfl, hbq⟩ hJq
          have HR := hid2 hR
          have HQ := hid2 hlq
          have KR := hid2 kr
          have hI : (0 : Int) ≤ (i : Int) ∧ (i : Int) < (th : Int) := by omega
          have hitn : ((i : Int)).toNat = i := by omega
          have hI2 : (0 : Int) ≤ (j : Int) ∧ (j : Int) < ((t.ord c).length : Int) := by omega
          have hjtn : ((j : Int)).toNat = j := by omega
          subst hp
          clear hR hlq kr hrange hbq hord hat hJq hbox HT c1 c2 c4 hx hal hxT hv
          gi_wp2_with (refine wpListIn_load_mid rfl 25 (.tmp 28) rfl tb (i * 6) rfl _ _ KR.out Ite.Tryz.und24.choose_spec rfl Ite.Tryz.size24 ?_)
          refine ⟨fun hh => (by simp [Fence.wide] at hh), HR.out.mono ?_⟩
          rintro e w3 ⟨rfl, hJ3, hk3⟩
          have HL3 := hid2 (Kept.ls HQ.out hk3)
          have HJ3 := hid2 hJ3
          have hs3 := Nat.le_trans hsq hk3.1
          have HWJ := hid2 (wrap_len hjl (Nat.le_trans hcap hmax))
          clear HR HQ KR hy hJ3 hk3
          gi_wp2
          go_roundw
          case rel =>
            refine ⟨j + 1, by omega, ?_, ?_, HL3.out, hs3⟩
            · simp
              exact HWJ.out
            · rw [← Nat.add_assoc]
              exact HJ3.out
          case measure => exact meas_len hjl (wrap_len' hjl (Nat.le_trans hcap hmax)) hjtn
        · obtain rfl : j = (t.ord c).length := by omega
          gi_wp2
          go_roundw
          case rel => exact ⟨c + 1, by omega, by simp, by rw [t.upto_succ, List.length_append]; exact hJq, hsq⟩
          case measure => simp [intOf]; omega
    · obtain rfl : c = 9 := by omega
      gi_wp2
      go_end0
      exact ⟨⟨_, rfl⟩, hJc⟩

/-- each itself: the closure over the box of the receiver. -/
theorem each_x (g : Nat) (w : World) : Calls Tryz.prog 49 #[.pointer (some ⟨g, 0, none⟩)] w fun e w' => e = .returned (.func (.func 73) #[] #[.pointer (some ⟨w.heap.size, 0, none⟩)]) ∧ w' = w.alloc (.cells #[.pointer (some ⟨g, 0, none⟩)] 30) := by
  go_enter Tryz.func49, Tryz.ntmps49
  go_wp2_with fail
  go_ret
  exact ⟨rfl, rfl⟩

end Go.Proofs.YtkgecpplgjfhiaaGreatDoor

namespace Go.Proofs.YtkgecpplgjfhiaaGreatDoor
open Go.RowKit
open Ite (Ent zeroE checkE sizeE)
open Lis (Lst but Tag Ls orderP)

variable {lim : Int} {n : Nat} {sl : ByteArray → Nat} {s : Lst} {T : Int → Ent} {th : Nat} {C : Nat → List Int} {bl : List Int}
theorem Tn.order (v : Tn lim n sl s T th C bl) (p : Pl n s) {c : Nat} (hc : c < 9) : orderP s c = s.U.filter fun x => ucl (T x) == (c : Int) := by
  unfold orderP Lis.getL
  rw [if_pos ⟨by omega, by rw [p.len]; omega⟩, show ((c : Int)).toNat = c from Int.toNat_natCast c, v.ord c hc]
  rfl
/-- The tour over a tier. -/
def tourOf (s : Lst) (T : Int → Ent) : Tour := ⟨fun c => s.U.filter fun x => ucl (T x) == (c : Int), T⟩
theorem tour_all (s : Lst) (T : Int → Ent) (c : Nat) : ((tourOf s T).upto c).map T = allE (s.U.map T) c := by
  induction c with
  | zero => rfl
  | succ c ih =>
    rw [(tourOf s T).upto_succ, List.map_append, ih]
    show _ = allE (s.U.map T) c ++ (s.U.map T).filter fun x => ucl x == (c : Int)
    rw [List.filter_map]
    rfl
theorem tour_mem {s : Lst} {T : Int → Ent} {x : Int} (h : x ∈ (tourOf s T).all) : x ∈ s.U := by
  unfold Tour.all Tour.upto at h
  obtain ⟨c, _, h⟩ := List.mem_flatMap.1 h
  exact (List.mem_filter.1 h).1
/-- A tier that stays is gone through. -/
theorem tour_at {w : World} {B g gb gl B1 B2 gc : Nat} {v : Value} {X : Int → Int} {H : Nat → Int} {M Bn : Nat} (h : Tb w B g gb gl B1 B2 gc v lim n s bl T th X H M) (t : Tn lim n sl s T th C bl) (hb : w.heap[Bn]? = some (.cells #[.pointer (some ⟨g, 0, none⟩)] 30 (0, 0))) (k : Nat) :
    TourAt (tourOf s T) Bn B g k w :=
  ⟨hb, gb, gl, B1, B2, gc, v, lim, n, s, bl, T, th, X, H, M, h, t.thn, fun _c hc _ => t.order h.lx.pl.1 hc, fun x hx => ⟨(t.used x (tour_mem (List.mem_of_getElem? hx))).1, (t.used x (tour_mem (List.mem_of_getElem? hx))).2, rfl⟩⟩

/-! ### A loop's record turns -/
variable {w : World} {B g gb gl B1 B2 gc M : Nat} {v : Value} {X : Int → Int} {H : Nat → Int} {l : Nat} {q r : Obj}
theorem tag_ne {b : Nat} {U : TypeId} (hw : w.heap[l]? = some q) (hq : q.isCells = false) (t : Tag w b U) : b ≠ l := by
  rintro rfl
  obtain ⟨_, _, t⟩ := t
  rw [hw] at t
  cases t
  cases hq
theorem tag_loop {b : Nat} {U : TypeId} (hw : w.heap[l]? = some q) (hq : q.isCells = false) (t : Tag w b U) : (w.putObj l r).heap[b]? = w.heap[b]? := World.putObj_heap_other (tag_ne hw hq t)
theorem Bq.loop {u : Value} {xs : List Int} (h : Bq w B u xs) (hl : B ≤ l) (hw : w.heap[l]? = some q) (hq : q.isCells = false) : Bq (w.putObj l r) B u xs := by
  obtain ⟨b, h, k⟩ := h
  rcases k with rfl | k | k
  · exact ⟨b, empty_sl h, .inl rfl⟩
  · exact ⟨b, h.keeps (by simp) (fun _ => World.putObj_heap_other (by omega)), .inr (.inl k)⟩
  · exact ⟨b, h.keeps (by simp) (fun _ => tag_loop hw hq k), .inr (.inr (k.same (tag_loop hw hq k)))⟩
theorem Tb.loop (h : Tb w B g gb gl B1 B2 gc v lim n s bl T th X H M) (hl : B ≤ l) (hw : w.heap[l]? = some q) (hq : q.isCells = false) : Tb (w.putObj l r) B g gb gl B1 B2 gc v lim n s bl T th X H M := by
  obtain ⟨o, lo, bg, lx, ⟨cc, hd, hc⟩, tg, n1, l1⟩ := h
  refine ⟨?_, lo, ?_, ?_, ⟨cc, ?_, hc⟩, ?_, n1, l1⟩
  · rw [tag_loop hw hq ⟨_, _, o⟩]; exact o
  · show (w.putObj l r).heap[gb]? = _
    rw [tag_loop hw hq ⟨_, _, bg⟩]; exact bg
  · obtain ⟨h, l', N, t, f, h1, h2, h3, ob, iv⟩ := lx
    obtain ⟨_, _, _, _, _, _, e1, ⟨c2, e2, _⟩, ⟨c3, e3, _⟩⟩ := id ob
    exact ⟨h, l', N, t, f, h1, h2, h3, ob.same (tag_loop hw hq ⟨_, _, e1⟩) (tag_loop hw hq ⟨_, _, e2⟩) (tag_loop hw hq ⟨_, _, e3⟩), iv⟩
  · rw [tag_loop hw hq ⟨_, _, hd⟩]; exact hd
  · rcases tg with tg | ⟨b, cap, cur, h1, h2, h3, h4, h5, h6, h7⟩
    · exact .inl tg
    · refine .inr ⟨b, cap, cur, h1, h2, ?_, h4, h5, h6, fun i hi => ?_⟩
      · rw [tag_loop hw hq ⟨_, _, h3⟩]; exact h3
      · obtain ⟨p, c, a1, a2⟩ := h7 i hi
        exact ⟨p, c, a1, a2.loop hl hw hq⟩
theorem own_loop {B' k : Nat} {u : Value} {cs : List Value} (h : w.ownsRow B' 25 5 u k cs) (hw : w.heap[l]? = some q) (hq : q.isCells = false) : (w.putObj l r).ownsRow B' 25 5 u k cs := by
  refine ⟨h.1, ?_⟩
  rcases h.2 with h0 | ⟨b, cap, cur, h1, hb, hg, h2⟩
  · exact .inl h0
  · refine .inr ⟨b, cap, cur, h1, hb, ?_, h2⟩
    rw [tag_loop hw hq ⟨_, _, hg⟩]
    exact hg
theorem Kept.loop (S : Nat) (hw : w.heap[l]? = some q) (hq : q.isCells = false) : Kept S w (w.putObj l r) := ⟨by simp, fun _ _ t => tag_loop hw hq t⟩

end Go.Proofs.YtkgecpplgjfhiaaGreatDoor
