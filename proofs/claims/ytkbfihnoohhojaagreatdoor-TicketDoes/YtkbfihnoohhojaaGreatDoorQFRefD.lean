/-
  The document's side: put.
-/
import Derived.Test.YtkbfihnoohhojaaGreatDoorQFCut
namespace Go.Proofs.YtkbfihnoohhojaaGreatDoor.Fla
open Go.RowKit

/-- A slice without memory has no room. -/
def NilOk (v : Value) : Prop := ∀ n cap, v = .slice none n cap → cap = 0
theorem own_nilok {w : World} {B : Nat} {e : TypeId} {size : Nat} {v : Value} {n : Nat} {xs : List Value} (h : w.ownsRow B e size v n xs) : NilOk v := by
  intro n' cap' hv
  rcases h.2 with ⟨rfl, _⟩ | ⟨g, cap, cur, rfl, _⟩
  · cases hv; rfl
  · cases hv
theorem nilok_nil : NilOk (.slice none 0 0) := fun _ _ h => by cases h; rfl

/-- An append of a slice that may be nil or empty. -/
theorem wl_tail {P : Program} {w : World} {ops : Array Oper} {rest : List Oper} {o : Oper} {a : Act} {Q : Exit → Act → World → Prop} (hgd : o.guard = none) (s x : Operand) (t : TypeId)
    (ho : o.op = .call { callee := .builtin .append, args := #[s, x], argTypes := #[t, t] })
    (base : Nat) (e : TypeId) (i : TypeInfo) (z : Value) (size bytes : Nat) (ht : P.underlying t = some (.slice e)) (hi : P.info? e = some i) (hz : i.zero = some z)
    (hsize : i.size = size) (hby : i.bytes = bytes) (hzs : z.cells.size = size) (hsz : 0 < size)
    (v : Value) (n : Nat) (xs : List Value) (hs : a.eval s = v) (hown : w.ownsRow base e size v n xs)
    (sp : Option Addr) (m c : Nat) (news : List Value) (hx : a.eval x = .slice sp m c) (hnone : sp = none → m = 0 ∧ c = 0) (hl : news.length = m * size) (hnews : 0 < m → ∃ ad, sp = some ad ∧ ∀ j u, news[j]? = some u → w.cell? (ad.add j) = some u) (h1 : ∀ u ∈ news, u.oneCell' = true)
    (h63 : n + m ≤ maxLen) (hbytes : (n + m) * bytes ≤ 140737488355328) (hbase : base ≤ w.heap.size)
    (h : ∀ v' w', w'.ownsRow base e size v' (n + m) (xs ++ news) → w.grownBy w' v.ownBlock → wpList P ops Q rest (a.put o.dst v') w') : wpList P ops Q (o :: rest) a w := by
  cases sp with
  | none =>
    obtain ⟨rfl, rfl⟩ := hnone rfl
    have hn : news = [] := by simpa using hl
    subst hn
    refine wpList_append_own_none hgd s x t ho base e i size ht hi v n xs hs hown hx ?_
    exact h v w (by simpa using hown) (grown_refl _ _)
  | some ad =>
    refine wpList_append_own w hgd s x t ho base e i z size bytes ht hi hz hsize hby hzs hsz v n xs hs hown ad m c news hx hl ?_ h1 h63 hbytes hbase (fun v' w' k1 k2 _ => h v' w' k1 k2)
    intro j u hj
    rcases Nat.eq_zero_or_pos m with h0 | hp
    · subst h0
      have hn : news = [] := by simpa using hl
      subst hn
      simp at hj
    · obtain ⟨ad', e', h2⟩ := hnews hp
      cases e'
      exact h2 j u hj

theorem ahead_le (l : List (Int × List Nat)) (k : Int) : ahead l k ≤ l.length := by
  induction l with
  | nil => simp [ahead]
  | cons x r ih =>
    obtain ⟨a, b⟩ := x
    simp only [ahead, List.length_cons]
    split <;> omega
theorem ahead_lt {l : List (Int × List Nat)} {k : Int} {i : Nat} (h : i < ahead l k) : ∃ x, l[i]? = some x ∧ x.1 < k := by
  induction l generalizing i with
  | nil => simp [ahead] at h
  | cons x r ih =>
    obtain ⟨a, b⟩ := x
    simp only [ahead] at h
    split at h
    · rename_i hlt
      cases i with
      | zero => exact ⟨(a, b), rfl, hlt⟩
      | succ i => exact ih (by omega)
    · omega
theorem ahead_end {l : List (Int × List Nat)} {k : Int} {x : Int × List Nat} (h : l[ahead l k]? = some x) : ¬ x.1 < k := by
  induction l with
  | nil => simp [ahead] at h
  | cons y r ih =>
    obtain ⟨a, b⟩ := y
    simp only [ahead] at h
    split at h
    · exact ih (by simpa using h)
    · rename_i hlt
      simp at h
      subst h
      exact hlt
theorem plainC_at {cs : List Cl} {i : Nat} : (plainC cs)[i]? = (cs[i]?).map fun x => (x.1, x.2.2) := by simp [plainC]
theorem plainC_length (cs : List Cl) : (plainC cs).length = cs.length := by simp [plainC]
theorem plainC_append (a b : List Cl) : plainC (a ++ b) = plainC a ++ plainC b := by simp [plainC]
theorem plainC_take (a : List Cl) (k : Nat) : plainC (a.take k) = (plainC a).take k := by simp [plainC, List.map_take]
theorem plainC_drop' (a : List Cl) (k : Nat) : plainC (a.drop k) = (plainC a).drop k := by simp [plainC, List.map_drop]
theorem take_snoc' {α : Type} {l : List α} {k : Nat} {x : α} (h : l[k]? = some x) : l.take (k + 1) = l.take k ++ [x] := by
  obtain ⟨h1, h2⟩ := List.getElem?_eq_some_iff.1 h
  rw [List.take_succ_eq_append_getElem h1, h2]
theorem clL_one (cs : List Cl) (h : ∀ x ∈ cs, x.2.1.oneCell' = true) : ∀ u ∈ clL cs, u.oneCell' = true := by
  intro u hu
  simp only [clL, List.mem_flatMap] at hu
  obtain ⟨x, hx, hu⟩ := hu
  simp at hu
  rcases hu with rfl | rfl
  · rfl
  · exact h x hx
theorem BAt.one {w : World} {v : Value} {b : List Nat} (h : BAt w v b) : v.oneCell' = true := by
  obtain ⟨p, cap, rfl, _⟩ := h.form
  rfl

theorem hid2 {p : Prop} (h : p) : Hid p := h
theorem put_end {w w4 : World} {cv bv v4 : Value} {cs mid : List Cl} {b : List Nat} {at_ : Int} {k j : Nat} (hC : CellsAt w cv cs) (hb : BAt w bv b) (h4 : Below w.heap.size w w4) (hmid : ∀ x ∈ mid, x = (at_, bv, b)) (hk : k = ahead (plainC cs) at_)
    (hm : (if isBlank b = true then ([] : List (Int × List Nat)) else [(at_, b)]) = plainC mid) (hj : j = skipAt (plainC cs) (ahead (plainC cs) at_) at_) {n : Nat} {xs : List Value} (hown0 : w4.ownsRow w.heap.size 79 2 v4 n xs) (hn : n = (cs.take k ++ (mid ++ cs.drop j)).length) (hxs : xs = clL (cs.take k ++ (mid ++ cs.drop j))) (hjk : j = k ∨ j = k + 1) :
    CellsAt w4 v4 (cs.take k ++ (mid ++ cs.drop j)) ∧ NilOk v4 ∧ plainC (cs.take k ++ (mid ++ cs.drop j)) = rput (plainC cs) at_ b ∧ (cs.take k ++ (mid ++ cs.drop j)).length ≤ cs.length + 1 ∧ Below w.heap.size w w4 := by
  have hown := hown0
  rw [hn, hxs] at hown
  have hA := ahead_le (plainC cs) at_
  rw [plainC_length] at hA
  have hml : mid.length ≤ 1 := by
    have := congrArg List.length hm
    rw [plainC_length] at this
    split at this <;> simp at this <;> omega
  refine ⟨⟨own_row hown (by decide) (by decide), fun x hx => ?_⟩, own_nilok hown, ?_, ?_, h4⟩
  · rcases List.mem_append.1 hx with h | h
    · exact (hC.2 x (List.mem_of_mem_take h)).below h4
    · rcases List.mem_append.1 h with h | h
      · rw [hmid x h]; exact hb.below h4
      · exact (hC.2 x (List.mem_of_mem_drop h)).below h4
  · rw [plainC_append, plainC_append, plainC_take, plainC_drop']
    unfold rput
    rw [hm, ← hj, ← hk]
  · simp; omega
set_option maxHeartbeats 4000000 in
set_option maxRecDepth 10000 in
theorem put_any {w : World} {cv bv : Value} {cs : List Cl} {b : List Nat} (hC : CellsAt w cv cs) (hN : NilOk cv) (hb : BAt w bv b) (hl : cs.length ≤ 5000) (at_ : Int) :
    Calls Tryz.prog 72 #[cv, .int .i64 at_, bv] w fun e w' => ∃ v cs', e = .returned v ∧ CellsAt w' v cs' ∧ NilOk v ∧ plainC cs' = rput (plainC cs) at_ b ∧ cs'.length ≤ cs.length + 1 ∧ Below w.heap.size w w' := by
  obtain ⟨cp, ccap, rfl, c2, c3, hel⟩ := hC.each
  have hcn : cp = none → ccap = 0 := fun e => hN _ _ (by rw [e])
  obtain ⟨bp, bcap, rfl, _, _⟩ := hb.form
  obtain ⟨i0, hi, hz0, hz1, hz2⟩ := info_of Tryz.info89m
  unfold maxLen at c3
  have hA := ahead_le (plainC cs) at_
  rw [plainC_length] at hA
  have HC : Hid (CellsAt w (.slice cp cs.length ccap) cs) := hC
  have HB : Hid (BAt w (.slice bp b.length bcap) b) := hb
  have HEL := show Hid (∀ i x, cs[i]? = some x → ∃ b off, cp = some ⟨b, off, none⟩ ∧ b < w.heap.size ∧ w.cell? ⟨b, off + i * 2, none⟩ = some (.int .i64 x.1) ∧ w.cell? ⟨b, off + i * 2 + 1, none⟩ = some x.2.1 ∧ BAt w x.2.1 x.2.2) from hel
  clear hC hel hb hN
  go_enter Tryz.func72, Tryz.ntmps72
  go_wp2_with fail
  go_loopw [7, 8] (fun o i wr => ∃ k : Nat, i = .int .i64 (k : Int) ∧ k ≤ ahead (plainC cs) at_ ∧ wr.ownsRow w.heap.size 79 2 o k (clL (cs.take k)) ∧ Below w.heap.size w wr) (fun _ i _ => ahead (plainC cs) at_ - (intOf i).toNat)
  case atStart => exact ⟨0, rfl, Nat.zero_le _, World.ownsRow_nil _ _ _ _, Below.refl _ _⟩
  case round =>
    obtain ⟨k, rfl, hk, hown, hbr⟩ := hrel
    have hsz := hbr.size
    have HO : Hid (wr.ownsRow w.heap.size 79 2 u7 k (clL (cs.take k))) := hown
    have HBR : Hid (Below w.heap.size w wr) := hbr
    clear hown hbr
    by_cases hlt : k < ahead (plainC cs) at_
    · obtain ⟨x', hx', hxl⟩ := ahead_lt hlt
      rw [plainC_at] at hx'
      obtain ⟨x, hx, rfl⟩ := Option.map_eq_some_iff.1 hx'
      obtain ⟨bb, off, rfl, hbb, a0, a1, hba⟩ := HEL.out k x hx
      have q0 := (HBR.out.cell (p := ⟨bb, off + k * 2, none⟩) hbb).trans a0
      have q1 := (HBR.out.cell (p := ⟨bb, off + k * 2 + 1, none⟩) hbb).trans a1
      have hki : (k : Int) < (cs.length : Int) := by omega
      have hxl' : x.1 < at_ := hxl
      have e1 : decide (x.1 < at_) = true := by simpa using hxl'
      have HX : Hid (cs[k]? = some x) := hx
      have h1c : x.2.1.oneCell' = true := hba.one
      have hbb' : bb < wr.heap.size := by omega
      clear hx hx' a0 a1 hba hxl hxl'
      have HO2 : Hid ((wr.alloc (.cells #[.int .i64 x.1, x.2.1] 79)).ownsRow w.heap.size 79 2 u7 k (clL (cs.take k))) := HO.out.alloc _
      have HNW : Hid (∀ j u, [Value.int .i64 x.1, x.2.1][j]? = some u → (wr.alloc (.cells #[.int .i64 x.1, x.2.1] 79)).cell? ((⟨wr.heap.size, 0, none⟩ : Addr).add j) = some u) := cell_two_new wr _ _ _
      go_wp2_with (at_builtin; refine wpList_append_own _ rfl (.tmp 22) (.tmp 27) 33 rfl w.heap.size 79 i0 (.agg #[.int .i64 0, .slice none 0 0]) 2 32 Tryz.underlying33 hi hz0 hz1 hz2 rfl (by decide) u7 k (clL (cs.take k)) rfl HO2.out ⟨wr.heap.size, 0, none⟩ 1 1 [.int .i64 x.1, x.2.1] rfl rfl HNW.out (by intro y hy; simp at hy; rcases hy with rfl | rfl; rfl; exact h1c) (by unfold maxLen; omega) (by omega) (by simp; omega) ?_; intro v3 w3 hown3 hgrow3 hnil3)
      have HB3 : Hid (Below w.heap.size w w3) := (HBR.out.alloc hsz _).grown hgrow3 (by simp; omega) (fun k hk => (HO2.out.lt k hk).1)
      have HO3 : Hid (w3.ownsRow w.heap.size 79 2 v3 (k + 1) (clL (cs.take k) ++ [.int .i64 x.1, x.2.1])) := hown3
      clear hown3 hgrow3 hnil3
      go_roundw
      case rel => exact ⟨k + 1, by go_num, by omega, by rw [take_snoc' HX.out, clL_append]; exact HO3.out, HB3.out⟩
      case measure => simp [intOf]; omega
    · have HKA : Hid (k = ahead (plainC cs) at_) := by show _ = _; omega
      have HBB : Hid (BAt wr (.slice bp b.length bcap) b) := HB.out.below HBR.out
      have HSA : Hid (∀ o, w.heap.size ≤ (wr.alloc o).heap.size) := fun o => by rw [World.size_alloc]; omega
      have HONE : Hid (∀ j, ∀ u ∈ clL (cs.drop j), u.oneCell' = true) := fun j => clL_one _ (fun x hx => (HC.out.2 x (List.mem_of_mem_drop hx)).one)
      cases hxk : cs[k]? with
      | none =>
        have hkn : k = cs.length := by have := List.getElem?_eq_none_iff.1 hxk; omega
        have hki : ¬ ((k : Int) < (cs.length : Int)) := by omega
        have hk1 : k ≤ cs.length := by omega
        have HSK : Hid (k = skipAt (plainC cs) (ahead (plainC cs) at_) at_) := by
          show _ = _
          unfold skipAt
          rw [← HKA.out, plainC_at, hxk]
          rfl
        clear hxk hkn
        cases hbl : isBlank b
        · have KB := blank_any HBB.out
          rw [hbl] at KB
          have HKB : Hid (Calls Tryz.prog 53 #[.slice bp b.length bcap] wr _) := KB
          have HBL : Hid (isBlank b = false) := hbl
          clear KB hbl
          have hsl := sl30 cp cs.length ccap k (by omega)
          have HO2 : Hid ((wr.alloc (.cells #[.int .i64 at_, .slice bp b.length bcap] 79)).ownsRow w.heap.size 79 2 u7 k (clL (cs.take k))) := HO.out.alloc _
          have HNW : Hid (∀ j u, [Value.int .i64 at_, .slice bp b.length bcap][j]? = some u → (wr.alloc (.cells #[.int .i64 at_, .slice bp b.length bcap] 79)).cell? ((⟨wr.heap.size, 0, none⟩ : Addr).add j) = some u) := cell_two_new wr _ _ _
          go_wp2_with (first | (go_at_call 53; refine (show Calls _ _ _ _ _ from HKB).mono ?_; rintro e w' ⟨rfl, hww⟩; cases hww) | (at_builtin; refine wpList_append_own _ rfl (.tmp 34) (.tmp 38) 33 rfl w.heap.size 79 i0 (.agg #[.int .i64 0, .slice none 0 0]) 2 32 Tryz.underlying33 hi hz0 hz1 hz2 rfl (by decide) u7 k (clL (cs.take k)) rfl HO2.out ⟨wr.heap.size, 0, none⟩ 1 1 [.int .i64 at_, .slice bp b.length bcap] rfl rfl HNW.out (by intro y hy; simp at hy; rcases hy with rfl | rfl <;> rfl) (by unfold maxLen; omega) (by omega) (HSA.out _) ?_; intro v3 w3 hown3 hgrow3 hnil3; have hB3 : Below w.heap.size w w3 := (HBR.out.alloc hsz _).grown hgrow3 (HSA.out _) (fun k hk => (HO2.out.lt k hk).1); have HO3 : Hid (w3.ownsRow w.heap.size 79 2 v3 (k + 1) (clL (cs.take k) ++ [.int .i64 at_, .slice bp b.length bcap])) := hown3; have HTO := hid2 (tail_ok (j := k) (HC.out.below hB3) hcn (by omega)); have hs3 := hB3.size; have HB3 := hid2 hB3; clear hown3 hgrow3 hnil3 hB3) | (at_builtin; refine wl_tail rfl (.tmp 55) (.tmp 58) 33 rfl w.heap.size 79 i0 (.agg #[.int .i64 0, .slice none 0 0]) 2 32 Tryz.underlying33 hi hz0 hz1 hz2 rfl (by decide) v3 (k + 1) (clL (cs.take k) ++ [.int .i64 at_, .slice bp b.length bcap]) rfl HO3.out (tl cp k ccap 2) (cs.length - k) (ccap - k) (clL (cs.drop k)) rfl HTO.out.1 (by rw [clL_length, List.length_drop]) HTO.out.2 (HONE.out k) (by unfold maxLen; omega) (by omega) hs3 ?_; intro v4 w4 hown4 hgrow4))
          go_ret
          have HB4 : Below w.heap.size w w4 := HB3.out.grown hgrow4 hs3 (fun k hk => (HO3.out.lt k hk).1)
          refine ⟨_, cs.take k ++ ([(at_, .slice bp b.length bcap, b)] ++ cs.drop k), rfl, ?_⟩
          exact put_end HC.out HB.out HB4 (mid := [(at_, .slice bp b.length bcap, b)]) (by simp) HKA.out (by rw [HBL.out]; rfl) HSK.out hown4 (by simp; omega) (by simp [clL]) (by omega)
        · have KB := blank_any HBB.out
          rw [hbl] at KB
          have HKB : Hid (Calls Tryz.prog 53 #[.slice bp b.length bcap] wr _) := KB
          have HBL : Hid (isBlank b = true) := hbl
          clear KB hbl
          have hsl := sl30 cp cs.length ccap k (by omega)
          have TO := tail_ok (j := k) (HC.out.below HBR.out) hcn (by omega)
          have HTO : Hid ((tl cp k ccap 2 = none → cs.length - k = 0 ∧ ccap - k = 0) ∧ (0 < cs.length - k → ∃ ad, tl cp k ccap 2 = some ad ∧ ∀ i u, (clL (cs.drop k))[i]? = some u → wr.cell? (ad.add i) = some u)) := TO
          clear TO
          go_wp2_with (first | (go_at_call 53; refine (show Calls _ _ _ _ _ from HKB).mono ?_; rintro e w' ⟨rfl, hww⟩; cases hww) | (at_builtin; refine wl_tail rfl (.tmp 55) (.tmp 58) 33 rfl w.heap.size 79 i0 (.agg #[.int .i64 0, .slice none 0 0]) 2 32 Tryz.underlying33 hi hz0 hz1 hz2 rfl (by decide) u7 k (clL (cs.take k)) rfl HO.out (tl cp k ccap 2) (cs.length - k) (ccap - k) (clL (cs.drop k)) rfl HTO.out.1 (by rw [clL_length, List.length_drop]) HTO.out.2 (HONE.out k) (by unfold maxLen; omega) (by omega) hsz ?_; intro v4 w4 hown4 hgrow4))
          go_ret
          have HB4 : Below w.heap.size w w4 := HBR.out.grown hgrow4 hsz (fun k hk => (HO.out.lt k hk).1)
          refine ⟨_, cs.take k ++ ([] ++ cs.drop k), rfl, ?_⟩
          exact put_end HC.out HB.out HB4 (mid := []) (by simp) HKA.out (by rw [HBL.out]; rfl) HSK.out hown4 (by simp; omega) (by rw [List.nil_append, clL_append]) (by omega)
      | some x =>
        have hkl : k < cs.length := (List.getElem?_eq_some_iff.1 hxk).1
        obtain ⟨bb, off, rfl, hbb, a0, a1, hba⟩ := HEL.out k x hxk
        have q0 := (HBR.out.cell (p := ⟨bb, off + k * 2, none⟩) hbb).trans a0
        have A0 : Hid (w.cell? ⟨bb, off + k * 2, none⟩ = some (.int .i64 x.1)) := a0
        have hki : (k : Int) < (cs.length : Int) := by omega
        have hge : ¬ x.1 < at_ := ahead_end (l := plainC cs) (x := (x.1, x.2.2)) (by rw [plainC_at, ← HKA.out, hxk]; rfl)
        have e1 : decide (x.1 < at_) = false := by simpa using hge
        have hbb' : bb < wr.heap.size := by omega
        by_cases heq : x.1 = at_
        · have e2 : (x.1 == at_) = true := by simpa using heq
          have HSK : Hid (k + 1 = skipAt (plainC cs) (ahead (plainC cs) at_) at_) := by
            show _ = _
            unfold skipAt
            rw [← HKA.out, plainC_at, hxk]
            simp [heq]
          clear hxk a0 a1 hba heq
          cases hbl : isBlank b
          · have KB := blank_any HBB.out
            rw [hbl] at KB
            have HKB : Hid (Calls Tryz.prog 53 #[.slice bp b.length bcap] wr _) := KB
            have HBL : Hid (isBlank b = false) := hbl
            clear KB hbl
            have hsl : ∀ w, (Instr.sliceAt 33 (.slice (some ⟨bb, off, none⟩) cs.length ccap) (some (.int .i64 ((k : Int) + 1))) none none).run Tryz.prog w = .ok (.slice (tl (some ⟨bb, off, none⟩) (k + 1) ccap 2) (cs.length - (k + 1)) (ccap - (k + 1))) w := fun w => by have := sl30 (some ⟨bb, off, none⟩) cs.length ccap (k + 1) (by omega) w; simpa using this
            have HO2 : Hid ((wr.alloc (.cells #[.int .i64 at_, .slice bp b.length bcap] 79)).ownsRow w.heap.size 79 2 u7 k (clL (cs.take k))) := HO.out.alloc _
            have HNW : Hid (∀ j u, [Value.int .i64 at_, .slice bp b.length bcap][j]? = some u → (wr.alloc (.cells #[.int .i64 at_, .slice bp b.length bcap] 79)).cell? ((⟨wr.heap.size, 0, none⟩ : Addr).add j) = some u) := cell_two_new wr _ _ _
            go_wp2_with (first | (go_at_call 53; refine (show Calls _ _ _ _ _ from HKB).mono ?_; rintro e w' ⟨rfl, hww⟩; cases hww) | (at_builtin; refine wpList_append_own _ rfl (.tmp 34) (.tmp 38) 33 rfl w.heap.size 79 i0 (.agg #[.int .i64 0, .slice none 0 0]) 2 32 Tryz.underlying33 hi hz0 hz1 hz2 rfl (by decide) u7 k (clL (cs.take k)) rfl HO2.out ⟨wr.heap.size, 0, none⟩ 1 1 [.int .i64 at_, .slice bp b.length bcap] rfl rfl HNW.out (by intro y hy; simp at hy; rcases hy with rfl | rfl <;> rfl) (by unfold maxLen; omega) (by omega) (HSA.out _) ?_; intro v3 w3 hown3 hgrow3 hnil3; have hB3 : Below w.heap.size w w3 := (HBR.out.alloc hsz _).grown hgrow3 (HSA.out _) (fun k hk => (HO2.out.lt k hk).1); have HO3 : Hid (w3.ownsRow w.heap.size 79 2 v3 (k + 1) (clL (cs.take k) ++ [.int .i64 at_, .slice bp b.length bcap])) := hown3; have HTO := hid2 (tail_ok (j := (k + 1)) (HC.out.below hB3) hcn (by omega)); have hs3 := hB3.size; have HB3 := hid2 hB3; have q3 := (hB3.cell (p := ⟨bb, off + k * 2, none⟩) hbb).trans A0.out; have hb3 : bb < w3.heap.size := (by omega); clear hown3 hgrow3 hnil3 hB3) | (at_builtin; refine wl_tail rfl (.tmp 55) (.tmp 58) 33 rfl w.heap.size 79 i0 (.agg #[.int .i64 0, .slice none 0 0]) 2 32 Tryz.underlying33 hi hz0 hz1 hz2 rfl (by decide) v3 (k + 1) (clL (cs.take k) ++ [.int .i64 at_, .slice bp b.length bcap]) rfl HO3.out (tl (some ⟨bb, off, none⟩) (k + 1) ccap 2) (cs.length - (k + 1)) (ccap - (k + 1)) (clL (cs.drop (k + 1))) rfl HTO.out.1 (by rw [clL_length, List.length_drop]) HTO.out.2 (HONE.out (k + 1)) (by unfold maxLen; omega) (by omega) hs3 ?_; intro v4 w4 hown4 hgrow4))
            go_ret
            have HB4 : Below w.heap.size w w4 := HB3.out.grown hgrow4 hs3 (fun k hk => (HO3.out.lt k hk).1)
            refine ⟨_, cs.take k ++ ([(at_, .slice bp b.length bcap, b)] ++ cs.drop (k + 1)), rfl, ?_⟩
            exact put_end HC.out HB.out HB4 (mid := [(at_, .slice bp b.length bcap, b)]) (by simp) HKA.out (by rw [HBL.out]; rfl) HSK.out hown4 (by simp; omega) (by simp [clL]) (by omega)
          · have KB := blank_any HBB.out
            rw [hbl] at KB
            have HKB : Hid (Calls Tryz.prog 53 #[.slice bp b.length bcap] wr _) := KB
            have HBL : Hid (isBlank b = true) := hbl
            clear KB hbl
            have hsl : ∀ w, (Instr.sliceAt 33 (.slice (some ⟨bb, off, none⟩) cs.length ccap) (some (.int .i64 ((k : Int) + 1))) none none).run Tryz.prog w = .ok (.slice (tl (some ⟨bb, off, none⟩) (k + 1) ccap 2) (cs.length - (k + 1)) (ccap - (k + 1))) w := fun w => by have := sl30 (some ⟨bb, off, none⟩) cs.length ccap (k + 1) (by omega) w; simpa using this
            have TO := tail_ok (j := (k + 1)) (HC.out.below HBR.out) hcn (by omega)
            have HTO : Hid ((tl (some ⟨bb, off, none⟩) (k + 1) ccap 2 = none → cs.length - (k + 1) = 0 ∧ ccap - (k + 1) = 0) ∧ (0 < cs.length - (k + 1) → ∃ ad, tl (some ⟨bb, off, none⟩) (k + 1) ccap 2 = some ad ∧ ∀ i u, (clL (cs.drop (k + 1)))[i]? = some u → wr.cell? (ad.add i) = some u)) := TO
            clear TO
            go_wp2_with (first | (go_at_call 53; refine (show Calls _ _ _ _ _ from HKB).mono ?_; rintro e w' ⟨rfl, hww⟩; cases hww) | (at_builtin; refine wl_tail rfl (.tmp 55) (.tmp 58) 33 rfl w.heap.size 79 i0 (.agg #[.int .i64 0, .slice none 0 0]) 2 32 Tryz.underlying33 hi hz0 hz1 hz2 rfl (by decide) u7 k (clL (cs.take k)) rfl HO.out (tl (some ⟨bb, off, none⟩) (k + 1) ccap 2) (cs.length - (k + 1)) (ccap - (k + 1)) (clL (cs.drop (k + 1))) rfl HTO.out.1 (by rw [clL_length, List.length_drop]) HTO.out.2 (HONE.out (k + 1)) (by unfold maxLen; omega) (by omega) hsz ?_; intro v4 w4 hown4 hgrow4))
            go_ret
            have HB4 : Below w.heap.size w w4 := HBR.out.grown hgrow4 hsz (fun k hk => (HO.out.lt k hk).1)
            refine ⟨_, cs.take k ++ ([] ++ cs.drop (k + 1)), rfl, ?_⟩
            exact put_end HC.out HB.out HB4 (mid := []) (by simp) HKA.out (by rw [HBL.out]; rfl) HSK.out hown4 (by simp; omega) (by rw [List.nil_append, clL_append]) (by omega)
        · have e2 : (x.1 == at_) = false := by simpa using heq
          have HSK : Hid (k = skipAt (plainC cs) (ahead (plainC cs) at_) at_) := by
            show _ = _
            unfold skipAt
            rw [← HKA.out, plainC_at, hxk]
            simp [heq]
          clear hxk a0 a1 hba heq
          cases hbl : isBlank b
          · have KB := blank_any HBB.out
            rw [hbl] at KB
            have HKB : Hid (Calls Tryz.prog 53 #[.slice bp b.length bcap] wr _) := KB
            have HBL : Hid (isBlank b = false) := hbl
            clear KB hbl
            have hsl := sl30 (some ⟨bb, off, none⟩) cs.length ccap k (by omega)
            have HO2 : Hid ((wr.alloc (.cells #[.int .i64 at_, .slice bp b.length bcap] 79)).ownsRow w.heap.size 79 2 u7 k (clL (cs.take k))) := HO.out.alloc _
            have HNW : Hid (∀ j u, [Value.int .i64 at_, .slice bp b.length bcap][j]? = some u → (wr.alloc (.cells #[.int .i64 at_, .slice bp b.length bcap] 79)).cell? ((⟨wr.heap.size, 0, none⟩ : Addr).add j) = some u) := cell_two_new wr _ _ _
            go_wp2_with (first | (go_at_call 53; refine (show Calls _ _ _ _ _ from HKB).mono ?_; rintro e w' ⟨rfl, hww⟩; cases hww) | (at_builtin; refine wpList_append_own _ rfl (.tmp 34) (.tmp 38) 33 rfl w.heap.size 79 i0 (.agg #[.int .i64 0, .slice none 0 0]) 2 32 Tryz.underlying33 hi hz0 hz1 hz2 rfl (by decide) u7 k (clL (cs.take k)) rfl HO2.out ⟨wr.heap.size, 0, none⟩ 1 1 [.int .i64 at_, .slice bp b.length bcap] rfl rfl HNW.out (by intro y hy; simp at hy; rcases hy with rfl | rfl <;> rfl) (by unfold maxLen; omega) (by omega) (HSA.out _) ?_; intro v3 w3 hown3 hgrow3 hnil3; have hB3 : Below w.heap.size w w3 := (HBR.out.alloc hsz _).grown hgrow3 (HSA.out _) (fun k hk => (HO2.out.lt k hk).1); have HO3 : Hid (w3.ownsRow w.heap.size 79 2 v3 (k + 1) (clL (cs.take k) ++ [.int .i64 at_, .slice bp b.length bcap])) := hown3; have HTO := hid2 (tail_ok (j := k) (HC.out.below hB3) hcn (by omega)); have hs3 := hB3.size; have HB3 := hid2 hB3; have q3 := (hB3.cell (p := ⟨bb, off + k * 2, none⟩) hbb).trans A0.out; have hb3 : bb < w3.heap.size := (by omega); clear hown3 hgrow3 hnil3 hB3) | (at_builtin; refine wl_tail rfl (.tmp 55) (.tmp 58) 33 rfl w.heap.size 79 i0 (.agg #[.int .i64 0, .slice none 0 0]) 2 32 Tryz.underlying33 hi hz0 hz1 hz2 rfl (by decide) v3 (k + 1) (clL (cs.take k) ++ [.int .i64 at_, .slice bp b.length bcap]) rfl HO3.out (tl (some ⟨bb, off, none⟩) k ccap 2) (cs.length - k) (ccap - k) (clL (cs.drop k)) rfl HTO.out.1 (by rw [clL_length, List.length_drop]) HTO.out.2 (HONE.out k) (by unfold maxLen; omega) (by omega) hs3 ?_; intro v4 w4 hown4 hgrow4))
            go_ret
            have HB4 : Below w.heap.size w w4 := HB3.out.grown hgrow4 hs3 (fun k hk => (HO3.out.lt k hk).1)
            refine ⟨_, cs.take k ++ ([(at_, .slice bp b.length bcap, b)] ++ cs.drop k), rfl, ?_⟩
            exact put_end HC.out HB.out HB4 (mid := [(at_, .slice bp b.length bcap, b)]) (by simp) HKA.out (by rw [HBL.out]; rfl) HSK.out hown4 (by simp; omega) (by simp [clL]) (by omega)
          · have KB := blank_any HBB.out
            rw [hbl] at KB
            have HKB : Hid (Calls Tryz.prog 53 #[.slice bp b.length bcap] wr _) := KB
            have HBL : Hid (isBlank b = true) := hbl
            clear KB hbl
            have hsl := sl30 (some ⟨bb, off, none⟩) cs.length ccap k (by omega)
            have TO := tail_ok (j := k) (HC.out.below HBR.out) hcn (by omega)
            have HTO : Hid ((tl (some ⟨bb, off, none⟩) k ccap 2 = none → cs.length - k = 0 ∧ ccap - k = 0) ∧ (0 < cs.length - k → ∃ ad, tl (some ⟨bb, off, none⟩) k ccap 2 = some ad ∧ ∀ i u, (clL (cs.drop k))[i]? = some u → wr.cell? (ad.add i) = some u)) := TO
            clear TO
            go_wp2_with (first | (go_at_call 53; refine (show Calls _ _ _ _ _ from HKB).mono ?_; rintro e w' ⟨rfl, hww⟩; cases hww) | (at_builtin; refine wl_tail rfl (.tmp 55) (.tmp 58) 33 rfl w.heap.size 79 i0 (.agg #[.int .i64 0, .slice none 0 0]) 2 32 Tryz.underlying33 hi hz0 hz1 hz2 rfl (by decide) u7 k (clL (cs.take k)) rfl HO.out (tl (some ⟨bb, off, none⟩) k ccap 2) (cs.length - k) (ccap - k) (clL (cs.drop k)) rfl HTO.out.1 (by rw [clL_length, List.length_drop]) HTO.out.2 (HONE.out k) (by unfold maxLen; omega) (by omega) hsz ?_; intro v4 w4 hown4 hgrow4))
            go_ret
            have HB4 : Below w.heap.size w w4 := HBR.out.grown hgrow4 hsz (fun k hk => (HO.out.lt k hk).1)
            refine ⟨_, cs.take k ++ ([] ++ cs.drop k), rfl, ?_⟩
            exact put_end HC.out HB.out HB4 (mid := []) (by simp) HKA.out (by rw [HBL.out]; rfl) HSK.out hown4 (by simp; omega) (by rw [List.nil_append, clL_append]) (by omega)
end Go.Proofs.YtkbfihnoohhojaaGreatDoor.Fla
