/-
  codeText, linkText, Text at this seat.
-/
import Derived.Test.YthjklbgkhpchhaaDoorLast
import Derived.Test.YthjklbgkhpchhaaDoorShelf
namespace Go.Proofs.YthjklbgkhpchhaaDoor
open Go.RowKit Go.Extern.Stop Go.Stop Go.Extern Go.Sort

/-- The digits of a number. -/
def itoaB (n : Int) : ByteArray := ⟨(Lib.itoa n).toArray⟩
/-- A number of 64 bits. -/
def I64 (n : Int) : Prop := -9223372036854775808 ≤ n ∧ n ≤ 9223372036854775807
/-- The table of powers of ten, as strconv reads it. -/
def Tab (w : World) : Prop := Lib.TabIs Tryd.prog w "internal/strconv.uint64pow10" .u64 Lib.pow10Tab

theorem Tryd.pow10 : Tryd.prog.globalNamed "internal/strconv.uint64pow10" = some 2 := by kernel_rfl

theorem Tab.lt {w : World} (h : Tab w) : 2 < w.heap.size := by
  unfold Tab Lib.TabIs World.var? at h
  rw [Tryd.pow10] at h
  simp only [Option.bind_some] at h
  rcases Nat.lt_or_ge 2 w.heap.size with hl | hl
  · exact hl
  · rw [Array.getElem?_eq_none hl] at h; simp at h

theorem Tab.below {w w' : World} (h : Tab w) (hb : Below w.heap.size w w') : Tab w' :=
  var?_below hb Tryd.pow10 h.lt h

theorem nDigits_le (u : Nat) (h : u < 10 ^ 20) : Lib.nDigits u ≤ 20 := by
  rcases Nat.lt_or_ge 20 (Lib.nDigits u) with hl | hl
  · exfalso
    have key : ∀ (k u : Nat), k + 1 ≤ Lib.nDigits u → 1 ≤ k → 10 ^ k ≤ u := by
      intro k
      induction k with
      | zero => intro u _ h2; omega
      | succ k ih =>
        intro u h1 _
        by_cases hu : u < 10
        · rw [Lib.nDigits_small hu] at h1; omega
        · rw [Lib.nDigits_big hu] at h1
          by_cases hk : k = 0
          · subst hk; omega
          · have := ih (u / 10) (by omega) (by omega)
            rw [Nat.pow_succ]; omega
    have := key 20 u (by omega) (by omega)
    omega
  · exact hl

theorem itoaB_size {n : Int} (h : I64 n) (h0 : 0 ≤ n) : (itoaB n).size ≤ 20 := by
  unfold itoaB Lib.itoa
  rw [if_neg (by omega)]
  simp only [ByteArray.size, List.size_toArray, Lib.decDigits_length]
  exact nDigits_le _ (by unfold I64 at h; omega)

theorem below_grow (w : World) (k : Nat) (os : Array Obj) : Below w.heap.size w (grow (w.drewN k) os) :=
  ⟨rfl, rfl, rfl, by simp [grow], fun i hi => by
    show (w.heap ++ os)[i]? = w.heap[i]?
    rw [Array.getElem?_append_left hi]⟩

theorem itoa_any {n : Int} {w : World} (h : I64 n) (ht : Tab w) :
    Calls Tryd.prog 30 #[.int .i64 n] w fun e w' => e = .returned (.string (itoaB n)) ∧ Below w.heap.size w w' :=
  (Tryd.strconv_Itoa n h.1 h.2 w ht).mono fun e w' ⟨h1, k, os, h2⟩ => ⟨h1, by rw [h2]; exact below_grow _ _ _⟩

def codeB (c : Int) : ByteArray := if c < 0 then ⟨#[63]⟩ else itoaB c
theorem codeB_size {c : Int} (h : I64 c) : (codeB c).size ≤ 20 := by
  unfold codeB
  split
  · decide
  · exact itoaB_size h (by omega)

theorem code_any {c : Int} {w : World} (h : I64 c) (ht : Tab w) :
    Calls Tryd.prog 31 #[.int .i64 c] w fun e w' => e = .returned (.string (codeB c)) ∧ Below w.heap.size w w' := by
  by_cases hc : c < 0
  · have A : Hid (codeB c = ⟨#[63]⟩) := by unfold Hid codeB; rw [if_pos hc]
    go_enter Tryd.func31, Tryd.ntmps31
    go_wp2
    go_ret
    exact ⟨by rw [A.out]; rfl, Below.refl _ _⟩
  · have A : Hid (codeB c = itoaB c) := by unfold Hid codeB; rw [if_neg hc]
    go_enter Tryd.func31, Tryd.ntmps31
    go_wp2_with (go_at_call 30; refine (itoa_any h ht).mono ?_; rintro e w1 ⟨rfl, hb⟩)
    go_ret
    exact ⟨by rw [A.out]; rfl, hb⟩

def atB (a : Int) : ByteArray := if 0 ≤ a then ⟨#[32]⟩ ++ itoaB a else ByteArray.empty
def codB (c : Int) : ByteArray := if c = 0 then ByteArray.empty else ⟨#[32, 99, 111, 100, 101, 32]⟩ ++ codeB c
/-- One link as a text. -/
def linkB (l : Lnk) : ByteArray := (l.1 ++ atB l.2.1) ++ codB l.2.2

/-- A link that may be told: what was done is not too long, its numbers are of 64 bits. -/
structure LOk (l : Lnk) : Prop where
  op : l.1.size ≤ 2097152
  at_ : I64 l.2.1
  code : I64 l.2.2

set_option maxHeartbeats 1000000 in
theorem link_any {op : ByteArray} {a c : Int} {w : World} (h : LOk (op, a, c)) (ht : Tab w) :
    Calls Tryd.prog 25 #[.agg #[.string op, .int .i64 a, .int .i64 c]] w fun e w' => e = .returned (.string (linkB (op, a, c))) ∧ Below w.heap.size w w' := by
  have hop : op.size ≤ 2097152 := h.op
  have hA : Below w.heap.size w (w.alloc (.cells #[.string op, .int .i64 a, .int .i64 c] 32)) := by go_grown
  have htA := ht.below hA
  by_cases ha : 0 ≤ a
  · have s1 := itoaB_size (n := a) h.at_ ha
    by_cases hc : c = 0
    · have hc' : (c != 0) = false := by simpa using hc
      have B : Hid (linkB (op, a, c) = op ++ (⟨#[32]⟩ ++ itoaB a)) := by unfold Hid linkB atB codB; simp [ha, hc]
      clear hc
      go_enter Tryd.func25, Tryd.ntmps25
      go_wp2_with (go_at_call 30; refine (itoa_any h.at_ htA).mono ?_; rintro e w1 ⟨rfl, hb⟩; obtain ⟨hc1, hf1⟩ := bcell hb)
      go_ret
      exact ⟨by rw [B.out]; rfl, hA.trans (hb.mono (by simp))⟩
    · have hc' : (c != 0) = true := by simpa using hc
      have s2 := codeB_size (c := c) h.code
      have B : Hid (linkB (op, a, c) = op ++ (⟨#[32]⟩ ++ itoaB a) ++ (⟨#[32, 99, 111, 100, 101, 32]⟩ ++ codeB c)) := by unfold Hid linkB atB codB; simp [ha, hc]
      clear hc
      go_enter Tryd.func25, Tryd.ntmps25
      go_wp2_with (first
        | (go_at_call 30; refine (itoa_any h.at_ htA).mono ?_; rintro e w1 ⟨rfl, hb⟩; obtain ⟨hc1, hf1⟩ := bcell hb)
        | (go_at_call 31; refine (code_any h.code (htA.below hb)).mono ?_; rintro e w2 ⟨rfl, hb2⟩))
      go_ret
      exact ⟨by rw [B.out]; rfl, (hA.trans (hb.mono (by simp))).trans (hb2.mono (Nat.le_trans hA.size hb.size))⟩
  · by_cases hc : c = 0
    · have hc' : (c != 0) = false := by simpa using hc
      have B : Hid (linkB (op, a, c) = op) := by unfold Hid linkB atB codB; simp [ha, hc]
      clear hc
      go_enter Tryd.func25, Tryd.ntmps25
      go_wp2
      go_ret
      exact ⟨by rw [B.out]; rfl, hA⟩
    · have hc' : (c != 0) = true := by simpa using hc
      have s2 := codeB_size (c := c) h.code
      have B : Hid (linkB (op, a, c) = op ++ (⟨#[32, 99, 111, 100, 101, 32]⟩ ++ codeB c)) := by unfold Hid linkB atB codB; simp [ha, hc]
      clear hc
      go_enter Tryd.func25, Tryd.ntmps25
      go_wp2_with (go_at_call 31; refine (code_any h.code htA).mono ?_; rintro e w2 ⟨rfl, hb2⟩)
      go_ret
      exact ⟨by rw [B.out]; rfl, hA.trans (hb2.mono (by simp))⟩

/-- The text of links. -/
def textB (ls : List Lnk) : ByteArray := ⟨(Lib.join ((ls.map linkB).map (·.data.toList)) [58, 32]).toArray⟩

theorem Tryd.info9m : (Tryd.prog.info? 9).map (fun i => (i.zero, i.size, i.bytes)) = some (some (.string ByteArray.empty), 1, 16) := by kernel_rfl
theorem Tryd.info9 : ∃ i, Tryd.prog.info? 9 = some i ∧ i.zero = some (.string ByteArray.empty) ∧ i.size = 1 ∧ i.bytes = 16 := by
  obtain ⟨i, h1, h2⟩ := Option.map_eq_some_iff.1 Tryd.info9m
  simp only [Prod.mk.injEq] at h2
  exact ⟨i, h1, h2.1, h2.2.1, h2.2.2⟩

theorem cellsOf_at (ls : List Lnk) (k : Nat) (op : ByteArray) (a c : Int) (h : ls[k]? = some (op, a, c)) :
    (cellsOf ls)[k * 3]? = some (.string op) ∧ (cellsOf ls)[k * 3 + 1]? = some (.int .i64 a) ∧ (cellsOf ls)[k * 3 + 2]? = some (.int .i64 c) := by
  induction ls generalizing k with
  | nil => simp at h
  | cons l r ih =>
    obtain ⟨o, x, y⟩ := l
    rcases k with _ | k
    · simp at h; obtain ⟨rfl, rfl, rfl⟩ := h; simp [cellsOf]
    · have := ih k (by simpa using h)
      rw [show (k + 1) * 3 = k * 3 + 3 by omega]
      simpa [cellsOf] using this

theorem linkB_size {l : Lnk} (h : LOk l) : (linkB l).data.toList.length ≤ 2097252 := by
  have h1 := h.op
  have h2 : (atB l.2.1).size ≤ 21 := by
    unfold atB
    split
    · have := itoaB_size h.at_ (by assumption)
      simp only [ByteArray.size_append]
      have e : (⟨#[32]⟩ : ByteArray).size = 1 := rfl
      omega
    · decide
  have h3 : (codB l.2.2).size ≤ 26 := by
    unfold codB
    split
    · decide
    · have := codeB_size h.code
      simp only [ByteArray.size_append]
      have e : (⟨#[32, 99, 111, 100, 101, 32]⟩ : ByteArray).size = 6 := rfl
      omega
  show (linkB l).size ≤ _
  unfold linkB
  simp only [ByteArray.size_append]
  omega

theorem join_len (xs : List (List UInt8)) (sep : List UInt8) (M : Nat) (h : ∀ x ∈ xs, x.length ≤ M) : (Lib.join xs sep).length ≤ xs.length * (M + sep.length) := by
  unfold Lib.join
  induction xs with
  | nil => simp
  | cons x r ih =>
    have hx := h x (by simp)
    have ih' := ih fun y hy => h y (by simp [hy])
    cases r with
    | nil => simp; omega
    | cons y r =>
      rw [List.intercalate_cons_cons]
      simp only [List.length_append, List.length_cons] at ih' ⊢
      rw [Nat.add_mul (r.length + 1) 1]
      omega

theorem join_le (xs : List ByteArray) (hn : xs.length ≤ 100) (h : ∀ x ∈ xs, x.data.toList.length ≤ 2097252) : (Lib.join (xs.map (·.data.toList)) (⟨#[58, 32]⟩ : ByteArray).data.toList).length ≤ 140737488355328 := by
  have := join_len (xs.map (·.data.toList)) (⟨#[58, 32]⟩ : ByteArray).data.toList 2097252 (fun x hx => by obtain ⟨y, hy, rfl⟩ := List.mem_map.1 hx; exact h y hy)
  rw [List.length_map] at this
  have e : (⟨#[58, 32]⟩ : ByteArray).data.toList.length = 2 := rfl
  rw [e] at this
  have : xs.length * (2097252 + 2) ≤ 100 * (2097252 + 2) := Nat.mul_le_mul_right _ hn
  omega

set_option maxHeartbeats 2000000 in
set_option maxRecDepth 10000 in
theorem text_any {w : World} {v : Value} {ls : List Lnk} (hg : ErrT w) (ht : Tab w) (h : Lk w v ls) (hne : ls ≠ []) (hlen : ls.length ≤ 100) (hok : ∀ l ∈ ls, LOk l) :
    Calls Tryd.prog 16 #[v] w fun e w' => e = .returned (.string (textB ls)) ∧ Below w.heap.size w w' := by
  obtain ⟨i0, hi, hz0, hz1, hz2⟩ := Tryd.info9
  have hpos : 0 < ls.length := List.length_pos_iff.2 hne
  obtain ⟨n, hn⟩ : ∃ n, ls.length = n + 1 := ⟨ls.length - 1, by omega⟩
  have hl1 : ls.length ≤ 1000 := by omega
  go_enter Tryd.func16, Tryd.ntmps16
  go_wp2_with (go_at_call 10; refine (chain_any hg h.er hl1).mono ?_; rintro e w1 ⟨sv, rfl, hown, hb1⟩; rw [hn] at hown; obtain ⟨g, cap, rfl, g1, g2, g3, g4, g5⟩ := own_at hown)
  have hg5 : ∀ k op a c, ls[k]? = some (op, a, c) → w1.cell? ⟨g, k * 3, none⟩ = some (.string op) ∧ w1.cell? ⟨g, k * 3 + 1, none⟩ = some (.int .i64 a) ∧ w1.cell? ⟨g, k * 3 + 2, none⟩ = some (.int .i64 c) := fun k op a c hk => by
    obtain ⟨x, y, z⟩ := cellsOf_at ls k op a c hk
    exact ⟨g5 _ _ x, g5 _ _ y, g5 _ _ z⟩
  have HN : Hid (ls.length = n + 1 ∧ ls.length ≤ 100 ∧ (∀ k op a c, ls[k]? = some (op, a, c) → w1.cell? ⟨g, k * 3, none⟩ = some (.string op) ∧ w1.cell? ⟨g, k * 3 + 1, none⟩ = some (.int .i64 a) ∧ w1.cell? ⟨g, k * 3 + 2, none⟩ = some (.int .i64 c))) := ⟨hn, hlen, hg5⟩
  have hn2 : n < 100 := by omega
  clear g5 hg5 hown hn hlen hl1 hpos
  go_loopg [3, 9] (n + 1) (fun r s i wr => ∃ k : Nat, k ≤ n + 1 ∧ r = n + 1 - k ∧ i = .int .i64 k ∧ wr.ownsRow w1.heap.size 9 1 s k ((ls.take k).map fun l => .string (linkB l)) ∧ Below w1.heap.size w1 wr)
  case atStart => exact ⟨0, by omega, by omega, rfl, World.ownsRow_nil _ _ _ _, Below.refl _ _⟩
  case round =>
    obtain ⟨k, hk, hr, rfl, hown, hbr⟩ := hrel
    have R : Hid (gk = n + 1 - k) := hr
    clear hr
    by_cases hlt : k < n + 1
    · obtain ⟨op, a, c, hl⟩ : ∃ op a c, ls[k]? = some (op, a, c) := by
        have : k < ls.length := by rw [HN.out.1]; exact hlt
        exact ⟨ls[k].1, ls[k].2.1, ls[k].2.2, by rw [List.getElem?_eq_getElem this]⟩
      obtain ⟨x0, y0, z0⟩ := HN.out.2.2 k op a c hl
      have x1 := (hbr.cell (p := ⟨g, k * 3, none⟩) g2).trans x0
      have y1 := (hbr.cell (p := ⟨g, k * 3 + 1, none⟩) g2).trans y0
      have z1 := (hbr.cell (p := ⟨g, k * 3 + 2, none⟩) g2).trans z0
      have hmem : LOk (op, a, c) := hok _ (List.mem_of_getElem? hl)
      have HL : Hid (ls[k]? = some (op, a, c)) := hl
      have hsz := hbr.size
      have hB1 : Below w1.heap.size w1 (wr.alloc (.cells #[.string op, .int .i64 a, .int .i64 c] 32)) := hbr.alloc hsz _
      have htB := (ht.below hb1).below hB1
      clear hl x0 y0 z0
      go_wp2_with (first
        | (go_at_call 25; refine (link_any hmem htB).mono ?_; rintro e w3 ⟨rfl, hb3⟩; have hB3 := hB1.trans (hb3.mono hB1.size); have hO3 := ((own_below (hown.alloc (.cells #[.string op, .int .i64 a, .int .i64 c] 32)) hb3).alloc (.cells #[.string (linkB (op, a, c))] 9)); have hB4 := hB3.alloc hB3.size (.cells #[.string (linkB (op, a, c))] 9))
        | (at_builtin; refine wpList_append_own _ rfl (.tmp 13) (.tmp 16) 56 rfl w1.heap.size 9 i0 (.string ByteArray.empty) 1 16 Tryd.underlying56 hi hz0 hz1 hz2 rfl (by decide) _ _ _ rfl hO3 ⟨w3.heap.size, 0, none⟩ 1 1 [.string (linkB (op, a, c))] rfl rfl (cell_one_new _ _ _) (by intro x hx; simp at hx; subst hx; rfl) (by unfold maxLen; omega) (by omega) hB4.size ?_; intro v5 w5 hown5 hgrow5 hnil5; have hB5 := hB4.grown hgrow5 hB4.size (fun k hk => (hO3.lt k hk).1)))
      go_roundg (n + 1 - (k + 1))
      case measure => rw [R.out]; omega
      case rel =>
        refine ⟨k + 1, by omega, rfl, by go_num, ?_, hB5⟩
        rw [List.take_add_one, HL.out, List.map_append]
        exact hown5
    · have hk2 : k = n + 1 := by omega
      subst hk2
      obtain ⟨g', cap', hs, q1, q2, q3, q4, q5⟩ := own_at hown
      have htk : ls.take (n + 1) = ls := List.take_of_length_le (by rw [HN.out.1]; exact Nat.le_refl _)
      rw [htk] at q5
      have hcells : ∀ (j : Nat) x, (ls.map linkB)[j]? = some x → wr.cell? ⟨g', 0 + j, none⟩ = some (.string x) := fun j x hj => by
        rw [Nat.zero_add]
        refine q5 j _ ?_
        rw [List.getElem?_map] at hj ⊢
        obtain ⟨l, hl, rfl⟩ := Option.map_eq_some_iff.1 hj
        rw [hl]; rfl
      have hxl : (ls.map linkB).length = n + 1 := by rw [List.length_map]; exact HN.out.1
      have hj := Tryd.strings_Join g' 0 cap' (ls.map linkB) ⟨#[58, 32]⟩ wr hcells q2 (by rw [hxl]; omega) (by rw [hxl]; exact q3) (join_le _ (by rw [hxl]; omega) (fun x hx => by obtain ⟨l, hl, rfl⟩ := List.mem_map.1 hx; exact linkB_size (hok l hl)))
      rw [hxl] at hj
      subst hs
      have HJ := hj
      clear hj q5 hcells
      go_wp2_with (go_at_call 26; refine HJ.mono ?_; rintro e w6 ⟨rfl, hb6⟩)
      go_ret
      exact ⟨by unfold textB; rw [List.map_map]; rfl, (hb1.trans (hbr.mono hb1.size)).trans (hb6.mono (Nat.le_trans hb1.size hbr.size))⟩
end Go.Proofs.YthjklbgkhpchhaaDoor
