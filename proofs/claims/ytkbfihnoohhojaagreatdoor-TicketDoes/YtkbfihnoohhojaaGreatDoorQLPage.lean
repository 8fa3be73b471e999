/-
  The plain mathematics of layer 5: a leaf as a page, and how a page is read.
-/
import Derived.Test.YtkbfihnoohhojaaGreatDoorQLOct
import Derived.Lib.AppendZeros
namespace Go.Proofs.YtkbfihnoohhojaaGreatDoor.Lea
open Go.RowKit

theorem zeroCells_one (m : Nat) : Builtin.zeroCells #[Value.int .u8 0] m = (List.replicate m (Value.int .u8 0)).toArray := by
  apply Array.ext
  · simp [Builtin.zeroCells]
  · intro i h1 h2
    simp [Builtin.zeroCells, Nat.mod_one]

theorem run_append_zeros_own {w : World} {base n m : Nat} {v : Value} {xs : List Value} (ty : TypeId) (hown : w.ownsRow base 5 1 v n xs) (hn : v ≠ .slice none 0 0) (hbd : n + m ≤ 5000) (hbase : base ≤ w.heap.size) :
    ∃ v' w', (Builtin.append_ #[42, 3] ty #[v, .int .i64 (m : Int)]).run Tryz.prog w = .ok v' w' ∧ w'.ownsRow base 5 1 v' (n + m) (xs ++ List.replicate m (.int .u8 0)) ∧ w.grownBy w' v.ownBlock := by
  obtain ⟨i, hi, hz0, hz1, hz2⟩ := Tryz.info5
  have h22 := run_underlying (P := Tryz.prog) (w := w) Tryz.underlying42
  have h3 := run_underlying (P := Tryz.prog) (w := w) Tryz.underlying3
  have hw : IntKind.i64.wrap (m : Int) = m := by rw [IntKind.wrap_i64]; omega
  have hw0 : IntKind.i64.wrap (0 : Int) = 0 := by decide
  have hneg : ¬ ((m : Int) < 0) := by omega
  have h48 : ¬ (281474976710656 < (m : Int)) := by omega
  have hlen : (xs ++ List.replicate m (Value.int .u8 0)).length = (n + m) * 1 := by rw [List.length_append, hown.1, List.length_replicate]; omega
  have hone : ∀ u ∈ List.replicate m (Value.int .u8 0), u.oneCell' = true := fun u hu => by rw [List.eq_of_mem_replicate hu]; rfl
  rcases hown.2 with ⟨h0, _⟩ | ⟨g, cap, cur, rfl, hbg, hg, hnc, hcm, hcs, htake⟩
  · exact absurd h0 hn
  · have hxl : xs.length = n := by have := hown.1; omega
    by_cases hroom : n + m ≤ cap
    · have hst := run_storeCells_at Tryz.prog g n 5 (List.replicate m (Value.int .u8 0)) 0 cur w hg (by simp; omega) hone
      simp only [Nat.add_zero, List.length_replicate] at hst
      have hr : (Builtin.append_ #[42, 3] ty #[.slice (some ⟨g, 0, none⟩) n cap, .int .i64 (m : Int)]).run Tryz.prog w = .ok (.slice (some ⟨g, 0, none⟩) (n + m) cap) (w.setRow g (cur.toList.take n ++ List.replicate m (Value.int .u8 0) ++ cur.toList.drop (n + m)).toArray) := by
        by_cases hm : m = 0
        · subst hm
          simp only [List.replicate_zero, List.append_nil, Nat.add_zero] at hst ⊢
          simp [Builtin.append_, h22, sizeOf, typeInfo, hi, hz1, hz2, asInt, asIntOf, hw0, hnc]
          have := hst
          simpa [storeCells] using this
        · simp [Builtin.append_, h22, sizeOf, typeInfo, zeroValue, hi, hz0, hz1, hz2, asInt, asIntOf, hw, hneg, h48, hm, hroom, Addr.add_lit, Value.cells, zeroCells_one, hst]
      refine ⟨_, _, hr, ⟨hlen, .inr ⟨g, cap, _, rfl, hbg, setRow_heap w g cur _ 5 _ hg, hroom, hcm, ?_, ?_⟩⟩, ⟨rfl, rfl, rfl, by simp, fun k _ hk => setRow_other w g k _ (fun e => hk (by simp [Value.ownBlock, e]))⟩⟩
      · simp only [List.size_toArray, List.length_append, List.length_take, List.length_drop, Array.length_toList, List.length_replicate]
        omega
      · rw [Nat.mul_one] at htake
        rw [htake, ← hlen]
        exact List.take_left
    · have holds : ∀ j u, xs[j]? = some u → w.drew.cell? ((⟨g, 0, none⟩ : Addr).add j) = some u := by simpa using hown.cells (g := g) rfl
      have hm : m ≠ 0 := by omega
      have hfo := run_firstCells_some (P := Tryz.prog) w.drew 1 n ⟨g, 0, none⟩ n cap xs hown.1 holds
      have h63' : ¬ (9223372036854775807 < ((n : Int) + (m : Int))) := by omega
      have hfit := growslice_fits (need := n + m) (old := cap) (bytes := 1) (by omega) (by omega)
      have h48' : ¬ (281474976710656 < Builtin.nextslicecap (n + m) cap) := by omega
      have hge := grownCap_ge w (n + m) cap 5
      have hcm2 : grownCap w (n + m) cap 5 ≤ maxLen := grownCap_le_maxLen w (n + m) cap 5 (by unfold maxLen; omega)
      have hr : (Builtin.append_ #[42, 3] ty #[.slice (some ⟨g, 0, none⟩) n cap, .int .i64 (m : Int)]).run Tryz.prog w = .ok (.slice (some ⟨w.heap.size, 0, none⟩) (n + m) (grownCap w (n + m) cap 5)) (w.drew.alloc (.cells (xs.toArray ++ (List.replicate m (.int .u8 0)).toArray ++ Builtin.zeroCells #[.int .u8 0] (grownCap w (n + m) cap 5 - (n + m))) 5)) := by
        simp [Builtin.append_, h22, sizeOf, typeInfo, zeroValue, hi, hz0, hz1, hz2, asInt, asIntOf, hw, hneg, h48, hm, hroom, h63', h48', Question.forced, hfo, newRow, grownCap, Value.cells, zeroCells_one]
      refine ⟨_, _, hr, ⟨hlen, .inr ⟨w.heap.size, _, _, rfl, hbase, heap_alloc_new w.drew _, hge, hcm2, ?_, ?_⟩⟩, ⟨rfl, rfl, rfl, by simp, fun k hk _ => Below.heap_alloc w.drew _ k hk⟩⟩
      · simp only [Array.size_append, List.size_toArray, size_zeroCells, hxl, List.length_replicate, Nat.mul_one]
        simp
        omega
      · simp only [Array.toList_append, List.append_assoc]
        rw [← List.append_assoc, ← hlen]
        exact List.take_left

/-- The operation, for the walk. -/
theorem wpList_append_zeros {ops : Array Oper} {rest : List Oper} {o : Oper} {a : Act} {Q : Exit → Act → World → Prop} (w : World) (hgd : o.guard = none) (s x : Operand)
    (ho : o.op = .call { callee := .builtin .append, args := #[s, x], argTypes := #[42, 3] }) (B : Nat) (v : Value) (n m : Nat) (xs : List Value) (hs : a.eval s = v) (hx : a.eval x = .int .i64 (m : Int)) (hown : w.ownsRow B 5 1 v n xs) (hn : v ≠ .slice none 0 0) (hbd : n + m ≤ 5000) (hB : B ≤ w.heap.size)
    (h : ∀ v' w', w'.ownsRow B 5 1 v' (n + m) (xs ++ List.replicate m (.int .u8 0)) → w.grownBy w' v.ownBlock → wpList Tryz.prog ops Q rest (a.put o.dst v') w') : wpList Tryz.prog ops Q (o :: rest) a w := by
  obtain ⟨v', w', hr, h1, h2⟩ := run_append_zeros_own o.type hown hn hbd hB
  exact Lib.wpList_append_run w hgd s x 42 3 ho v _ hs hx v' w' hr (h v' w' h1 h2)
end Go.Proofs.YtkbfihnoohhojaaGreatDoor.Lea

namespace Go.Proofs.YtkbfihnoohhojaaGreatDoor.Lea
open Go.RowKit

/-- A number in k bytes, the highest first. -/
def w8 (n : Nat) : Nat → List Nat
  | 0 => []
  | k + 1 => n / 256 ^ k % 256 :: w8 n k
theorem w8_length (n k : Nat) : (w8 n k).length = k := by
  induction k with
  | zero => rfl
  | succ k ih => simp [w8, ih]
theorem w8_byt (n k : Nat) : Byt (w8 n k) := by
  induction k with
  | zero => intro x hx; cases hx
  | succ k ih =>
    intro x hx
    rcases List.mem_cons.1 hx with rfl | hx
    · omega
    · exact ih x hx
/-- Bytes as whole numbers. -/
def ints (l : List Nat) : List Int := l.map fun (x : Nat) => (x : Int)
theorem ints_length (l : List Nat) : (ints l).length = l.length := by simp [ints]
theorem ints_byt {l : List Nat} (h : Byt l) : Oct.Byt (ints l) := by
  intro x hx
  obtain ⟨y, hy, rfl⟩ := List.mem_map.1 hx
  have := h y hy
  omega
theorem U_ints (l : List Nat) : Oct.U (ints l) = U l := by simp [Oct.U, U, ints]
theorem w8_int (n k : Nat) : ints (w8 n k) = Oct.wd (n : Int) k := by
  induction k with
  | zero => rfl
  | succ k ih =>
    show ((n / 256 ^ k % 256 : Nat) : Int) :: ints (w8 n k) = _
    rw [ih, Int.natCast_emod, Int.natCast_ediv, Int.natCast_pow]
    rfl
theorem U_wd (n k : Nat) : Oct.U (Oct.wd (n : Int) k) = U (w8 n k) := by rw [← w8_int, U_ints]

/-- The number of bytes, the highest first. -/
def numF (n : Nat) (l : List Nat) : Nat := l.foldl (fun a c => a * 256 + c) n
def num8 (l : List Nat) : Nat := numF 0 l
theorem numF_int (l : List Nat) : ∀ n : Nat, Oct.wfold (n : Int) (ints l) = (numF n l : Int) := by
  induction l with
  | nil => intro n; rfl
  | cons c r ih =>
    intro n
    show Oct.wfold ((n : Int) * 256 + (c : Int)) (ints r) = (numF (n * 256 + c) r : Int)
    rw [← ih]
    congr 1
theorem num8_int (l : List Nat) : Oct.wfold 0 (ints l) = (num8 l : Int) := numF_int l 0
theorem num_inj : ∀ (l l' : List Nat) (n m : Nat), l.length = l'.length → Byt l → Byt l' → numF n l = numF m l' → n = m ∧ l = l' := by
  intro l
  induction l with
  | nil =>
    intro l' n m hl _ _ h
    cases l' with
    | nil => exact ⟨h, rfl⟩
    | cons _ _ => simp at hl
  | cons c r ih =>
    intro l' n m hl h1 h2 h
    cases l' with
    | nil => simp at hl
    | cons d s =>
      obtain ⟨e1, e2⟩ := ih s (n * 256 + c) (m * 256 + d) (by simpa using hl) (fun x hx => h1 x (by simp [hx])) (fun x hx => h2 x (by simp [hx])) h
      have b1 := h1 c (by simp)
      have b2 := h2 d (by simp)
      exact ⟨by omega, by rw [e2, show c = d by omega]⟩
theorem num8_w8 (n : Nat) (h : n ≤ 18446744073709551615) : num8 (w8 n 8) = n := by
  have e := Oct.wfold_word (n : Int) (by omega) (by omega)
  rw [← w8_int, num8_int] at e
  omega
theorem num8_inj {l l' : List Nat} (h : l.length = l'.length) (h1 : Byt l) (h2 : Byt l') (e : num8 l = num8 l') : l = l' := (num_inj l l' 0 0 h h1 h2 e).2
theorem num8_lt {l : List Nat} (h : l.length = 8) (hb : Byt l) : num8 l ≤ 18446744073709551615 := by
  have := (Oct.wfold_bd (ints l) (ints_byt hb) 0 0 (by omega) (by simp)).2
  rw [num8_int, ints_length, h] at this
  simp at this
  omega
theorem w8_num8 {l : List Nat} (h : l.length = 8) (hb : Byt l) : w8 (num8 l) 8 = l :=
  num8_inj (by rw [w8_length, h]) (w8_byt _ _) hb (num8_w8 _ (num8_lt h hb))

/-- What is wrong with what a page is to hold. -/
def checkC (s k : Int) (n : Nat) : Int := if s < 1 ∨ 1099511627776 < s then 2 else if k < 1 ∨ 5 < k then 12 else if 233 < n then 3 else 0
theorem check_zero {s k : Int} {n : Nat} (h : checkC s k n = 0) : 1 ≤ s ∧ s ≤ 1099511627776 ∧ 1 ≤ k ∧ k ≤ 5 ∧ n ≤ 233 := by
  unfold checkC at h
  split at h
  · cases h
  · split at h
    · cases h
    · split at h
      · cases h
      · omega
theorem check_fine {s k : Int} {n : Nat} (h1 : 1 ≤ s) (h2 : s ≤ 1099511627776) (h3 : 1 ≤ k) (h4 : k ≤ 5) (h5 : n ≤ 233) : checkC s k n = 0 := by
  unfold checkC
  rw [if_neg (by omega), if_neg (by omega), if_neg (by omega)]

/-- A page's first 244 bytes, and all of it. -/
def body (s k : Nat) (l : List Nat) : List Nat := w8 s 8 ++ [k, l.length / 256, l.length % 256] ++ l ++ List.replicate (233 - l.length) 0
def page (s k : Nat) (l : List Nat) : List Nat := sealL (body s k l) ++ w8 s 8
theorem body_length {s k : Nat} {l : List Nat} (h : l.length ≤ 233) : (body s k l).length = 244 := by simp [body, w8_length]; omega
theorem page_length {s k : Nat} {l : List Nat} (h : l.length ≤ 233) : (page s k l).length = 256 := by simp [page, sealL_length, body_length h, w8_length]
theorem body_byt {s k : Nat} {l : List Nat} (hk : k < 256) (hl : l.length ≤ 233) (h : Byt l) : Byt (body s k l) := by
  refine (((w8_byt _ _).append ?_).append h).append ?_
  · intro x hx
    simp at hx
    omega
  · intro x hx
    rw [List.eq_of_mem_replicate hx]
    omega
theorem four_byt (n : Nat) : Byt (four n) := by intro x hx; simp [four] at hx; omega
theorem sealL_byt {l : List Nat} (h : Byt l) : Byt (sealL l) := h.append (four_byt _)
theorem page_byt {s k : Nat} {l : List Nat} (hk : k < 256) (hl : l.length ≤ 233) (h : Byt l) : Byt (page s k l) := (sealL_byt (body_byt hk hl h)).append (w8_byt _ _)
theorem fitsB_seal (l : List Nat) : fitsB (sealL l) = true := by
  have e := sealL_length l
  refine fitsB_of (by omega) ?_
  have : (sealL l).take ((sealL l).length - 4) = l := by
    rw [e, Nat.add_sub_cancel]
    unfold sealL
    exact List.take_left
  rw [this]

/-- A number as a stamp. -/
def stampN (n : Nat) : Nat := if 1099511627776 < n then 0 else n
def kindP (b : List Nat) : Nat := b.getD 8 0
def sizeP (b : List Nat) : Nat := b.getD 9 0 * 256 + b.getD 10 0
def noughtsB (l : List Nat) : Bool := l.all (· == 0)
def stampsP (b : List Nat) : Nat × Nat := if b.length = 256 then (stampN (num8 (b.take 8)), stampN (num8 (b.drop 248))) else (0, 0)
/-- What is wrong with a page, whatever stands in it. -/
def spoiltP (b : List Nat) : Int := if b.take 8 ≠ b.drop 248 then 8 else if stampN (num8 (b.take 8)) = 0 then 9 else if fitsB (b.take 248) = false then 7 else 0
/-- What a page holds, behind what is wrong with it. -/
def getP (b : List Nat) : Int × Nat × Nat × List Nat :=
  if b.length ≠ 256 then (6, 0, 0, [])
  else if spoiltP b ≠ 0 then (spoiltP b, 0, 0, [])
  else if 233 < sizeP b then (5, 0, 0, [])
  else if kindP b < 1 ∨ 5 < kindP b then (12, 0, 0, [])
  else if noughtsB ((b.take 244).drop (11 + sizeP b)) = false then (5, 0, 0, [])
  else (0, stampN (num8 (b.take 8)), kindP b, (b.take (11 + sizeP b)).drop 11)

theorem take_split {b : List Nat} {i j : Nat} (h : i ≤ j) : b.take j = b.take i ++ (b.take j).drop i := by
  have := (List.take_append_drop i (b.take j)).symm
  rwa [List.take_take, Nat.min_eq_left h] at this
theorem noughts_eq {l : List Nat} (h : noughtsB l = true) : l = List.replicate l.length 0 := by
  apply List.eq_replicate_of_mem
  intro x hx
  have := List.all_eq_true.1 h x hx
  simpa using this
theorem noughts_replicate (n : Nat) : noughtsB (List.replicate n 0) = true := by
  unfold noughtsB
  rw [List.all_eq_true]
  intro x hx
  rw [List.eq_of_mem_replicate hx]; rfl

theorem page_take8 (s k : Nat) (l : List Nat) : (page s k l).take 8 = w8 s 8 := by
  have : page s k l = w8 s 8 ++ ([k, l.length / 256, l.length % 256] ++ l ++ List.replicate (233 - l.length) 0 ++ four (sum32 (body s k l)) ++ w8 s 8) := by
    simp [page, sealL, body]
  rw [this, List.take_left' (w8_length _ _)]
theorem page_take248 {s k : Nat} {l : List Nat} (h : l.length ≤ 233) : (page s k l).take 248 = sealL (body s k l) := List.take_left' (by rw [sealL_length, body_length h])
theorem page_drop248 {s k : Nat} {l : List Nat} (h : l.length ≤ 233) : (page s k l).drop 248 = w8 s 8 := List.drop_left' (by rw [sealL_length, body_length h])
theorem page_head (s k : Nat) (l : List Nat) (i : Nat) (x : Nat) (hx : [k, l.length / 256, l.length % 256][i]? = some x) : (page s k l).getD (8 + i) 0 = x := by
  have : page s k l = w8 s 8 ++ ([k, l.length / 256, l.length % 256] ++ (l ++ List.replicate (233 - l.length) 0 ++ four (sum32 (body s k l)) ++ w8 s 8)) := by
    simp [page, sealL, body]
  have hi : i < 3 := by have := (List.getElem?_eq_some_iff.1 hx).1; simpa using this
  rw [this, List.getD_eq_getElem?_getD, List.getElem?_append_right (by rw [w8_length]; omega), w8_length, show 8 + i - 8 = i by omega, List.getElem?_append_left (by simpa using hi), hx]
  rfl
theorem page_kind (s k : Nat) (l : List Nat) : kindP (page s k l) = k := page_head s k l 0 k rfl
theorem page_size (s k : Nat) (l : List Nat) : sizeP (page s k l) = l.length := by
  unfold sizeP
  rw [page_head s k l 1 (l.length / 256) rfl, page_head s k l 2 (l.length % 256) rfl]
  omega
theorem page_front (s k : Nat) {l : List Nat} (h : l.length ≤ 233) : (page s k l).take 244 = body s k l := by
  have e : page s k l = body s k l ++ (four (sum32 (body s k l)) ++ w8 s 8) := by simp [page, sealL]
  rw [e, List.take_left' (body_length h)]
theorem body_bytes (s k : Nat) (l : List Nat) (r : List Nat) : ((body s k l ++ r).take (11 + l.length)).drop 11 = l := by
  have e : body s k l ++ r = (w8 s 8 ++ [k, l.length / 256, l.length % 256]) ++ (l ++ (List.replicate (233 - l.length) 0 ++ r)) := by simp [body]
  have h11 : (w8 s 8 ++ [k, l.length / 256, l.length % 256]).length = 11 := by simp [w8_length]
  rw [e, List.drop_take, List.drop_left' h11, show 11 + l.length - 11 = l.length by omega, List.take_left]
theorem page_bytes (s k : Nat) {l : List Nat} : ((page s k l).take (11 + l.length)).drop 11 = l := by
  have e : page s k l = body s k l ++ (four (sum32 (body s k l)) ++ w8 s 8) := by simp [page, sealL]
  rw [e, body_bytes]
theorem body_rest (s k : Nat) (l : List Nat) : (body s k l).drop (11 + l.length) = List.replicate (233 - l.length) 0 := by
  have e : body s k l = (w8 s 8 ++ [k, l.length / 256, l.length % 256] ++ l) ++ List.replicate (233 - l.length) 0 := by simp [body]
  rw [e, List.drop_left' (by simp [w8_length]; omega)]

theorem stampN_ok {s : Nat} (h : s ≤ 1099511627776) : stampN s = s := by unfold stampN; rw [if_neg (by omega)]
/-- There and back. -/
theorem get_page {s k : Nat} {l : List Nat} (hs : 1 ≤ s) (hs2 : s ≤ 1099511627776) (hk : 1 ≤ k) (hk2 : k ≤ 5) (hl : l.length ≤ 233) : getP (page s k l) = (0, s, k, l) := by
  have hst : stampN (num8 ((page s k l).take 8)) = s := by rw [page_take8, num8_w8 _ (by omega), stampN_ok hs2]
  have hsp : spoiltP (page s k l) = 0 := by
    unfold spoiltP
    rw [if_neg (by rw [page_take8, page_drop248 hl]; simp), if_neg (by rw [hst]; omega), if_neg (by rw [page_take248 hl, fitsB_seal]; decide)]
  unfold getP
  rw [if_neg (by rw [page_length hl]; decide), if_neg (by rw [hsp]; decide), page_size, if_neg (by omega), page_kind, if_neg (by omega), page_front _ _ hl, body_rest, noughts_replicate, if_neg (by decide), hst, page_bytes]
/-- Back and there. -/
theorem page_get {b : List Nat} (hb : Byt b) {s k : Nat} {l : List Nat} (h : getP b = (0, s, k, l)) : page s k l = b ∧ 1 ≤ s ∧ s ≤ 1099511627776 ∧ 1 ≤ k ∧ k ≤ 5 ∧ l.length ≤ 233 ∧ Byt l := by
  unfold getP at h
  split at h
  · simp at h
  rename_i h256
  have h256 : b.length = 256 := by simpa using h256
  split at h
  · rename_i hc
    simp at h
    exact absurd h.1 hc
  rename_i hsp
  have hsp : spoiltP b = 0 := by simpa using hsp
  split at h
  · simp at h
  rename_i hsz
  split at h
  · simp at h
  rename_i hkd
  split at h
  · simp at h
  rename_i hno
  have hno : noughtsB ((b.take 244).drop (11 + sizeP b)) = true := by simpa using hno
  simp only [Prod.mk.injEq, true_and] at h
  obtain ⟨h1, h2, h3⟩ := h
  unfold spoiltP at hsp
  split at hsp
  · cases hsp
  rename_i hends
  have hends : b.take 8 = b.drop 248 := by simpa using hends
  split at hsp
  · cases hsp
  rename_i hst
  split at hsp
  · cases hsp
  rename_i hft
  have hft : fitsB (b.take 248) = true := by simpa using hft
  have h8 : (b.take 8).length = 8 := by rw [List.length_take]; omega
  have hs : num8 (b.take 8) = s ∧ 1 ≤ s ∧ s ≤ 1099511627776 := by
    unfold stampN at h1 hst
    split at h1
    · rename_i hh; rw [if_pos hh] at hst; exact absurd rfl hst
    · rename_i hh; rw [if_neg hh] at hst; omega
  have hll : l.length = sizeP b := by rw [← h3, List.length_drop, List.length_take]; omega
  have hw : w8 s 8 = b.take 8 := by rw [← hs.1]; exact w8_num8 h8 (hb.take 8)
  have b9 : b.getD 9 0 < 256 := by rw [List.getD_eq_getElem?_getD, List.getElem?_eq_getElem (by omega)]; exact hb _ (List.getElem_mem _)
  have b10 : b.getD 10 0 < 256 := by rw [List.getD_eq_getElem?_getD, List.getElem?_eq_getElem (by omega)]; exact hb _ (List.getElem_mem _)
  have hsz2 : sizeP b = b.getD 9 0 * 256 + b.getD 10 0 := rfl
  have hhead : [k, l.length / 256, l.length % 256] = (b.take 11).drop 8 := by
    have e : (b.take 11).drop 8 = [b.getD 8 0, b.getD 9 0, b.getD 10 0] := by
      apply List.ext_getElem?
      intro i
      rw [List.getElem?_drop, List.getElem?_take]
      rcases i with _ | _ | _ | i
      · simp [List.getElem?_eq_getElem (show 8 < b.length by omega)]
      · simp [List.getElem?_eq_getElem (show 9 < b.length by omega)]
      · simp [List.getElem?_eq_getElem (show 10 < b.length by omega)]
      · simp
        omega
    rw [e, hll, ← h2, hsz2]
    have e1 : (b.getD 9 0 * 256 + b.getD 10 0) / 256 = b.getD 9 0 := by omega
    have e2 : (b.getD 9 0 * 256 + b.getD 10 0) % 256 = b.getD 10 0 := by omega
    rw [e1, e2]
    rfl
  have hrest : List.replicate (233 - l.length) 0 = (b.take 244).drop (11 + sizeP b) := by
    rw [noughts_eq hno]
    congr 1
    rw [List.length_drop, List.length_take]
    omega
  have hbody : body s k l = b.take 244 := by
    unfold body
    rw [hw, hhead, hrest, ← h3]
    rw [← take_split (b := b) (i := 8) (j := 11) (by omega), ← take_split (b := b) (i := 11) (j := 11 + sizeP b) (by omega), ← take_split (b := b) (i := 11 + sizeP b) (j := 244) (by omega)]
  have hseal : sealL (b.take 244) = b.take 248 := by
    unfold fitsB at hft
    rw [Bool.and_eq_true] at hft
    have e := of_decide_eq_true hft.2
    rw [List.length_take, show min 248 b.length - 4 = 244 by omega, List.take_take] at e
    exact e.symm
  refine ⟨?_, hs.2.1, hs.2.2, by omega, by omega, by omega, ?_⟩
  · unfold page
    rw [hbody, hseal, hw, hends, List.take_append_drop]
  · rw [← h3]
    intro x hx
    exact hb x (List.mem_of_mem_take (List.mem_of_mem_drop hx))

/-- First bytes of one page, the last ones of another one. -/
def cutAt (a b : List Nat) (n : Nat) : List Nat := a.take n ++ b.drop n
theorem cut_length {a b : List Nat} (ha : a.length = 256) (hb : b.length = 256) {n : Nat} (hn : n ≤ 256) : (cutAt a b n).length = 256 := by simp [cutAt]; omega
theorem cut_take {a b : List Nat} (ha : a.length = 256) {n j : Nat} (hn : n ≤ 256) (h : j ≤ n) : (cutAt a b n).take j = a.take j := by
  unfold cutAt
  rw [List.take_append_of_le_length (by rw [List.length_take]; omega), List.take_take, Nat.min_eq_left h]
theorem cut_drop {a b : List Nat} (ha : a.length = 256) {n j : Nat} (hn : n ≤ 256) (h : n ≤ j) : (cutAt a b n).drop j = b.drop j := by
  unfold cutAt
  rw [List.drop_append, List.drop_eq_nil_of_le (by rw [List.length_take]; omega), List.nil_append, List.length_take, List.drop_drop]
  congr 1
  omega
theorem spoilt_torn {c : List Nat} (h : c.length = 256) (hc : c.take 8 ≠ c.drop 248) : (getP c).1 = 8 := by
  have hs : spoiltP c = 8 := by unfold spoiltP; rw [if_pos hc]
  unfold getP
  rw [if_neg (by simpa using h), if_pos (by rw [hs]; decide), hs]
theorem cut_first {a b : List Nat} (ha : a.length = 256) {n : Nat} (hn : n ≤ 256) (h : 248 ≤ n) (he : (cutAt a b n).take 8 = (cutAt a b n).drop 248) (hs : a.take 8 = a.drop 248) : cutAt a b n = a := by
  rw [← List.take_append_drop 248 (cutAt a b n), ← he, cut_take ha hn (by omega), cut_take ha hn (by omega), hs, List.take_append_drop]
/-- Torn pages are told. -/
theorem torn_told {s k s' k' : Nat} {l l' : List Nat} (h1 : s ≤ 1099511627776) (h2 : s' ≤ 1099511627776) (hne : s ≠ s') (hl : l.length ≤ 233) (hl' : l'.length ≤ 233) {n : Nat} (hn : n ≤ 256) :
    (getP (cutAt (page s k l) (page s' k' l') n)).1 = 8 ∨ cutAt (page s k l) (page s' k' l') n = page s k l ∨ cutAt (page s k l) (page s' k' l') n = page s' k' l' := by
  have ha := page_length (s := s) (k := k) hl
  have hb := page_length (s := s') (k := k') hl'
  by_cases hc : (cutAt (page s k l) (page s' k' l') n).take 8 = (cutAt (page s k l) (page s' k' l') n).drop 248
  · right
    by_cases h8 : n ≤ 8
    · right
      rw [cut_drop ha hn (by omega), page_drop248 hl'] at hc
      rw [← List.take_append_drop 8 (cutAt (page s k l) (page s' k' l') n), hc, cut_drop ha hn h8, ← page_take8 s' k' l', List.take_append_drop]
    · by_cases h248 : 248 ≤ n
      · left
        exact cut_first ha hn h248 hc (by rw [page_take8, page_drop248 hl])
      · exfalso
        rw [cut_drop ha hn (by omega), page_drop248 hl', cut_take ha hn (by omega), page_take8] at hc
        have := congrArg num8 hc
        rw [num8_w8 _ (by omega), num8_w8 _ (by omega)] at this
        exact hne this
  · exact .inl (spoilt_torn (cut_length ha hb hn) hc)
/-- A blank page torn by a write. -/
theorem fresh_told {s k : Nat} {l : List Nat} (hl : l.length ≤ 233) {n : Nat} (hn : n ≤ 256) :
    (getP (cutAt (page s k l) (List.replicate 256 0) n)).1 = 8 ∨ (getP (cutAt (page s k l) (List.replicate 256 0) n)).1 = 9 ∨ cutAt (page s k l) (List.replicate 256 0) n = page s k l := by
  have ha := page_length (s := s) (k := k) hl
  have hb : (List.replicate 256 0 : List Nat).length = 256 := List.length_replicate ..
  have hc0 := cut_length ha hb hn
  by_cases hc : (cutAt (page s k l) (List.replicate 256 0) n).take 8 = (cutAt (page s k l) (List.replicate 256 0) n).drop 248
  · right
    by_cases h248 : 248 ≤ n
    · exact .inr (cut_first ha hn h248 hc (by rw [page_take8, page_drop248 hl]))
    · left
      have hz : (cutAt (page s k l) (List.replicate 256 0) n).take 8 = List.replicate 8 0 := by
        rw [hc, cut_drop ha hn (by omega), List.drop_replicate]
      have hs : spoiltP (cutAt (page s k l) (List.replicate 256 0) n) = 9 := by
        unfold spoiltP
        rw [if_neg (fun h => h hc), hz, if_pos (by rfl)]
      unfold getP
      rw [if_neg (fun h => h hc0), if_pos (by rw [hs]; decide), hs]
  · exact .inl (spoilt_torn hc0 hc)
end Go.Proofs.YtkbfihnoohhojaaGreatDoor.Lea
