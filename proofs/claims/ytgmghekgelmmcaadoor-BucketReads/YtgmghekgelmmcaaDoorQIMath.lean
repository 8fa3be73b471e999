/-
  Entries as plain data: what is wrong with one, its bytes, how one, and how all, are read.
-/
import Derived.Test.YtgmghekgelmmcaaDoorQIRdBytes
namespace Go.Proofs.YtgmghekgelmmcaaDoor.Ite

/-- A string's bytes as numbers. -/
def kb (k : ByteArray) : List Int := k.data.toList.map fun b => (b.toNat : Int)
theorem kb_length (k : ByteArray) : (kb k).length = k.size := by
  unfold kb
  rw [List.length_map, Array.length_toList]
  rfl
theorem kb_byt (k : ByteArray) : Byt (kb k) := by
  intro x hx
  obtain ⟨b, _, rfl⟩ := List.mem_map.1 hx
  have := b.toNat_lt
  omega
/-- Bytes as a string. -/
def strB (b : List Int) : ByteArray := b.foldl (fun r n => r.push (UInt8.ofNat n.toNat)) ByteArray.empty
theorem strB_data (b : List Int) (r : ByteArray) : (b.foldl (fun r n => r.push (UInt8.ofNat n.toNat)) r).data.toList = r.data.toList ++ b.map fun n => UInt8.ofNat n.toNat := by
  induction b generalizing r with
  | nil => simp
  | cons x s ih =>
    show (List.foldl _ (r.push (UInt8.ofNat x.toNat)) s).data.toList = _
    rw [ih]
    simp [ByteArray.push]
theorem strB_toList (b : List Int) : (strB b).data.toList = b.map fun n => UInt8.ofNat n.toNat := by
  unfold strB
  rw [strB_data]
  simp
theorem strB_kb (k : ByteArray) : strB (kb k) = k := by
  have e : (strB (kb k)).data.toList = k.data.toList := by
    rw [strB_toList, kb, List.map_map]
    conv => rhs; rw [← List.map_id k.data.toList]
    apply List.map_congr_left
    intro x _
    simp
  exact ByteArray.ext (Array.toList_inj.1 e)
theorem kb_strB {b : List Int} (h : Byt b) : kb (strB b) = b := by
  unfold kb
  rw [strB_toList, List.map_map]
  conv => rhs; rw [← List.map_id b]
  apply List.map_congr_left
  intro x hx
  have := h x hx
  simp
  omega
theorem strB_size (b : List Int) : (strB b).size = b.length := by
  have := congrArg List.length (strB_toList b)
  rw [List.length_map, Array.length_toList] at this
  exact this

/-- An entry. -/
structure Ent where
  key : ByteArray
  ver : Int
  asof : Int
  ends : Int
  val : List Int

/-- No entry. -/
def zeroE : Ent := ⟨ByteArray.empty, 0, 0, 0, []⟩

/-- What is wrong first with numbers. -/
def numsC (v a e : Int) : Int := if v < 1 ∨ 1099511627776 < v ∨ a < v ∨ 1099511627776 < a ∨ e < 0 ∨ 1099511627776 < e then 2 else 0
/-- What is wrong with an entry, by its parts. -/
def chk (k : ByteArray) (v a e : Int) (n : Nat) : Int := if keyC k ≠ 0 then keyC k else if numsC v a e ≠ 0 then numsC v a e else if 4096 < n then 3 else 0
def checkE (x : Ent) : Int := chk x.key x.ver x.asof x.ends x.val.length

theorem chk_ok {k : ByteArray} {v a e : Int} {n : Nat} (h : chk k v a e n = 0) : k.size ≤ 40 ∧ 1 ≤ v ∧ v ≤ 1099511627776 ∧ v ≤ a ∧ a ≤ 1099511627776 ∧ 0 ≤ e ∧ e ≤ 1099511627776 ∧ n ≤ 4096 := by
  unfold chk at h
  by_cases h1 : keyC k = 0
  · rw [if_neg (by simpa using h1)] at h
    by_cases h2 : numsC v a e = 0
    · rw [if_neg (by simpa using h2)] at h
      have h3 : ¬ 4096 < n := by intro h3; rw [if_pos h3] at h; cases h
      have k1 : k.size ≤ 40 := by
        unfold keyC at h1
        split at h1
        · cases h1
        · split at h1
          · cases h1
          · omega
      unfold numsC at h2
      split at h2
      · cases h2
      · omega
    · rw [if_pos (by simpa using h2)] at h
      exact absurd h h2
  · rw [if_pos (by simpa using h1)] at h
    exact absurd h h1

/-- Bytes with how many they are ahead. -/
def textB (t : List Int) : List Int := dg t.length (lenN t.length) ++ t
/-- An entry's bytes. -/
def rowB (x : Ent) : List Int := textB (kb x.key) ++ puts [x.ver, x.asof, x.ends] ++ textB x.val
theorem textB_length (t : List Int) : (textB t).length = lenN t.length + t.length := by simp [textB, dg_length]
theorem textB_byt {t : List Int} (h : Byt t) : Byt (textB t) := (dg_byt _ _).append h
theorem rowB_byt {x : Ent} (h : Byt x.val) : Byt (rowB x) := ((textB_byt (kb_byt _)).append (puts_byt _)).append (textB_byt h)
/-- How many bytes an entry takes. -/
def sizeP (n : Nat) (v a e : Int) (m : Nat) : Nat := lenN n + n + (lenN v + lenN a + lenN e) + (lenN m + m)
def sizeE (x : Ent) : Nat := sizeP x.key.size x.ver x.asof x.ends x.val.length
theorem rowB_length (x : Ent) : (rowB x).length = sizeE x := by
  simp [rowB, textB_length, puts, dg_length, kb_length, sizeE, sizeP]; omega
theorem sizeE_le {x : Ent} (h : checkE x = 0) : sizeE x ≤ 40 + 45 + x.val.length := by
  obtain ⟨h1, _⟩ := chk_ok h
  have a1 := lenN_bd x.key.size
  have a2 := lenN_bd x.ver
  have a3 := lenN_bd x.asof
  have a4 := lenN_bd x.ends
  have a5 := lenN_bd x.val.length
  unfold sizeE sizeP
  omega

/-- An entry that is read. -/
def frm (bs : List Int) (a : Nat) (code : Int) : Ent × Nat × Int :=
  let t1 := rdTxt bs a code 40
  let n1 := rdNum bs t1.2.1 t1.2.2 1099511627776
  let n2 := rdNum bs n1.2.1 n1.2.2 1099511627776
  let n3 := rdNum bs n2.2.1 n2.2.2 1099511627776
  let t2 := rdTxt bs n3.2.1 n3.2.2 4096
  if (if t2.2.2 = 0 then chk (strB t1.1) n1.1 n2.1 n3.1 t2.1.length else t2.2.2) = 0 then (⟨strB t1.1, n1.1, n2.1, n3.1, t2.1⟩, t2.2.1, 0)
  else (zeroE, t2.2.1, if t2.2.2 = 0 then chk (strB t1.1) n1.1 n2.1 n3.1 t2.1.length else t2.2.2)

/-- The same by letters. -/
theorem frm_eq {bs : List Int} {a : Nat} {code : Int} {k : List Int} {a1 : Nat} {c1 : Int} {v : Int} {a2 : Nat} {c2 : Int} {s : Int} {a3 : Nat} {c3 : Int} {e : Int} {a4 : Nat} {c4 : Int} {t : List Int} {a5 : Nat} {c5 : Int}
    (h1 : rdTxt bs a code 40 = (k, a1, c1)) (h2 : rdNum bs a1 c1 1099511627776 = (v, a2, c2)) (h3 : rdNum bs a2 c2 1099511627776 = (s, a3, c3)) (h4 : rdNum bs a3 c3 1099511627776 = (e, a4, c4)) (h5 : rdTxt bs a4 c4 4096 = (t, a5, c5)) :
    frm bs a code = if (if c5 = 0 then chk (strB k) v s e t.length else c5) = 0 then (⟨strB k, v, s, e, t⟩, a5, 0) else (zeroE, a5, if c5 = 0 then chk (strB k) v s e t.length else c5) := by
  simp only [frm, h1, h2, h3, h4, h5]

theorem rdNum_err (bs : List Int) (a : Nat) (code most : Int) (h : code ≠ 0) : rdNum bs a code most = (0, a, code) := by
  unfold rdNum; rw [if_neg h]
theorem rdTxt_err (bs : List Int) (a : Nat) (code most : Int) (h : code ≠ 0) : (rdTxt bs a code most).2.2 ≠ 0 := by
  unfold rdTxt
  rw [rdNum_err bs a code most h, if_neg h]
  exact h
theorem rdNum_code (bs : List Int) (a : Nat) (code most : Int) (h : (rdNum bs a code most).2.2 = 0) : code = 0 := by
  by_cases hc : code = 0
  · exact hc
  · rw [rdNum_err bs a code most hc] at h; exact h
theorem rdTxt_code (bs : List Int) (a : Nat) (code most : Int) (h : (rdTxt bs a code most).2.2 = 0) : code = 0 := by
  by_cases hc : code = 0
  · exact hc
  · exact absurd h (rdTxt_err bs a code most hc)

/-- What was put is read. -/
theorem rdNum_put (pre rest : List Int) (n most : Int) (h0 : 0 ≤ n) (hm : n ≤ most) (h1 : most ≤ 9223372036854775807) :
    rdNum (pre ++ (dg n (lenN n) ++ rest)) pre.length 0 most = (n, pre.length + lenN n, 0) := by
  unfold rdNum
  rw [if_pos rfl, List.drop_left, numG_put most n h0 hm h1]
  simp
theorem rdTxt_put (pre t rest : List Int) (most : Int) (hm : (t.length : Int) ≤ most) (h1 : most ≤ 9223372036854775807) :
    rdTxt (pre ++ (textB t ++ rest)) pre.length 0 most = (t, pre.length + (textB t).length, 0) := by
  have e : rdNum (pre ++ (textB t ++ rest)) pre.length 0 most = ((t.length : Int), pre.length + lenN t.length, 0) := by
    have := rdNum_put pre (t ++ rest) (t.length : Int) most (by omega) hm h1
    simpa [textB] using this
  have hl : (pre ++ (textB t ++ rest)).length = pre.length + lenN t.length + t.length + rest.length := by simp [textB_length]; omega
  have hs : pre ++ (textB t ++ rest) = (pre ++ dg t.length (lenN t.length)) ++ (t ++ rest) := by simp [textB]
  have hp : (pre ++ dg t.length (lenN t.length)).length = pre.length + lenN t.length := by simp [dg_length]
  unfold rdTxt
  rw [e]
  simp only
  rw [if_pos trivial, if_neg (by rw [hl]; omega)]
  have ht : ((t.length : Int)).toNat = t.length := by omega
  rw [ht, hs, ← hp, List.take_append]
  have q : (pre ++ dg t.length (lenN t.length)).length + t.length - (pre ++ dg t.length (lenN t.length)).length = t.length := by omega
  rw [q, List.take_of_length_le (by omega), List.drop_left, List.take_left, hp, textB_length]
  rw [Nat.add_assoc]

theorem frm_put (pre rest : List Int) (x : Ent) (h : checkE x = 0) : frm (pre ++ (rowB x ++ rest)) pre.length 0 = (x, pre.length + (rowB x).length, 0) := by
  obtain ⟨k1, k2, k3, k4, k5, k6, k7, k8⟩ := chk_ok h
  have e0 : pre ++ (rowB x ++ rest) = pre ++ (textB (kb x.key) ++ (puts [x.ver, x.asof, x.ends] ++ (textB x.val ++ rest))) := by simp [rowB]
  have h1 := rdTxt_put pre (kb x.key) (puts [x.ver, x.asof, x.ends] ++ (textB x.val ++ rest)) 40 (by rw [kb_length]; omega) (by omega)
  rw [← e0] at h1
  have e1 : pre ++ (rowB x ++ rest) = (pre ++ textB (kb x.key)) ++ (dg x.ver (lenN x.ver) ++ (puts [x.asof, x.ends] ++ (textB x.val ++ rest))) := by simp [rowB, puts]
  have h2 := rdNum_put (pre ++ textB (kb x.key)) (puts [x.asof, x.ends] ++ (textB x.val ++ rest)) x.ver 1099511627776 (by omega) (by omega) (by omega)
  rw [← e1, List.length_append] at h2
  have e2 : pre ++ (rowB x ++ rest) = (pre ++ textB (kb x.key) ++ dg x.ver (lenN x.ver)) ++ (dg x.asof (lenN x.asof) ++ (puts [x.ends] ++ (textB x.val ++ rest))) := by simp [rowB, puts]
  have h3 := rdNum_put (pre ++ textB (kb x.key) ++ dg x.ver (lenN x.ver)) (puts [x.ends] ++ (textB x.val ++ rest)) x.asof 1099511627776 (by omega) (by omega) (by omega)
  rw [← e2, List.length_append, List.length_append, dg_length] at h3
  have e3 : pre ++ (rowB x ++ rest) = (pre ++ textB (kb x.key) ++ dg x.ver (lenN x.ver) ++ dg x.asof (lenN x.asof)) ++ (dg x.ends (lenN x.ends) ++ (textB x.val ++ rest)) := by simp [rowB, puts]
  have h4 := rdNum_put (pre ++ textB (kb x.key) ++ dg x.ver (lenN x.ver) ++ dg x.asof (lenN x.asof)) (textB x.val ++ rest) x.ends 1099511627776 (by omega) (by omega) (by omega)
  rw [← e3, List.length_append, List.length_append, List.length_append, dg_length, dg_length] at h4
  have e4 : pre ++ (rowB x ++ rest) = (pre ++ textB (kb x.key) ++ dg x.ver (lenN x.ver) ++ dg x.asof (lenN x.asof) ++ dg x.ends (lenN x.ends)) ++ (textB x.val ++ rest) := by simp [rowB, puts]
  have h5 := rdTxt_put (pre ++ textB (kb x.key) ++ dg x.ver (lenN x.ver) ++ dg x.asof (lenN x.asof) ++ dg x.ends (lenN x.ends)) x.val rest 4096 (by omega) (by omega)
  rw [← e4, List.length_append, List.length_append, List.length_append, List.length_append, dg_length, dg_length, dg_length] at h5
  rw [frm_eq h1 h2 h3 h4 h5, strB_kb]
  have hc : chk x.key x.ver x.asof x.ends x.val.length = 0 := h
  rw [hc]
  simp [rowB_length, textB_length, kb_length, sizeE, sizeP]
  omega

/-- What is read was put. -/
theorem rdNum_inv {bs : List Int} {a : Nat} {n most : Int} {a' : Nat} (h1 : most ≤ 9223372036854775807) (hby : Byt bs) (ha : a ≤ bs.length) (h : rdNum bs a 0 most = (n, a', 0)) :
    bs.drop a = dg n (lenN n) ++ bs.drop a' ∧ a < a' ∧ a' ≤ bs.length ∧ 0 ≤ n ∧ n ≤ most := by
  unfold rdNum at h
  rw [if_pos rfl] at h
  obtain ⟨m, s, c, hR⟩ : ∃ m s c, numG most 0 0 (bs.drop a) = (m, s, c) := ⟨_, _, _, rfl⟩
  rw [hR] at h
  by_cases hc : c = 0
  · subst hc
    simp at h
    obtain ⟨rfl, rfl⟩ := h
    obtain ⟨b1, b2, b3, b4, b5⟩ := numG_one most h1 (bs.drop a) (hby.drop a) m s hR
    rw [List.length_drop] at b2
    refine ⟨?_, by omega, by omega, b3, b4⟩
    rw [b5, ← List.drop_drop, List.take_append_drop]
  · simp [hc] at h
theorem rdTxt_inv {bs : List Int} {a : Nat} {t : List Int} {most : Int} {a' : Nat} (h1 : most ≤ 9223372036854775807) (hby : Byt bs) (ha : a ≤ bs.length) (h : rdTxt bs a 0 most = (t, a', 0)) :
    bs.drop a = textB t ++ bs.drop a' ∧ a < a' ∧ a' ≤ bs.length ∧ Byt t ∧ (t.length : Int) ≤ most := by
  obtain ⟨n, a1, c, hR⟩ : ∃ n a1 c, rdNum bs a 0 most = (n, a1, c) := ⟨_, _, _, rfl⟩
  unfold rdTxt at h
  rw [hR] at h
  by_cases hc : c = 0
  · subst hc
    obtain ⟨b1, b2, b3, b4, b5⟩ := rdNum_inv h1 hby ha hR
    simp only at h
    rw [if_pos trivial] at h
    by_cases hs : (bs.length : Int) - a1 < n
    · rw [if_pos hs] at h; simp at h
    · rw [if_neg hs] at h
      simp only [Prod.mk.injEq, and_true] at h
      obtain ⟨rfl, rfl⟩ := h
      have hl : ((bs.take (a1 + n.toNat)).drop a1).length = n.toNat := by rw [List.length_drop, List.length_take]; omega
      have hn : ((n.toNat : Nat) : Int) = n := by omega
      refine ⟨?_, by omega, by omega, (hby.take _).drop _, by rw [hl]; omega⟩
      unfold textB
      rw [hl, hn, b1, List.append_assoc]
      congr 1
      rw [← List.drop_drop, List.drop_take, Nat.add_sub_cancel_left, List.take_append_drop]
  · simp [hc] at h
theorem frm_inv {bs : List Int} {a : Nat} {x : Ent} {a' : Nat} (hby : Byt bs) (ha : a ≤ bs.length) (h : frm bs a 0 = (x, a', 0)) :
    bs.drop a = rowB x ++ bs.drop a' ∧ a < a' ∧ a' ≤ bs.length ∧ Byt x.val ∧ checkE x = 0 := by
  obtain ⟨k, a1, c1, h1⟩ : ∃ n s c, rdTxt bs a 0 40 = (n, s, c) := ⟨_, _, _, rfl⟩
  obtain ⟨v, a2, c2, h2⟩ : ∃ n s c, rdNum bs a1 c1 1099511627776 = (n, s, c) := ⟨_, _, _, rfl⟩
  obtain ⟨s, a3, c3, h3⟩ : ∃ n s c, rdNum bs a2 c2 1099511627776 = (n, s, c) := ⟨_, _, _, rfl⟩
  obtain ⟨e, a4, c4, h4⟩ : ∃ n s c, rdNum bs a3 c3 1099511627776 = (n, s, c) := ⟨_, _, _, rfl⟩
  obtain ⟨t, a5, c5, h5⟩ : ∃ n s c, rdTxt bs a4 c4 4096 = (n, s, c) := ⟨_, _, _, rfl⟩
  rw [frm_eq h1 h2 h3 h4 h5] at h
  by_cases h6 : (if c5 = 0 then chk (strB k) v s e t.length else c5) = 0
  · rw [if_pos h6] at h
    simp only [Prod.mk.injEq, and_true] at h
    obtain ⟨rfl, rfl⟩ := h
    by_cases z5 : c5 = 0
    · rw [if_pos z5] at h6
      subst z5
      have z4 : c4 = 0 := rdTxt_code bs a4 c4 4096 (by rw [h5])
      subst z4
      have z3 : c3 = 0 := rdNum_code bs a3 c3 1099511627776 (by rw [h4])
      subst z3
      have z2 : c2 = 0 := rdNum_code bs a2 c2 1099511627776 (by rw [h3])
      subst z2
      have z1 : c1 = 0 := rdNum_code bs a1 c1 1099511627776 (by rw [h2])
      subst z1
      obtain ⟨p1, q1, r1, s1, _⟩ := rdTxt_inv (by omega) hby ha h1
      obtain ⟨p2, q2, r2, _⟩ := rdNum_inv (by omega) hby r1 h2
      obtain ⟨p3, q3, r3, _⟩ := rdNum_inv (by omega) hby r2 h3
      obtain ⟨p4, q4, r4, _⟩ := rdNum_inv (by omega) hby r3 h4
      obtain ⟨p5, q5, r5, s5, _⟩ := rdTxt_inv (by omega) hby r4 h5
      refine ⟨?_, by omega, r5, s5, h6⟩
      rw [p1, p2, p3, p4, p5]
      simp [rowB, puts, kb_strB s1]
    · rw [if_neg z5] at h6
      exact absurd h6 z5
  · rw [if_neg h6] at h
    simp only [Prod.mk.injEq] at h
    exact absurd h.2.2 h6

theorem rdNum_at_le (bs : List Int) (a : Nat) (code most : Int) (h1 : most ≤ 9223372036854775807) (hby : Byt bs) (ha : a ≤ bs.length) : (rdNum bs a code most).2.1 ≤ bs.length := by
  by_cases h : (rdNum bs a code most).2.2 = 0
  · exact (rdNum_ok bs a code most h1 hby ha h).2.2.2
  · rw [rdNum_at bs a code most h]; exact ha

/-- Entries that are read from a place on; with fuel. -/
def readF : Nat → List Int → Nat → List Ent × Int
  | 0, _, _ => ([], 0)
  | k + 1, bs, a => if bs.length ≤ a then ([], 0) else if (frm bs a 0).2.2 ≠ 0 then ([], (frm bs a 0).2.2) else if (readF k bs (frm bs a 0).2.1).2 ≠ 0 then ([], (readF k bs (frm bs a 0).2.1).2) else ((frm bs a 0).1 :: (readF k bs (frm bs a 0).2.1).1, 0)
/-- Entries that bytes are, or what is wrong first. -/
def readE (bs : List Int) : List Ent × Int := readF (bs.length + 1) bs 0

/-- All entries, one behind the other. -/
def allB : List Ent → List Int
  | [] => []
  | x :: r => rowB x ++ allB r
theorem allB_append (a b : List Ent) : allB (a ++ b) = allB a ++ allB b := by
  induction a with
  | nil => rfl
  | cons x r ih => simp [allB, ih]
theorem allB_byt {l : List Ent} (h : ∀ x ∈ l, Byt x.val) : Byt (allB l) := by
  induction l with
  | nil => intro x hx; cases hx
  | cons x r ih => exact (rowB_byt (h x (List.mem_cons_self ..))).append (ih fun y hy => h y (List.mem_cons_of_mem _ hy))

theorem rowB_pos (x : Ent) : 1 ≤ (rowB x).length := by
  rw [rowB_length]
  have := lenN_bd x.ver
  unfold sizeE sizeP
  omega
theorem readF_put (l : List Ent) (hl : ∀ x ∈ l, checkE x = 0) : ∀ (pre : List Int) (k : Nat), (allB l).length < k → readF k (pre ++ allB l) pre.length = (l, 0) := by
  induction l with
  | nil =>
    intro pre k hk
    obtain ⟨j, rfl⟩ : ∃ j, k = j + 1 := ⟨k - 1, by simp [allB] at hk; omega⟩
    unfold readF
    rw [if_pos (by simp [allB])]
  | cons x r ih =>
    intro pre k hk
    have hp := rowB_pos x
    simp only [allB, List.length_append] at hk
    obtain ⟨j, rfl⟩ : ∃ j, k = j + 1 := ⟨k - 1, by omega⟩
    have hf := frm_put pre (allB r) x (hl x (List.mem_cons_self ..))
    have hr := ih (fun y hy => hl y (List.mem_cons_of_mem _ hy)) (pre ++ rowB x) j (by omega)
    rw [List.append_assoc, List.length_append] at hr
    show readF (j + 1) (pre ++ (rowB x ++ allB r)) pre.length = _
    unfold readF
    rw [if_neg (by simp; omega), hf]
    simp only
    rw [if_neg (by simp), hr]
    simp
theorem readE_put (l : List Ent) (hl : ∀ x ∈ l, checkE x = 0) : readE (allB l) = (l, 0) := readF_put l hl [] _ (by simp)
theorem readF_inv (bs : List Int) (hby : Byt bs) : ∀ (k a : Nat) (l : List Ent), a ≤ bs.length → bs.length - a < k → readF k bs a = (l, 0) → bs.drop a = allB l ∧ (∀ x ∈ l, Byt x.val ∧ checkE x = 0) ∧ l.length ≤ bs.length - a := by
  intro k
  induction k with
  | zero => intro a l _ h; omega
  | succ k ih =>
    intro a l ha hk h
    unfold readF at h
    by_cases h0 : bs.length ≤ a
    · rw [if_pos h0] at h
      simp at h
      subst h
      exact ⟨by rw [List.drop_of_length_le h0]; rfl, by simp, by simp⟩
    · rw [if_neg h0] at h
      obtain ⟨x, a', c, hf⟩ : ∃ x a' c, frm bs a 0 = (x, a', c) := ⟨_, _, _, rfl⟩
      rw [hf] at h
      simp only at h
      by_cases hc : c = 0
      · rw [if_neg (by simpa using hc)] at h
        subst hc
        obtain ⟨b1, b2, b3, b4, b5⟩ := frm_inv hby ha hf
        obtain ⟨r, c2, hr⟩ : ∃ r c2, readF k bs a' = (r, c2) := ⟨_, _, rfl⟩
        rw [hr] at h
        by_cases hc2 : c2 = 0
        · simp only [hc2] at h
          simp at h
          subst h hc2
          obtain ⟨g1, g2, g3⟩ := ih a' r b3 (by omega) hr
          refine ⟨by rw [b1, g1]; rfl, ?_, by simp; omega⟩
          intro y hy
          rcases List.mem_cons.1 hy with rfl | hy
          · exact ⟨b4, b5⟩
          · exact g2 y hy
        · simp [hc2] at h
      · rw [if_pos (by simpa using hc)] at h
        simp at h
        exact absurd h.2 hc
theorem readE_inv {bs : List Int} {l : List Ent} (hby : Byt bs) (h : readE bs = (l, 0)) : bs = allB l ∧ (∀ x ∈ l, Byt x.val ∧ checkE x = 0) ∧ l.length ≤ bs.length := by
  have := readF_inv bs hby (bs.length + 1) 0 l (Nat.zero_le _) (by omega) h
  simpa using this
end Go.Proofs.YtgmghekgelmmcaaDoor.Ite
