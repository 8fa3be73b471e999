/-
  There and back, on lists: what a reader of numbers, bytes and a word, put one behind the other, answers.
-/
import Derived.Test.YtjjafiibbbhnkaaWorks
namespace Go.Proofs.Ytjjafiibbbhnkaa
open Go.RowKit

/-- What is put: numbers, bytes, a word; and what stands behind. -/
def backL (ns ts : List Int) (n : Int) (ms : List Int) : List Int := puts ns ++ dg ts.length (lenN ts.length) ++ ts ++ wd n 8 ++ ms

theorem backL_split (ns ts : List Int) (n : Int) (ms : List Int) : backL ns ts n ms = puts ns ++ (dg ts.length (lenN ts.length) ++ (ts ++ (wd n 8 ++ ms))) := by simp [backL]

theorem backL_len (ns ts : List Int) (n : Int) (ms : List Int) : (backL ns ts n ms).length = (puts ns).length + lenN ts.length + ts.length + 8 + ms.length := by
  simp [backL, dg_length, wd_length]; omega

theorem backL_byt (ns ts : List Int) (n : Int) (ms : List Int) (ht : Byt ts) (hm : Byt ms) : Byt (backL ns ts n ms) :=
  ((((puts_byt ns).append (dg_byt _ _)).append ht).append (wd_byt _ _)).append hm

theorem puts_drop {ns : List Int} {k : Nat} {x : Int} (h : ns[k]? = some x) (R : List Int) : (puts ns ++ R).drop (puts (ns.take k)).length = dg x (lenN x) ++ (puts (ns.drop (k + 1)) ++ R) := by
  obtain ⟨hl, rfl⟩ := List.getElem?_eq_some_iff.1 h
  have e : ns = ns.take k ++ ns[k] :: ns.drop (k + 1) := by
    rw [← List.drop_eq_getElem_cons hl, List.take_append_drop]
  have e2 : puts ns = puts (ns.take k) ++ (dg ns[k] (lenN ns[k]) ++ puts (ns.drop (k + 1))) := by
    conv => lhs; rw [e]
    rw [puts_append]; rfl
  rw [e2, List.append_assoc, List.drop_left, List.append_assoc]

/-- A number that is not above the greatest one is read. -/
theorem back_num {ns ts ms : List Int} {n : Int} {k : Nat} {x : Int} (h : ns[k]? = some x) (h0 : 0 ≤ x) (h1 : x ≤ 4611686018427387904) :
    rdNum (backL ns ts n ms) (puts (ns.take k)).length 0 4611686018427387904 = (x, (puts (ns.take (k + 1))).length, 0) := by
  unfold rdNum
  rw [if_pos rfl, backL_split, puts_drop h, numG_put 4611686018427387904 x h0 h1 (by omega), puts_take h, List.length_append, dg_length]
  simp

theorem rdNum_le (bs : List Int) (a : Nat) (code most : Int) (h0 : 0 ≤ most) (h1 : most ≤ 9223372036854775807) (hby : Byt bs) : (rdNum bs a code most).1 ≤ most := by
  unfold rdNum
  split
  · obtain ⟨n, s, c, hR⟩ : ∃ n s c, numG most 0 0 (bs.drop a) = (n, s, c) := ⟨_, _, _, rfl⟩
    rw [hR]
    split
    · rename_i hc
      simp only at hc
      subst hc
      exact (numG_one most h1 _ (hby.drop a) n s hR).2.2.2.1
    · exact h0
  · exact h0

theorem back_txt {ns ts ms : List Int} {n : Int} (hl : ts.length ≤ 1000) :
    rdTxt (backL ns ts n ms) (puts ns).length 0 1073741824 = (ts, (puts ns).length + lenN ts.length + ts.length, 0) := by
  have e : rdNum (backL ns ts n ms) (puts ns).length 0 1073741824 = ((ts.length : Int), (puts ns).length + lenN ts.length, 0) := by
    unfold rdNum
    rw [if_pos rfl, backL_split, List.drop_left, numG_put 1073741824 ts.length (by omega) (by omega) (by omega)]
    simp
  have l1 : (puts ns ++ dg ts.length (lenN ts.length)).length = (puts ns).length + lenN ts.length := by simp [dg_length]
  have e2 : backL ns ts n ms = (puts ns ++ dg ts.length (lenN ts.length) ++ ts) ++ (wd n 8 ++ ms) := by simp [backL]
  have l2 : (puts ns ++ dg ts.length (lenN ts.length) ++ ts).length = (puts ns).length + lenN ts.length + ts.length := by rw [List.length_append, l1]
  have e3 : ((backL ns ts n ms).take ((puts ns).length + lenN ts.length + ts.length)).drop ((puts ns).length + lenN ts.length) = ts := by
    rw [e2, ← l2, List.take_left, ← l1, List.drop_left]
  unfold rdTxt
  rw [e]
  dsimp only
  rw [if_pos rfl, if_neg (by rw [backL_len]; omega), Int.toNat_natCast, e3]

theorem back_word {ns ts ms : List Int} {n : Int} (h0 : 0 ≤ n) (h1 : n ≤ 18446744073709551615) :
    rdWord (backL ns ts n ms) ((puts ns).length + lenN ts.length + ts.length) 0 = (n, (puts ns).length + lenN ts.length + ts.length + 8, 0) := by
  unfold rdWord
  rw [if_pos rfl, if_neg (by rw [backL_len]; omega)]
  have l2 : (puts ns ++ dg ts.length (lenN ts.length) ++ ts).length = (puts ns).length + lenN ts.length + ts.length := by simp [dg_length]; omega
  have e2 : backL ns ts n ms = (puts ns ++ dg ts.length (lenN ts.length) ++ ts) ++ (wd n 8 ++ ms) := by simp [backL]
  have e3 : ((wd n 8 ++ ms).take 8) = wd n 8 := by
    have := List.take_left (l₁ := wd n 8) (l₂ := ms)
    rwa [wd_length] at this
  rw [e2, ← l2, List.drop_left, e3, wfold_word n h0 h1]
end Go.Proofs.Ytjjafiibbbhnkaa
