/-
  The places of a hash, and two filters together, of the program; whether keys are short.
-/
import Derived.Test.YtdoeneokblphnaaNums
namespace Go.Proofs.Ytdoeneokblphnaa
open Go.RowKit

set_option maxHeartbeats 1000000 in
theorem places_any (w : World) (n : Nat) (hn : n < 18446744073709551616) :
    Calls Try.prog 26 #[.int .u64 (n : Int)] w fun e w' => e = .returned (.agg #[.int .u64 ((n % 128 : Nat) : Int), .int .u64 ((n / 2097152 % 128 : Nat) : Int), .int .u64 ((n / 4398046511104 % 128 : Nat) : Int)]) ∧ Below w.heap.size w w' := by
  go_enter Try.func26, Try.ntmps26
  go_wp2
  refine bodyPost_ret (v := .agg #[.int .u64 ((n % 128 : Nat) : Int), .int .u64 ((n / 2097152 % 128 : Nat) : Int), .int .u64 ((n / 4398046511104 % 128 : Nat) : Int)]) (by simp [results, Try.results26, go_sem]) rfl ⟨rfl, ?_⟩
  go_grown

set_option maxHeartbeats 1000000 in
theorem both_any (w : World) (f g f' g' : Nat) (hf : f < 18446744073709551616) (hg : g < 18446744073709551616) (hf' : f' < 18446744073709551616) (hg' : g' < 18446744073709551616) :
    Calls Try.prog 18 #[.agg #[.int .u64 (f : Int), .int .u64 (g : Int)], .agg #[.int .u64 (f' : Int), .int .u64 (g' : Int)]] w fun e w' => e = .returned (.agg #[.int .u64 ((f ||| f' : Nat) : Int), .int .u64 ((g ||| g' : Nat) : Int)]) ∧ Below w.heap.size w w' := by
  have o1 := or_u64 f f' hf hf'
  have o2 := or_u64 g g' hg hg'
  go_enter Try.func18, Try.ntmps18
  go_wp2
  refine bodyPost_ret (v := .agg #[.int .u64 ((f ||| f' : Nat) : Int), .int .u64 ((g ||| g' : Nat) : Int)]) (by simp [results, Try.results18, go_sem]) rfl ⟨rfl, ?_⟩
  go_grown

/-- Keys that are no more than are waited for. -/
def shortB (l : List ByteArray) : Bool := decide (l.length ≤ 60) && l.all fun k => decide (k.size ≤ 200)
theorem short_len {l : List ByteArray} (h : shortB l = true) : l.length ≤ 60 := by simp [shortB] at h; exact h.1
theorem short_key {l : List ByteArray} (h : shortB l = true) {k : Nat} {x : ByteArray} (hx : l[k]? = some x) : x.size ≤ 200 := by
  simp [shortB] at h
  exact h.2 x (List.mem_of_getElem? hx)

set_option maxHeartbeats 1000000 in
set_option maxRecDepth 10000 in
theorem short_any {w : World} {b : Nat} {v : Value} {l : List ByteArray} (h : SlAt w b v (S l)) (hk : ∀ k ∈ l, k.size ≤ maxLen) :
    Calls Try.prog 15 #[v] w fun e w' => e = .returned (.bool (shortB l)) ∧ w' = w := by
  obtain ⟨p, cap, hu, hc1, hc2, hel⟩ := h.each
  rw [S_length] at hu hc1
  unfold maxLen at hc2
  subst hu
  have EL : Hid (∀ (k : Nat) (x : ByteArray), l[k]? = some x → ∃ off, p = some ⟨b, off, none⟩ ∧ b < w.heap.size ∧ w.cell? ⟨b, off + k, none⟩ = some (.string x)) := fun k x hx => hel k _ (S_at hx)
  have HK : Hid (∀ k ∈ l, k.size ≤ maxLen) := hk
  clear hel h hk
  go_enter Try.func15, Try.ntmps15
  by_cases h60 : 60 < l.length
  · have e : shortB l = false := by simp [shortB]; omega
    have d6 : 60 < (l.length : Int) := by omega
    clear h60
    go_wp2
    go_ret
    rw [e]
    exact ⟨rfl, rfl⟩
  · have d6 : ¬ 60 < (l.length : Int) := by omega
    go_wp2_with fail
    go_loop [3] (fun i => ∃ k : Nat, k ≤ l.length ∧ i = .int .i64 k ∧ (l.take k).all (fun x => decide (x.size ≤ 200)) = true) (fun i => l.length - (intOf i).toNat)
    case atStart => exact ⟨0, Nat.zero_le _, rfl, by simp⟩
    case round =>
      obtain ⟨k, hk, rfl, hr⟩ := hrel
      have HR : Hid ((l.take k).all (fun x => decide (x.size ≤ 200)) = true) := hr
      clear hr
      by_cases hlt : k < l.length
      · obtain ⟨x, hx⟩ : ∃ x, l[k]? = some x := ⟨l[k], List.getElem?_eq_getElem hlt⟩
        obtain ⟨off, rfl, hcl, hce⟩ := EL.out k x hx
        have hxm := HK.out x (List.mem_of_getElem? hx)
        unfold maxLen at hxm
        have HX : Hid (l[k]? = some x) := hx
        clear hx
        by_cases h2 : 200 < x.size
        · have E : Hid (shortB l = false) := by
            show _ = _
            cases hh : shortB l
            · rfl
            · exact absurd (short_key hh HX.out) (by omega)
          have d2 : 200 < (x.size : Int) := by omega
          clear h2
          go_wp2
          go_ret
          rw [E.out]
          exact ⟨rfl, rfl⟩
        · have d2 : ¬ 200 < (x.size : Int) := by omega
          have H2 : Hid (x.size ≤ 200) := by show _ ≤ _; omega
          clear h2
          go_wp2
          go_round
          case rel => exact ⟨k + 1, by omega, by go_num, by rw [take_snoc HX.out, List.all_append, HR.out]; simp [H2.out]⟩
          case measure => simp [intOf]; omega
      · have E : Hid (shortB l = true) := by
          have e := HR.out
          rw [List.take_of_length_le (by omega : l.length ≤ k)] at e
          show _ = _
          unfold shortB
          rw [e]
          simp
          omega
        go_wp2
        go_ret
        rw [E.out]
        exact ⟨rfl, rfl⟩
end Go.Proofs.Ytdoeneokblphnaa
