/-
  New, Read, Fuse, Down, Loose, Done, Pages over a device.
-/
import Derived.Test.YtkbfihnoohhojaaDoorQFDv
import Derived.Test.YtkbfihnoohhojaaDoorQFOver
namespace Go.Proofs.YtkbfihnoohhojaaDoor.Fla
open Go.RowKit

/-- A new device. -/
def newP (pages : Int) : Dev := ⟨pages, fun _ => zeros, [], -1, false, 0⟩
theorem newP_ok {pages : Int} (h0 : 1 ≤ pages) (h1 : pages ≤ 4096) : DevOk (newP pages) := ⟨h0, h1, fun _ => zeros_length, fun _ => zeros_byt, fun c hc => by simp [newP] at hc⟩

set_option maxHeartbeats 1000000 in
theorem new_bad (pages : Int) (w : World) (h : pages < 1 ∨ 4096 < pages) :
    Calls Tryd.prog 7 #[.int .i64 pages] w fun e w' => ∃ v, e = .returned (.tuple #[.pointer none, v]) ∧ Fault w' v 2 ∧ Below w.heap.size w w' := by
  by_cases h0 : pages < 1
  · have e0 : decide (pages < 1) = true := by simpa using h0
    go_enter Tryd.func7, Tryd.ntmps7
    go_wp2_with (go_at_call 21; refine (new_code _ _ _ _).mono ?_; rintro e w3 ⟨v, rfl, hv, hb⟩)
    go_ret2
    exact ⟨v, rfl, hv, hb⟩
  · have e0 : decide (pages < 1) = false := by simpa using h0
    have h1 : 4096 < pages := by omega
    have e1 : decide (4096 < pages) = true := by simpa using h1
    go_enter Tryd.func7, Tryd.ntmps7
    go_wp2_with (go_at_call 21; refine (new_code _ _ _ _).mono ?_; rintro e w3 ⟨v, rfl, hv, hb⟩)
    go_ret2
    exact ⟨v, rfl, hv, hb⟩
set_option maxHeartbeats 1000000 in
theorem new_good (pages : Int) (w : World) {B : Nat} (hB : B ≤ w.heap.size) (h0 : 1 ≤ pages) (h1 : pages ≤ 4096) :
    Calls Tryd.prog 7 #[.int .i64 pages] w fun e w' => ∃ g, e = .returned (.tuple #[.pointer (some ⟨g, 0, none⟩), .nilIface]) ∧ Fl w' B g 0 (newP pages) ∧ Below w.heap.size w w' := by
  have e0 : decide (pages < 1) = false := by simp; omega
  have e1 : decide (4096 < pages) = false := by simp; omega
  have hmm := @run_makeMap Tryd.prog
  go_enter Tryd.func7, Tryd.ntmps7
  go_wp2
  go_ret2
  refine ⟨_, rfl, ⟨newP_ok h0 h1, ⟨by show (0 : Int) ≤ 0; omega, by show (0 : Int) ≤ 0; omega, by show _ ≤ (-1 : Int); omega, by show (-1 : Int) ≤ _; omega⟩, w.heap.size, .slice none 0 0, 0, ?_, ?_, World.ownsRow_nil _ _ _ _, by omega, hB, by simp [newP]⟩, by go_grown⟩
  · have := heap_alloc_last (w.alloc (Obj.map #[] 0)) (.cells #[.int .i64 pages, .map (some w.heap.size), .slice none 0 0, .int .i64 (-1), .bool false, .int .i64 0] 68)
    show _ = some (Obj.cells #[.int .i64 pages, .map (some w.heap.size), .slice none 0 0, .int .i64 (-1), .bool false, .int .i64 0] 68 (0, 0))
    simpa using this
  · exact (MapAt.made w).below (by go_grown)

theorem own_pos {w : World} {B : Nat} {e : TypeId} {size : Nat} {p : Option Addr} {n cap : Nat} {xs : List Value} (h : w.ownsRow B e size (.slice p n cap) n xs) (hn : 0 < n) : ∃ gr, p = some ⟨gr, 0, none⟩ ∧ n ≤ cap ∧ cap ≤ maxLen ∧ gr < w.heap.size ∧ B ≤ gr ∧ ∀ j u, xs[j]? = some u → w.cell? ⟨gr, j, none⟩ = some u := by
  obtain ⟨k, rfl⟩ : ∃ k, n = k + 1 := ⟨n - 1, by omega⟩
  obtain ⟨g, cap', h1, h2, h3, h4, h5, h6⟩ := own_at h
  cases h1
  exact ⟨g, rfl, h4, h5, h3, h2, h6⟩
theorem chg_range {w : World} {gr : Nat} {cs : List Chg} (hl : ∀ c ∈ cs, c.p.length = 256) (h : ∀ j u, (chgsL cs)[j]? = some u → w.cell? ⟨gr, j, none⟩ = some u) {j : Nat} {c : Chg} (hj : cs[j]? = some c) :
    w.cell? ⟨gr, j * 258, none⟩ = some (.int .i64 c.at_) ∧ w.rangeAt gr (j * 258 + 2) (U c.p) ∧ w.rangeAt gr (j * 258) (chgL c) := by
  refine ⟨h _ _ (by simpa using chgsL_at hl hj (j := 0) rfl), fun k u hk => h _ _ ?_, fun k u hk => h _ _ (chgsL_at hl hj hk)⟩
  rw [Nat.add_assoc]
  exact chgsL_at hl hj (by rw [Nat.add_comm]; simpa [chgL] using hk)
theorem lastP_snoc (l : List Chg) (c : Chg) (at_ : Int) (p : List Nat) : lastP (l ++ [c]) at_ p = if c.at_ = at_ then c.p else lastP l at_ p := by simp [lastP]
theorem lastP_take {l : List Chg} {k : Nat} {c : Chg} (h : l[k]? = some c) (at_ : Int) (p : List Nat) : lastP (l.take (k + 1)) at_ p = if c.at_ = at_ then c.p else lastP (l.take k) at_ p := by
  obtain ⟨h1, h2⟩ := List.getElem?_eq_some_iff.1 h
  rw [List.take_succ_eq_append_getElem h1, lastP_snoc, h2]
theorem lastP_length {l : List Chg} {at_ : Int} {p : List Nat} (hl : ∀ c ∈ l, c.p.length = 256) (hp : p.length = 256) : (lastP l at_ p).length = 256 := by
  unfold lastP
  induction l generalizing p with
  | nil => exact hp
  | cons c r ih =>
    simp only [List.foldl_cons]
    refine ih (fun x hx => hl x (by simp [hx])) ?_
    split
    · exact hl c (by simp)
    · exact hp

set_option maxHeartbeats 1000000 in
set_option maxRecDepth 10000 in
theorem last_any {w : World} {B g N : Nat} {d : Dev} (hF : Fl w B g N d) (hN : N ≤ 900) (at_ : Int) (h0 : 0 ≤ at_) (h1 : at_ < 4096) :
    Calls Tryd.prog 51 #[.pointer (some ⟨g, 0, none⟩), .int .i64 at_] w fun e w' => e = .returned (.agg (pgV (lookP d at_))) ∧ Below w.heap.size w w' := by
  have hz := Tryd.zero83
  have hglt := hF.lt.2
  obtain ⟨hok, _, m, wv, n, h6, h7, h8, h9, h10, h11⟩ := hF
  obtain ⟨⟨c0, c1, c2, c3, c4, c5⟩, hf⟩ := six h6
  obtain ⟨p, cap, rfl⟩ := own_len h8
  have HM : Hid (MapAt (w.alloc (.cells (pgV zeros) 83)) m n d.pg) := h7.below (by go_grown)
  have HO : Hid (w.ownsRow B 85 258 (.slice p d.waits.length cap) d.waits.length (chgsL d.waits)) := h8
  have HK : Hid (DevOk d) := hok
  have hlen : d.waits.length ≤ 900 := by omega
  clear h6 h7 h8 hok
  go_enter Tryd.func51, Tryd.ntmps51
  go_wp2_with fail
  go_loop [5] (fun i => ∃ (k : Nat) (z : Int), z + 1 = k ∧ k ≤ d.waits.length ∧ i = .int .i64 z ∧ Hid (∀ q, lastP d.waits at_ q = lastP (d.waits.take k) at_ q)) (fun i => (intOf i + 1).toNat)
  case atStart => exact ⟨d.waits.length, _, by omega, Nat.le_refl _, rfl, fun q => by rw [List.take_length]⟩
  case round =>
    obtain ⟨k, z, hk, hkl, rfl, HQ⟩ := hrel
    cases k with
    | zero =>
      obtain rfl : z = -1 := by omega
      go_wp2_with (first | (at_lookup; refine wl_look rfl (.tmp 37) (.tmp 38) rfl m n d.pg HM.out at_ (by omega) (by omega) rfl rfl ?_) | (refine st79 w rfl (.tmp 4) (.tmp 39) rfl _ rfl rfl (d.pg at_) zeros rfl rfl zeros_length (HK.out.len _) ?_))
      refine bodyPost_ret (v := .agg (pgV (lookP d at_))) ?_ rfl ⟨rfl, by go_grown⟩
      have e : lookP d at_ = d.pg at_ := HQ.out _
      rw [e]
      exact resultsB79 Tryd.results51 _ _ w.heap.size rfl (d.pg at_) (HK.out.len _) 83 (0, 0) (heap_alloc_last _ _)
    | succ j =>
      obtain rfl : z = (j : Int) := by omega
      obtain ⟨c, hcj⟩ : ∃ c, d.waits[j]? = some c := ⟨_, List.getElem?_eq_getElem (by omega)⟩
      have hcp := (HK.out.wlen c (List.mem_of_getElem? hcj)).1
      obtain ⟨gr, rfl, hcap, hcapm, hgr, _, hcell⟩ := own_pos HO.out (by omega)
      obtain ⟨a0, a1, _⟩ := chg_range (fun c hc => (HK.out.wlen c hc).1) hcell hcj
      have HA : Hid ((w.alloc (.cells (pgV zeros) 83)).rangeAt gr (j * 258 + 2) (U c.p)) := World.rangeAt_alloc a1 _
      have hji : (j : Int) < (d.waits.length : Int) := by omega
      unfold maxLen at hcapm
      have HCJ : Hid (d.waits[j]? = some c) := hcj
      have HCP : Hid (c.p.length = 256) := hcp
      clear hk hcell a1 hcj hcp HO
      by_cases hat : c.at_ = at_
      · have hb : (c.at_ == at_) = true := by simpa using hat
        have HAT : Hid (c.at_ = at_) := hat
        clear hat
        go_wp2_with (first | (refine ld79 rfl (.tmp 32) rfl gr (j * 258 + 2) rfl c.p HCP.out HA.out ?_) | (refine st79 w rfl (.tmp 4) (.tmp 33) rfl _ rfl rfl c.p zeros rfl rfl zeros_length HCP.out ?_))
        refine bodyPost_ret (v := .agg (pgV (lookP d at_))) ?_ rfl ⟨rfl, by go_grown⟩
        have e : lookP d at_ = c.p := by
          unfold lookP
          rw [HQ.out, lastP_take HCJ.out, if_pos HAT.out]
        rw [e]
        exact resultsB79 Tryd.results51 _ _ w.heap.size rfl c.p HCP.out 83 (0, 0) (heap_alloc_last _ _)
      · have hb : (c.at_ == at_) = false := by simpa using hat
        have HAT : Hid (¬ c.at_ = at_) := hat
        clear hat
        go_wp2_with fail
        go_round
        case rel => exact ⟨j, _, by omega, by omega, rfl, fun q => by rw [HQ.out, lastP_take HCJ.out, if_neg HAT.out]⟩
        case measure => simp [intOf]
end Go.Proofs.YtkbfihnoohhojaaDoor.Fla
