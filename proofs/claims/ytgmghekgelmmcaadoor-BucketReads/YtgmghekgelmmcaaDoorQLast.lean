/-
  last, Of, Where at this seat.
-/
import Derived.Test.YtgmghekgelmmcaaDoorQLinks
namespace Go.Proofs.YtgmghekgelmmcaaDoor
open Go.RowKit Go.Extern.Stop Go.Stop Go.Extern

theorem Tryd.info67m : (Tryd.prog.info? 68).map (fun i => (i.zero, i.size, i.bytes)) = some (some (.agg #[.string ByteArray.empty, .int .i64 0, .int .i64 0]), 3, 32) := by kernel_rfl
theorem Tryd.info68 : ∃ i, Tryd.prog.info? 68 = some i ∧ i.zero = some (.agg #[.string ByteArray.empty, .int .i64 0, .int .i64 0]) ∧ i.size = 3 ∧ i.bytes = 32 := by
  obtain ⟨i, h1, h2⟩ := Option.map_eq_some_iff.1 Tryd.info67m
  simp only [Prod.mk.injEq] at h2
  exact ⟨i, h1, h2.1, h2.2.1, h2.2.2⟩

/-- The cells of a fault's block. -/
theorem cells92 {w w' : World} {b : Nat} {x0 x1 x2 x3 : Value} (hh : w.heap[b]? = some (.cells #[x0, x1, x2, x3] 96 (0, 0))) (hb : Below w.heap.size w w') :
    w'.cell? ⟨b, 0, none⟩ = some x0 ∧ w'.cell? ⟨b, 1, none⟩ = some x1 ∧ w'.cell? ⟨b, 2, none⟩ = some x2 ∧ w'.cell? ⟨b, 3, none⟩ = some x3 := by
  have h' : w'.heap[b]? = some (.cells #[x0, x1, x2, x3] 96 (0, 0)) := by rw [hb.block b (Array.getElem?_eq_some_iff.1 hh).1]; exact hh
  refine ⟨?_, ?_, ?_, ?_⟩ <;> simp [World.cell?, h']

theorem cell_three_new (w : World) (x y z : Value) (e : TypeId) : ∀ j u, [x, y, z][j]? = some u → (w.alloc (.cells #[x, y, z] e)).cell? ((⟨w.heap.size, 0, none⟩ : Addr).add j) = some u := by
  intro j u hu
  rcases j with _ | _ | _ | j <;> simp_all [Addr.add]

theorem own_below {w w' : World} {B : Nat} {e : TypeId} {size : Nat} {v : Value} {n : Nat} {xs : List Value} (h : w.ownsRow B e size v n xs) (hb : Below w.heap.size w w') : w'.ownsRow B e size v n xs :=
  h.kept (row := none) ⟨hb.os, hb.tape, hb.output, hb.size, fun k hk _ => hb.block k hk⟩ (by cases v.ownBlock <;> simp)

set_option maxHeartbeats 1000000 in
set_option maxRecDepth 10000 in
theorem chain_any {w : World} {v : Value} {ls : List Lnk} (hg : ErrT w) (h : Lk w v ls) (hlen : ls.length ≤ 1000) :
    Calls Tryd.prog 58 #[v] w fun e w' => ∃ sv, e = .returned sv ∧ w'.ownsRow w.heap.size 68 3 sv ls.length (cellsOf ls) ∧ Below w.heap.size w w' := by
  obtain ⟨i0, hi, hz0, hz1, hz2⟩ := Tryd.info68
  go_enter Tryd.func58, Tryd.ntmps58
  go_wp2_with (go_at_call 77; refine (find_lk hg h).mono ?_; rintro e w1 ⟨rfl, hb1⟩; have hfp := h.fp)
  go_loopg [3, 4] ls.length (fun k s f wr => ∃ dn rest, ls = dn ++ rest ∧ k = rest.length ∧ Fp w f rest ∧ wr.ownsRow w.heap.size 68 3 s dn.length (cellsOf dn) ∧ Below w.heap.size w wr)
  case atStart => exact ⟨[], ls, rfl, rfl, hfp, World.ownsRow_nil _ _ _ _, hb1⟩
  case round =>
    clear hfp hb1
    obtain ⟨dn, rest, hls, hk, hf, hown, hbr⟩ := hrel
    rcases hf with ⟨rfl, rfl⟩ | ⟨b, op, a, c, u, rest, rfl, rfl, hh, hu⟩
    · have A : Hid (ls = dn ++ []) := hls
      clear hls hk h hlen
      go_wp2
      go_ret
      have e := A.out
      simp only [List.append_nil] at e
      subst e
      exact ⟨_, rfl, hown, hbr⟩
    · obtain ⟨c0, c1, c2, c3⟩ := cells92 hh hbr
      have hl2 : dn.length + rest.length + 1 ≤ 1000 := by rw [hls] at hlen; simp at hlen; omega
      have hsz := hbr.size
      have A : Hid (ls = dn ++ (op, a, c) :: rest ∧ gk = ((op, a, c) :: rest).length) := ⟨hls, hk⟩
      clear hls hk h hlen
      have hO : (wr.alloc (.cells #[.string op, .int .i64 a, .int .i64 c] 68)).ownsRow w.heap.size 68 3 u3 dn.length (cellsOf dn) := hown.alloc _
      have hB1 : Below w.heap.size w (wr.alloc (.cells #[.string op, .int .i64 a, .int .i64 c] 68)) := hbr.alloc hsz _
      clear hbr hown
      go_wp2_with (first
        | (at_builtin; refine wpList_append_own _ rfl (.tmp 14) (.tmp 19) 101 rfl w.heap.size 68 i0 (.agg #[.string ByteArray.empty, .int .i64 0, .int .i64 0]) 3 32 Tryd.underlying101 hi hz0 hz1 hz2 rfl (by decide) _ _ _ rfl hO ⟨wr.heap.size, 0, none⟩ 1 1 [.string op, .int .i64 a, .int .i64 c] rfl rfl (cell_three_new _ _ _ _ _) (by intro x hx; simp at hx; rcases hx with rfl | rfl | rfl <;> rfl) (by unfold maxLen; omega) (by omega) hB1.size ?_; intro v3 w3 hown3 hgrow3 hnil3; have hB3 := hB1.grown hgrow3 hB1.size (fun k hk => (hO.lt k hk).1); have hcc := (cells92 hh hB3).2.2.2)
        | (go_at_call 77; refine (find_lk (hg.below hB3) (hu.stays hB3)).mono ?_; rintro e w4 ⟨rfl, hb4⟩))
      go_roundg rest.length
      case measure => rw [A.out.2]; simp
      case rel => 
        refine ⟨dn ++ [(op, a, c)], rest, ?_, rfl, hu.fp, ?_, hB3.trans (hb4.mono hB3.size)⟩
        · rw [A.out.1]; simp
        · have h5 := own_below hown3 hb4
          rw [cellsOf_append, List.length_append]
          exact h5

end Go.Proofs.YtgmghekgelmmcaaDoor

namespace Go.Proofs.YtgmghekgelmmcaaDoor
open Go.RowKit Go.Extern.Stop Go.Stop Go.Extern

theorem own_len {w : World} {B : Nat} {e : TypeId} {size : Nat} {v : Value} {n : Nat} {xs : List Value} (h : w.ownsRow B e size v n xs) : ∃ p cap, v = .slice p n cap := by
  rcases h.2 with ⟨rfl, rfl⟩ | ⟨g, cap, cur, rfl, _⟩
  · exact ⟨_, _, rfl⟩
  · exact ⟨_, _, rfl⟩

theorem own_at {w : World} {B : Nat} {e : TypeId} {size : Nat} {v : Value} {n : Nat} {xs : List Value} (h : w.ownsRow B e size v (n + 1) xs) : ∃ g cap, v = .slice (some ⟨g, 0, none⟩) (n + 1) cap ∧ B ≤ g ∧ g < w.heap.size ∧ n + 1 ≤ cap ∧ cap ≤ maxLen ∧ ∀ j u, xs[j]? = some u → w.cell? ⟨g, j, none⟩ = some u := by
  rcases h.2 with ⟨_, hn⟩ | ⟨g, cap, cur, rfl, hb, hg, h1, h2, _⟩
  · omega
  · refine ⟨g, cap, rfl, hb, (Array.getElem?_eq_some_iff.1 hg).1, h1, h2, fun j u hj => ?_⟩
    have := h.cells (g := g) rfl j u hj
    rwa [show (⟨g, 0, none⟩ : Addr).add j = ⟨g, j, none⟩ by unfold Addr.add; split <;> simp_all] at this

theorem bcell {W w1 : World} (hb : Below W.heap.size W w1) : (∀ b o, b < W.heap.size → w1.cell? ⟨b, o, none⟩ = W.cell? ⟨b, o, none⟩) ∧ (∀ b o, b < W.heap.size → w1.frozen? ⟨b, o, none⟩ = W.frozen? ⟨b, o, none⟩) :=
  ⟨fun b o h => hb.cell (p := ⟨b, o, none⟩) h, fun b o h => hb.frozen (p := ⟨b, o, none⟩) h⟩

set_option maxHeartbeats 1000000 in
set_option maxRecDepth 10000 in
theorem last_nil (w : World) (hg : ErrT w) :
    Calls Tryd.prog 32 #[.nilIface] w fun e w' => e = .returned (.tuple #[.agg #[.string ByteArray.empty, .int .i64 0, .int .i64 0], .bool false]) ∧ Below w.heap.size w w' := by
  have hgA : ErrT (w.alloc (.cells #[.string ByteArray.empty, .int .i64 0, .int .i64 0] 68)) := hg.below (by go_grown)
  go_enter Tryd.func32, Tryd.ntmps32
  go_wp2_with (go_at_call 58; refine (chain_any hgA (Lk.nil _) (Nat.zero_le _)).mono ?_; rintro e w1 ⟨sv, rfl, hown, hb⟩; obtain ⟨p, cap, rfl⟩ := own_len hown; obtain ⟨hc, hf⟩ := bcell hb; clear hown)
  refine bodyPost_ret (v := .tuple #[.agg #[.string ByteArray.empty, .int .i64 0, .int .i64 0], .bool false]) (by simp [results, Tryd.results32, go_sem, hc]; try rfl) rfl ⟨rfl, ?_⟩
  refine ((((?_ : Below w.heap.size w w1)).setCell (by simp) _).setCell (by simp) _).setCell (by simp) _
  exact Below.trans (by go_grown) (hb.mono (by simp))

set_option maxHeartbeats 1000000 in
set_option maxRecDepth 10000 in
theorem last_some (w : World) (hg : ErrT w) {v : Value} {dn : List Lnk} {op : ByteArray} {a c : Int} (h : Lk w v (dn ++ [(op, a, c)])) (hlen : dn.length < 1000) :
    Calls Tryd.prog 32 #[v] w fun e w' => e = .returned (.tuple #[.agg #[.string op, .int .i64 a, .int .i64 c], .bool true]) ∧ Below w.heap.size w w' := by
  have hbA : Below w.heap.size w (w.alloc (.cells #[.string ByteArray.empty, .int .i64 0, .int .i64 0] 68)) := by go_grown
  have hgA := hg.below hbA
  have hA := h.stays hbA
  have hl : (dn ++ [(op, a, c)]).length ≤ 1000 := by simp; omega
  go_enter Tryd.func32, Tryd.ntmps32
  go_wp2_with (go_at_call 58; refine (chain_any hgA hA hl).mono ?_; rintro e w1 ⟨sv, rfl, hown, hb⟩; rw [List.length_append] at hown; obtain ⟨g, cap, rfl, g1, g2, g3, g4, g5⟩ := own_at hown; obtain ⟨hc, hf⟩ := bcell hb; have q0 := g5 (dn.length * 3) (.string op) (by rw [cellsOf_append, List.getElem?_append_right (by rw [cellsOf_length]; omega)]; simp [cellsOf_length, cellsOf]); have q1 := g5 (dn.length * 3 + 1) (.int .i64 a) (by rw [cellsOf_append, List.getElem?_append_right (by rw [cellsOf_length]; omega)]; simp [cellsOf_length, cellsOf]); have q2 := g5 (dn.length * 3 + 2) (.int .i64 c) (by rw [cellsOf_append, List.getElem?_append_right (by rw [cellsOf_length]; omega)]; simp [cellsOf_length, cellsOf]); clear g5 hown)
  refine bodyPost_ret (v := .tuple #[.agg #[.string op, .int .i64 a, .int .i64 c], .bool true]) (by simp [results, Tryd.results32, go_sem, hc]; try rfl) rfl ⟨rfl, ?_⟩
  refine ((((?_ : Below w.heap.size w w1)).setCell (by simp) _).setCell (by simp) _).setCell (by simp) _
  exact Below.trans (by go_grown) (hb.mono (by simp))

set_option maxHeartbeats 1000000 in
theorem of_nil (w : World) (hg : ErrT w) :
    Calls Tryd.prog 11 #[.nilIface] w fun e w' => e = .returned (.int .i64 0) ∧ Below w.heap.size w w' := by
  go_enter Tryd.func11, Tryd.ntmps11
  go_wp2_with (go_at_call 32; refine (last_nil _ hg).mono ?_; rintro e w1 ⟨rfl, hb⟩)
  go_ret
  exact ⟨rfl, hb.alloc hb.size _⟩

set_option maxHeartbeats 1000000 in
theorem of_some (w : World) (hg : ErrT w) {v : Value} {dn : List Lnk} {op : ByteArray} {a c : Int} (h : Lk w v (dn ++ [(op, a, c)])) (hlen : dn.length < 1000) :
    Calls Tryd.prog 11 #[v] w fun e w' => e = .returned (.int .i64 c) ∧ Below w.heap.size w w' := by
  go_enter Tryd.func11, Tryd.ntmps11
  go_wp2_with (go_at_call 32; refine (last_some _ hg h hlen).mono ?_; rintro e w1 ⟨rfl, hb⟩)
  go_ret
  exact ⟨rfl, hb.alloc hb.size _⟩

end Go.Proofs.YtgmghekgelmmcaaDoor
