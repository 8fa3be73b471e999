/-
  Chain, last, Of, Where at this seat.
-/
import Derived.Test.YtibplphpbbajhaaDoorLinks
namespace Go.Proofs.YtibplphpbbajhaaDoor
open Go.RowKit Go.Extern.Stop Go.Stop Go.Extern

theorem Tryd.info67m : (Tryd.prog.info? 61).map (fun i => (i.zero, i.size, i.bytes)) = some (some (.agg #[.string ByteArray.empty, .int .i64 0, .int .i64 0]), 3, 32) := by kernel_rfl
theorem Tryd.info61 : ∃ i, Tryd.prog.info? 61 = some i ∧ i.zero = some (.agg #[.string ByteArray.empty, .int .i64 0, .int .i64 0]) ∧ i.size = 3 ∧ i.bytes = 32 := by
  obtain ⟨i, h1, h2⟩ := Option.map_eq_some_iff.1 Tryd.info67m
  simp only [Prod.mk.injEq] at h2
  exact ⟨i, h1, h2.1, h2.2.1, h2.2.2⟩

/-- The cells of a fault's block. -/
theorem cells92 {w w' : World} {b : Nat} {x0 x1 x2 x3 : Value} (hh : w.heap[b]? = some (.cells #[x0, x1, x2, x3] 74 (0, 0))) (hb : Below w.heap.size w w') :
    w'.cell? ⟨b, 0, none⟩ = some x0 ∧ w'.cell? ⟨b, 1, none⟩ = some x1 ∧ w'.cell? ⟨b, 2, none⟩ = some x2 ∧ w'.cell? ⟨b, 3, none⟩ = some x3 := by
  have h' : w'.heap[b]? = some (.cells #[x0, x1, x2, x3] 74 (0, 0)) := by rw [hb.block b (Array.getElem?_eq_some_iff.1 hh).1]; exact hh
  refine ⟨?_, ?_, ?_, ?_⟩ <;> simp [World.cell?, h']

theorem cell_three_new (w : World) (x y z : Value) (e : TypeId) : ∀ j u, [x, y, z][j]? = some u → (w.alloc (.cells #[x, y, z] e)).cell? ((⟨w.heap.size, 0, none⟩ : Addr).add j) = some u := by
  intro j u hu
  rcases j with _ | _ | _ | j <;> simp_all [Addr.add]

theorem own_below {w w' : World} {B : Nat} {e : TypeId} {size : Nat} {v : Value} {n : Nat} {xs : List Value} (h : w.ownsRow B e size v n xs) (hb : Below w.heap.size w w') : w'.ownsRow B e size v n xs :=
  h.kept (row := none) ⟨hb.os, hb.tape, hb.output, hb.size, fun k hk _ => hb.block k hk⟩ (by cases v.ownBlock <;> simp)

set_option maxHeartbeats 1000000 in
set_option maxRecDepth 10000 in
theorem chain_any {w : World} {v : Value} {ls : List Lnk} (hg : ErrT w) (h : Lk w v ls) (hlen : ls.length ≤ 1000) :
    Calls Tryd.prog 38 #[v] w fun e w' => ∃ sv, e = .returned sv ∧ w'.ownsRow w.heap.size 61 3 sv ls.length (cellsOf ls) ∧ Below w.heap.size w w' := by
  obtain ⟨i0, hi, hz0, hz1, hz2⟩ := Tryd.info61
  go_enter Tryd.func38, Tryd.ntmps38
  go_wp2_with (go_at_call 43; refine (find_lk hg h).mono ?_; rintro e w1 ⟨rfl, hb1⟩; have hfp := h.fp)
  go_loopg [3, 4] ls.length (fun k s f wr => ∃ dn rest, ls = dn ++ rest ∧ k = rest.length ∧ Fp w f rest ∧ wr.ownsRow w.heap.size 61 3 s dn.length (cellsOf dn) ∧ Below w.heap.size w wr)
  case atStart => exact ⟨[], ls, rfl, rfl, hfp, World.ownsRow_nil _ _ _ _, hb1⟩
  case round =>
    clear hfp hb1
    obtain ⟨dn, rest, hls, hk, hf, hown, hbr⟩ := hrel
    rcases hf with ⟨rfl, rfl⟩ | ⟨b, op, a, c, u, rest, rfl, rfl, hh, hu⟩
    · have A : Hid (ls = dn ++ []) := hls
      clear hls hk h hlen
      go_wp2
      go_ret
      have e := A.out
      simp only [List.append_nil] at e
      subst e
      exact ⟨_, rfl, hown, hbr⟩
    · obtain ⟨c0, c1, c2, c3⟩ := cells92 hh hbr
      have hl2 : dn.length + rest.length + 1 ≤ 1000 := by rw [hls] at hlen; simp at hlen; omega
      have hsz := hbr.size
      have A : Hid (ls = dn ++ (op, a, c) :: rest ∧ gk = ((op, a, c) :: rest).length) := ⟨hls, hk⟩
      clear hls hk h hlen
      have hO : (wr.alloc (.cells #[.string op, .int .i64 a, .int .i64 c] 61)).ownsRow w.heap.size 61 3 u3 dn.length (cellsOf dn) := hown.alloc _
      have hB1 : Below w.heap.size w (wr.alloc (.cells #[.string op, .int .i64 a, .int .i64 c] 61)) := hbr.alloc hsz _
      clear hbr hown
      go_wp2_with (first
        | (at_builtin; refine wpList_append_own _ rfl (.tmp 14) (.tmp 19) 75 rfl w.heap.size 61 i0 (.agg #[.string ByteArray.empty, .int .i64 0, .int .i64 0]) 3 32 Tryd.underlying75 hi hz0 hz1 hz2 rfl (by decide) _ _ _ rfl hO ⟨wr.heap.size, 0, none⟩ 1 1 [.string op, .int .i64 a, .int .i64 c] rfl rfl (cell_three_new _ _ _ _ _) (by intro x hx; simp at hx; rcases hx with rfl | rfl | rfl <;> rfl) (by unfold maxLen; omega) (by omega) hB1.size ?_; intro v3 w3 hown3 hgrow3 hnil3; have hB3 := hB1.grown hgrow3 hB1.size (fun k hk => (hO.lt k hk).1); have hcc := (cells92 hh hB3).2.2.2)
        | (go_at_call 43; refine (find_lk (hg.below hB3) (hu.stays hB3)).mono ?_; rintro e w4 ⟨rfl, hb4⟩))
      go_roundg rest.length
      case measure => rw [A.out.2]; simp
      case rel => 
        refine ⟨dn ++ [(op, a, c)], rest, ?_, rfl, hu.fp, ?_, hB3.trans (hb4.mono hB3.size)⟩
        · rw [A.out.1]; simp
        · have h5 := own_below hown3 hb4
          rw [cellsOf_append, List.length_append]
          exact h5

end Go.Proofs.YtibplphpbbajhaaDoor
