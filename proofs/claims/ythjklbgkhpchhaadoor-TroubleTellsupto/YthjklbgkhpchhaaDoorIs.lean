/-
  (*fault).Is, (*fault).Unwrap, errors.is, errors.Is, Has at this seat.
-/
import Derived.Test.YthjklbgkhpchhaaDoorLast
import Derived.RegionTactic
import Derived.Deep.RegionWith
import Derived.Deep.QuietTactic
import Derived.BigQuiet
namespace Go.Proofs.YthjklbgkhpchhaaDoor
open Go.RowKit Go.Extern.Stop Go.Stop Go.Extern

theorem unwrap_any (b : Nat) (u : Value) (w : World) (h : w.cell? ⟨b, 3, none⟩ = some u) :
    Calls Tryd.prog 79 #[.pointer (some ⟨b, 0, none⟩)] w fun e w' => e = .returned u ∧ w' = w := by
  go_enter Tryd.func79, Tryd.ntmps79
  go_wp2
  go_ret
  exact ⟨rfl, rfl⟩

set_option maxHeartbeats 1000000 in
theorem fis_zero (b : Nat) (t : Value) (w : World) (h : w.cell? ⟨b, 2, none⟩ = some (.int .i64 0)) :
    Calls Tryd.prog 78 #[.pointer (some ⟨b, 0, none⟩), t] w fun e w' => e = .returned (.bool false) ∧ Below w.heap.size w w' := by
  go_enter Tryd.func78, Tryd.ntmps78
  go_wp2
  go_quiet (fail)
  go_wp2
  go_ret
  exact ⟨rfl, below_drewN (Below.refl _ _) _⟩

set_option maxHeartbeats 4000000 in
theorem fis_some (b : Nat) (c tc : Int) (t : Value) (dn : List Lnk) (op : ByteArray) (a : Int) (w : World) (hg : ErrT w) (h : w.cell? ⟨b, 2, none⟩ = some (.int .i64 c)) (hc : (c != 0) = true)
    (ht : Lk w t (dn ++ [(op, a, tc)])) (hlen : dn.length < 1000) :
    Calls Tryd.prog 78 #[.pointer (some ⟨b, 0, none⟩), t] w fun e w' => e = .returned (.bool (c == tc)) ∧ Below w.heap.size w w' := by
  have hbd : Below w.heap.size w w.drew := (Below.refl _ _).drew
  have hgd := hg.below hbd
  have htd := ht.stays hbd
  have hbl : b < w.heap.size := World.block_lt_of_cell? w _ h
  have h' : w.drew.cell? ⟨b, 2, none⟩ = some (.int .i64 c) := h
  clear hbd hg ht
  go_enter Tryd.func78, Tryd.ntmps78
  go_wp2
  go_region_with (go_at_call 14; refine (of_some _ hgd htd.er hlen).mono ?_; rintro e w1 ⟨rfl, hb⟩; have h1 : w1.cell? ⟨b, 2, none⟩ = some (.int .i64 c) := (hb.cell (p := ⟨b, 2, none⟩) hbl).trans h')
  all_goals (go_wp2; go_ret; exact ⟨rfl, Below.trans ((Below.refl _ _).drew) hb⟩)
end Go.Proofs.YthjklbgkhpchhaaDoor
