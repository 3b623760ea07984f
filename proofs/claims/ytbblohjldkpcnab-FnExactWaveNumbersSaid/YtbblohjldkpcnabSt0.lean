
/- Steps without edges: marks, and whether they are held. -/
import Derived.Test.YtbblohjldkpcnabStm
namespace Go.Proofs.Ytbblohjldkpcnab
open Go Go.ChangeShapes Go.WideShapes Go.ChangeAt Go.RowKit
set_option linter.all false

set_option maxHeartbeats 1600000 in
theorem markNone_any (a : Option Addr) (c : Nat) (k0 : Int) (w : World) :
    Calls Try.prog 22 #[.slice a 0 c, .int .i64 k0] w fun e w' => e = .returned (.int .i64 k0) ∧ w' = w := by
  go_enter Try.func22, Try.ntmps22
  go_wp2
  go_loopw [1, 5] (fun q i wr => i = .int .i64 0 ∧ q = .int .i64 k0 ∧ wr = w) (fun _ _ _ => 0)
  case atStart => exact ⟨rfl, rfl, rfl⟩
  case round =>
    obtain ⟨rfl, rfl, rfl⟩ := hrel
    go_wp2
    go_ret
    exact ⟨rfl, rfl⟩
set_option maxHeartbeats 1600000 in
theorem heldNone_any (a : Option Addr) (c : Nat) (k0 : Int) (w : World) :
    Calls Try.prog 23 #[.slice a 0 c, .int .i64 k0] w fun e w' => e = .returned (.int .i64 k0) ∧ w' = w := by
  go_enter Try.func23, Try.ntmps23
  go_wp2
  go_loopw [1, 5] (fun q i wr => i = .int .i64 0 ∧ q = .int .i64 k0 ∧ wr = w) (fun _ _ _ => 0)
  case atStart => exact ⟨rfl, rfl, rfl⟩
  case round =>
    obtain ⟨rfl, rfl, rfl⟩ := hrel
    go_wp2
    go_ret
    exact ⟨rfl, rfl⟩
set_option maxHeartbeats 1600000 in
theorem markSt0_any (B h m cg ch : Nat) (a : Option Addr) (Y : Nat → Nat) (k0 : Int) (w : World) (hh : w.ownsRow B 43 1 (.slice (some ⟨h, 0, none⟩) m ch) m (rowOf Y m)) (hm : m ≤ 1048576) (hk0 : 0 ≤ k0) (hk1 : k0 ≤ 50000000) :
    Calls Try.prog 48 #[.agg #[.slice a 0 cg, .slice (some ⟨h, 0, none⟩) m ch], .int .i64 k0] w fun e w' =>
      e = .returned (.int .i64 (k0 + m)) ∧ w'.ownsRow B 43 1 (.slice (some ⟨h, 0, none⟩) m ch) m (rowOf (mk k0) m) ∧ Only h w w' := by
  have hb0 : Below w.heap.size w (w.alloc (.cells #[.slice a 0 cg, .slice (some ⟨h, 0, none⟩) m ch] 62)) := (Below.refl _ _).alloc (Nat.le_refl _) _
  have hh1 := own_below hh hb0
  have hhl := own_lt hh
  clear hh
  go_enter Try.func48, Try.ntmps48
  go_wp2_with fail
  refine (markNone_any a cg k0 _).mono ?_
  rintro e0 w1 ⟨rfl, rfl⟩
  go_wp2_with fail
  refine (markO_any B h m ch Y k0 _ (by exact hh1) hm hk0 (by omega)).mono ?_
  rintro e0 w2 ⟨rfl, O2, o2⟩
  go_wp2
  go_ret
  exact ⟨rfl, O2, only_alloc o2⟩
set_option maxHeartbeats 1600000 in
theorem heldSt0_any (B : Nat) (u : Value) (a ya : Option Addr) (m cg ch : Nat) (k0 : Int) (w : World) (hu : u = .slice ya m ch) (hh : w.ownsRow B 43 1 u m (rowOf (mk k0) m)) (hm : m ≤ 1048576) (hk0 : 0 ≤ k0) (hk1 : k0 ≤ 50000000) :
    Calls Try.prog 49 #[.agg #[.slice a 0 cg, u], .int .i64 k0] w fun e w' => e = .returned (.int .i64 (k0 + m)) ∧ Below w.heap.size w w' := by
  subst hu
  have hb0 : Below w.heap.size w (w.alloc (.cells #[.slice a 0 cg, .slice ya m ch] 62)) := (Below.refl _ _).alloc (Nat.le_refl _) _
  have hh1 := own_below hh hb0
  clear hh
  go_enter Try.func49, Try.ntmps49
  go_wp2_with fail
  refine (heldNone_any a cg k0 _).mono ?_
  rintro e0 w1 ⟨rfl, rfl⟩
  go_wp2_with fail
  refine (heldF_any B _ m k0 _ (by exact hh1) hm hk0 (by omega)).mono ?_
  rintro e0 w1 ⟨rfl, rfl⟩
  go_wp2
  go_ret
  exact ⟨rfl, hb0⟩
end Go.Proofs.Ytbblohjldkpcnab
