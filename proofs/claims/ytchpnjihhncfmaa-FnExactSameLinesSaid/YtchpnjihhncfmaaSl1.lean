/- Whether two lines are the same: as the program asks it. -/
import Derived.Test.YtchpnjihhncfmaaLsk
import Derived.Test.YtchpnjihhncfmaaBits
import Derived.Deep.QuietTactic
import Derived.Deep.RegionHeld3
namespace Go.Proofs.Ytchpnjihhncfmaa
open Go Go.ChangeShapes Go.WideShapes Go.ChangeAt Go.RowKit

theorem l01Same_any (x y : Nat) (w : World) (hx : x < 4294967296) (hy : y < 4294967296) : Calls Try.prog 103 #[.float .f32 x, .float .f32 y] w fun e w' => e = .returned (.bool (decide (canon .f32 x = canon .f32 y))) ∧ w' = w := by
  go_enter Try.func103, Try.ntmps103
  go_wp2_with fail
  refine (l01Bits_any _ _ hx).mono ?_
  rintro e w' ⟨rfl, rfl⟩
  go_wp2_with fail
  refine (l01Bits_any _ _ hy).mono ?_
  rintro e w' ⟨rfl, rfl⟩
  go_wp2
  go_ret
  exact ⟨ret_bool (by rw [Bool.eq_iff_iff]; simp; exact ⟨fun h => by exact_mod_cast h, fun h => by rw [h]⟩), rfl⟩
theorem canon_dec (x y : Nat) : decide ((canon .f32 x : Int) = (canon .f32 y : Int)) = (canon .f32 x == canon .f32 y) := by
  rw [Bool.eq_iff_iff]; simp; exact ⟨fun h => by exact_mod_cast h, fun h => by rw [h]⟩
def BitsLn (a b c : Nat) (k : Int) (w : World) (e : Ending) (w' : World) : Prop := e = .returned (.agg #[.int .i64 (canon .f32 a), .int .i64 (canon .f32 b), .int .i64 (canon .f32 c), .int .i64 k]) ∧ Below w.heap.size w w'
set_option maxRecDepth 100000 in
set_option maxHeartbeats 3200000 in
theorem bitsLn_any (a b c : Nat) (k : Int) (h : a < 4294967296 ∧ b < 4294967296 ∧ c < 4294967296) (w : World) :
    Calls Try.prog 106 #[.agg #[.float .f32 a, .float .f32 b, .float .f32 c, .int .i64 k]] w (BitsLn a b c k w) := by
  have HA := Lib.hid (fun w => BitsOf_any a w h.1)
  have HB := Lib.hid (fun w => BitsOf_any b w h.2.1)
  have HC := Lib.hid (fun w => BitsOf_any c w h.2.2)
  clear h
  have hst := fun (a : Addr) (n : Int) (m : Mode) (w : World) => run_store_int (P := Try.prog) (a := a) (m := m) (w := w) .i64 n
  go_enter Try.func106, Try.ntmps106
  go_wp2_with fail
  go_region_held3 (fun w' => w'.cell? ⟨w.heap.size, 0, none⟩ = some (.float .f32 a) ∧ w'.cell? ⟨w.heap.size, 1, none⟩ = some (.float .f32 b) ∧ w'.cell? ⟨w.heap.size, 2, none⟩ = some (.float .f32 c) ∧ w'.cell? ⟨w.heap.size, 3, none⟩ = some (.int .i64 k)) (go_keep)
    (first | (go_at_call 158; (with_reducible refine (HA.out _).mono ?_); rintro e w' ⟨rfl, q, rfl⟩) | (go_at_call 158; (with_reducible refine (HB.out _).mono ?_); rintro e w' ⟨rfl, q, rfl⟩) | (go_at_call 158; (with_reducible refine (HC.out _).mono ?_); rintro e w' ⟨rfl, q, rfl⟩))
  all_goals go_wp2
  all_goals exact bodyPost_ret (v := .agg #[.int .i64 (canon .f32 a), .int .i64 (canon .f32 b), .int .i64 (canon .f32 c), .int .i64 k]) (by simp [results, Try.results106, go_sem]) rfl ⟨rfl, by repeat (first | with_reducible exact Below.refl _ _ | with_reducible refine Below.drewN ?_ _ | with_reducible refine Below.setCell ?_ (by simp; try omega) _ | with_reducible refine Below.alloc ?_ (by simp; try omega) _)⟩
end Go.Proofs.Ytchpnjihhncfmaa
