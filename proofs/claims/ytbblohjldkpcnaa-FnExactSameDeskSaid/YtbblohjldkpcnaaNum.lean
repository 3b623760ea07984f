
/- Numbers that are finite and at least zero, and a number told if it is finite: as the model of chapter 2 asks it, and as the program of chapter 4 tells it. -/
import Derived.Test.YtbblohjldkpcnaaGeA
import Derived.Test.YtbblohjldkpcnaaFinW
import Derived.Laws.NewBlocks
namespace Go.Proofs.Ytbblohjldkpcnaa
open Go Go.ChangeShapes Go.WideShapes Go.ChangeAt Go.RowKit

set_option maxHeartbeats 800000 in
theorem l02Least_any (x : Nat) (w : World) : Calls Try.prog 52 #[.float .f32 x] w fun e w' => e = .returned (.bool (isG x)) ∧ ∃ m, w' = w.drewN m := by
  cases hf : isFin .f32 x
  · have H := Lib.hid (isG_no hf)
    go_enter Try.func52, Try.ntmps52
    go_wp2_with (go_at_call 53; refine (l01Finite_any _ _).mono ?_; rintro e w' ⟨rfl, q, rfl⟩)
    go_ret
    exact ⟨ret_bool H.out.symm, _, rfl⟩
  · have H := Lib.hid (show isG x = (FloatKind.f32.format.order x 0 == some .gt || FloatKind.f32.format.order x 0 == some .eq) by unfold isG; rw [hf]; rfl)
    go_enter Try.func52, Try.ntmps52
    go_wp2_with (go_at_call 53; refine (l01Finite_any _ _).mono ?_; rintro e w' ⟨rfl, q, rfl⟩)
    go_ret
    exact ⟨ret_bool H.out.symm, _, rfl⟩
/-- A number and a bool; where the number is a not-a-number, any. -/
def QRet (R : Nat) (ok : Bool) (w : World) (e : Ending) (w' : World) : Prop := ∃ s m, e = .returned (.tuple #[.float .f32 (pick .f32 R s), .bool ok]) ∧ w' = w.drewN m
/-- What is told of a number: itself if it is finite, or 0. -/
def numQ (D : Nat) : Nat := if isFin .f32 D = true then D else 0
theorem pick_nul (s : Nat) : pick .f32 0 s = 0 := pick_num (by decide +kernel) s
theorem numQ_yes {D s : Nat} (h : isFin .f32 (pick .f32 D s) = true) (w : World) (m : Nat) : QRet (numQ D) (isFin .f32 D) w (.returned (.tuple #[.float .f32 (pick .f32 D s), .bool true])) (w.drewN m) := by
  rw [isFin_pick] at h
  exact ⟨s, m, by rw [numQ, if_pos h, h], rfl⟩
theorem numQ_no {D s : Nat} (h : isFin .f32 (pick .f32 D s) = false) (w : World) (m : Nat) : QRet (numQ D) (isFin .f32 D) w (.returned (.tuple #[.float .f32 0, .bool false])) (w.drewN m) := by
  rw [isFin_pick] at h
  exact ⟨0, m, by rw [numQ, h, if_neg (by simp), pick_nul], rfl⟩
/-- A number and a bool, behind what a call has drawn and laid. -/
def NRet (R : Nat) (ok : Bool) (w : World) (e : Ending) (w' : World) : Prop := ∃ s, e = .returned (.tuple #[.float .f32 (pick .f32 R s), .bool ok]) ∧ Below w.heap.size w w'
theorem NRet.no {R D : Nat} {ok k : Bool} {w w' : World} (hR : Hid (R = if k = true then numQ D else 0)) (ho : Hid (ok = (k && isFin .f32 D))) (h : Hid (k = false)) (hb : Below w.heap.size w w') : NRet R ok w (.returned (.tuple #[.float .f32 0, .bool false])) w' := by
  rw [hR.out, ho.out, h.out]
  exact ⟨0, by rw [if_neg (by simp), pick_nul, Bool.false_and], hb⟩
theorem NRet.yes {R D s : Nat} {ok k : Bool} {w w' : World} (hR : Hid (R = if k = true then numQ D else 0)) (ho : Hid (ok = (k && isFin .f32 D))) (h : Hid (k = true)) (hb : Below w.heap.size w w') : NRet R ok w (.returned (.tuple #[.float .f32 (pick .f32 (numQ D) s), .bool (isFin .f32 D)])) w' := by
  rw [hR.out, ho.out, h.out]
  exact ⟨s, by rw [if_pos rfl, Bool.true_and], hb⟩
theorem run_store_f32 (a : Addr) (x : Nat) (m : Mode) (w : World) : (store a (.float .f32 x) m).run Try.prog w = stored Try.prog w a (.float .f32 x) m := run_store _ w a _ m rfl
end Go.Proofs.Ytbblohjldkpcnaa
