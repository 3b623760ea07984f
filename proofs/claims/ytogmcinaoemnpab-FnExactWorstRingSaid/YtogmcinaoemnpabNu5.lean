
/- A number told if it is finite: as the model of chapter 2 tells it, and as the program of chapter 4 does. -/
import Derived.Test.YtogmcinaoemnpabGeA
import Derived.Test.YtogmcinaoemnpabFinW
import Derived.Laws.NewBlocks
namespace Go.Proofs.Ytogmcinaoemnpab
open Go Go.ChangeShapes Go.WideShapes Go.ChangeAt Go.RowKit

/-- A number and a bool; where the number is a not-a-number, any. -/
def QRet (R : Nat) (ok : Bool) (w : World) (e : Ending) (w' : World) : Prop := ∃ s m, e = .returned (.tuple #[.float .f32 (pick .f32 R s), .bool ok]) ∧ w' = w.drewN m
/-- What is told of a number: itself if it is finite, or 0. -/
def numQ (D : Nat) : Nat := if isFin .f32 D = true then D else 0
theorem pick_nul (s : Nat) : pick .f32 0 s = 0 := pick_num (by decide +kernel) s
theorem numQ_yes {D s : Nat} (h : isFin .f32 (pick .f32 D s) = true) (w : World) (m : Nat) : QRet (numQ D) (isFin .f32 D) w (.returned (.tuple #[.float .f32 (pick .f32 D s), .bool true])) (w.drewN m) := by
  rw [isFin_pick] at h
  exact ⟨s, m, by rw [numQ, if_pos h, h], rfl⟩
theorem numQ_no {D s : Nat} (h : isFin .f32 (pick .f32 D s) = false) (w : World) (m : Nat) : QRet (numQ D) (isFin .f32 D) w (.returned (.tuple #[.float .f32 0, .bool false])) (w.drewN m) := by
  rw [isFin_pick] at h
  exact ⟨0, m, by rw [numQ, h, if_neg (by simp), pick_nul], rfl⟩
set_option maxHeartbeats 800000 in
theorem numI_any (D s : Nat) (w : World) : Calls Try.prog 64 #[.float .f32 (pick .f32 D s)] w (QRet (numQ D) (isFin .f32 D) w) := by
  cases hf : isFin .f32 (pick .f32 D s)
  · have H := Lib.hid (fun m => numQ_no hf w m)
    go_enter Try.func64, Try.ntmps64
    go_wp2_with (go_at_call 82; refine (IsFinite_any _ _).mono ?_; rintro e w' ⟨rfl, q, rfl⟩)
    go_ret2
    exact H.out _
  · have H := Lib.hid (fun m => numQ_yes hf w m)
    go_enter Try.func64, Try.ntmps64
    go_wp2_with (go_at_call 82; refine (IsFinite_any _ _).mono ?_; rintro e w' ⟨rfl, q, rfl⟩)
    go_ret2
    exact H.out _
/-- A number and a bool, behind what a call has drawn and laid. -/
def NRet (R : Nat) (ok : Bool) (w : World) (e : Ending) (w' : World) : Prop := ∃ s, e = .returned (.tuple #[.float .f32 (pick .f32 R s), .bool ok]) ∧ Below w.heap.size w w'
theorem NRet.no {R D : Nat} {ok k : Bool} {w w' : World} (hR : Hid (R = if k = true then numQ D else 0)) (ho : Hid (ok = (k && isFin .f32 D))) (h : Hid (k = false)) (hb : Below w.heap.size w w') : NRet R ok w (.returned (.tuple #[.float .f32 0, .bool false])) w' := by
  rw [hR.out, ho.out, h.out]
  exact ⟨0, by rw [if_neg (by simp), pick_nul, Bool.false_and], hb⟩
theorem NRet.yes {R D s : Nat} {ok k : Bool} {w w' : World} (hR : Hid (R = if k = true then numQ D else 0)) (ho : Hid (ok = (k && isFin .f32 D))) (h : Hid (k = true)) (hb : Below w.heap.size w w') : NRet R ok w (.returned (.tuple #[.float .f32 (pick .f32 (numQ D) s), .bool (isFin .f32 D)])) w' := by
  rw [hR.out, ho.out, h.out]
  exact ⟨s, by rw [if_pos rfl, Bool.true_and], hb⟩
theorem run_store_f32 (a : Addr) (x : Nat) (m : Mode) (w : World) : (store a (.float .f32 x) m).run Try.prog w = stored Try.prog w a (.float .f32 x) m := run_store _ w a _ m rfl
end Go.Proofs.Ytogmcinaoemnpab
