/- Whether numbers are turns, parts and totals: as the model asks it, and as the program does. -/
import Derived.Test.YtffhnkhjfggooaaTot
import Derived.Test.YtffhnkhjfggooaaArr
namespace Go.Proofs.Ytffhnkhjfggooaa
open Go Go.ChangeShapes Go.WideShapes Go.ChangeAt Go.RowKit

def partB (a x : Int) : Bool := inB x (-a) a && ((a - x) % 2 == 0)
set_option maxHeartbeats 800000 in
theorem isPart_any (a x : Int) (w : World) (h0 : 0 ≤ a) (h1 : a ≤ 40) : Calls Try.prog 49 #[.int .i64 a, .int .i64 x] w fun e w' => e = .returned (.bool (partB a x)) ∧ w = w' := by
  by_cases hx : -a ≤ x
  · have d1 : decide (-a ≤ x) = true := decide_eq_true hx
    by_cases hy : x ≤ a
    · have d2 : decide (x ≤ a) = true := decide_eq_true hy
      have hm : Int.tmod (a - x) 2 = (a - x) % 2 := Int.tmod_eq_emod_of_nonneg (by omega)
      have H := Lib.hid (show partB a x = ((a - x) % 2 == 0) by unfold partB; rw [inB_yes hx hy]; rfl)
      go_enter Try.func49, Try.ntmps49
      go_wp2
      go_ret
      exact ⟨ret_bool H.out.symm, rfl⟩
    · have d2 : decide (x ≤ a) = false := decide_eq_false hy
      have H := Lib.hid (show partB a x = false by unfold partB; rw [inB_hi (by omega)]; rfl)
      go_enter Try.func49, Try.ntmps49
      go_wp2
      go_ret
      exact ⟨ret_bool H.out.symm, rfl⟩
  · have d1 : decide (-a ≤ x) = false := decide_eq_false hx
    have H := Lib.hid (show partB a x = false by unfold partB; rw [inB_lo (by omega)]; rfl)
    go_enter Try.func49, Try.ntmps49
    go_wp2
    go_ret
    exact ⟨ret_bool H.out.symm, rfl⟩
set_option maxHeartbeats 800000 in
theorem l03Part_any (a x : Int) (w : World) (h0 : 0 ≤ a) (h1 : a ≤ 40) : Calls Try.prog 81 #[.int .i64 a, .int .i64 x] w fun e w' => e = .returned (.bool (partB a x)) ∧ w = w' := by
  cases hi : inB x (-a) a
  · have H := Lib.hid (show partB a x = false by unfold partB; rw [hi]; rfl)
    go_enter Try.func81, Try.ntmps81
    go_wp2_with (go_at_call 51; refine (l00In_any _ _ _ _).mono ?_; rintro e w' ⟨rfl, rfl⟩)
    go_ret
    exact ⟨ret_bool H.out.symm, rfl⟩
  · obtain ⟨hx, hy⟩ := inB_rng hi
    have hm : Int.tmod (a - x) 2 = (a - x) % 2 := Int.tmod_eq_emod_of_nonneg (by omega)
    have H := Lib.hid (show partB a x = ((a - x) % 2 == 0) by unfold partB; rw [hi]; rfl)
    go_enter Try.func81, Try.ntmps81
    go_wp2_with (go_at_call 51; refine (l00In_any _ _ _ _).mono ?_; rintro e w' ⟨rfl, rfl⟩)
    go_ret
    exact ⟨ret_bool H.out.symm, rfl⟩
theorem l03Is_any (a : Int) (w : World) : Calls Try.prog 50 #[.int .i64 a] w fun e w' => e = .returned (.bool (inB a 0 6)) ∧ w = w' := by
  go_enter Try.func50, Try.ntmps50
  go_wp2_with (go_at_call 51; refine (l00In_any _ _ _ _).mono ?_; rintro e w' ⟨rfl, rfl⟩)
  go_ret
  exact ⟨rfl, rfl⟩
def turnB (a x : Int) : Bool := inB a 0 6 && partB a x
theorem l03Turn_any (a x : Int) (w : World) : Calls Try.prog 47 #[.int .i64 a, .int .i64 x] w fun e w' => e = .returned (.bool (turnB a x)) ∧ w = w' := by
  cases hi : inB a 0 6
  · have H := Lib.hid (show turnB a x = false by unfold turnB; rw [hi]; rfl)
    go_enter Try.func47, Try.ntmps47
    go_wp2_with (first | (go_at_call 51; refine (l00In_any _ _ _ _).mono ?_; rintro e w' ⟨rfl, rfl⟩))
    go_ret
    exact ⟨ret_bool H.out.symm, rfl⟩
  · obtain ⟨h0, h1⟩ := inB_rng hi
    have H := Lib.hid (show turnB a x = partB a x by unfold turnB; rw [hi]; rfl)
    have h2 : a ≤ 40 := by omega
    go_enter Try.func47, Try.ntmps47
    go_wp2_with (first | (go_at_call 51; refine (l00In_any _ _ _ _).mono ?_; rintro e w' ⟨rfl, rfl⟩) | (go_at_call 81; refine (l03Part_any a x _ h0 h2).mono ?_; rintro e w' ⟨rfl, rfl⟩))
    go_ret
    exact ⟨ret_bool H.out.symm, rfl⟩
theorem IsTurn_any (a x : Int) (w : World) : Calls Try.prog 16 #[.int .i64 a, .int .i64 x] w fun e w' => e = .returned (.bool (turnB a x)) ∧ Below w.heap.size w w' := by
  have hrd := rdI_one w a 2
  have ho := tL_one a
  cases hi : inB a 0 6
  · have H := Lib.hid (show turnB a x = false by unfold turnB; rw [hi]; rfl)
    rw [hi] at ho
    go_enter Try.func16, Try.ntmps16
    go_wp2_with (first | (go_at_call 48; refine (areTurns_any _ _ _ (fun _ => a) _ (by exact hrd) (by omega)).mono ?_; rintro e w' ⟨rfl, rfl⟩))
    go_ret
    exact ⟨ret_bool H.out.symm, (Below.refl _ w).alloc (Nat.le_refl _) _⟩
  · obtain ⟨h0, h1⟩ := inB_rng hi
    have H := Lib.hid (show turnB a x = partB a x by unfold turnB; rw [hi]; rfl)
    have h2 : a ≤ 40 := by omega
    rw [hi] at ho
    go_enter Try.func16, Try.ntmps16
    go_wp2_with (first | (go_at_call 48; refine (areTurns_any _ _ _ (fun _ => a) _ (by exact hrd) (by omega)).mono ?_; rintro e w' ⟨rfl, rfl⟩) | (go_at_call 49; refine (isPart_any a x _ h0 h2).mono ?_; rintro e w' ⟨rfl, rfl⟩))
    go_ret
    exact ⟨ret_bool H.out.symm, (Below.refl _ w).alloc (Nat.le_refl _) _⟩
theorem specIsTurn_any (a x : Int) (w : World) : Calls Try.prog 15 #[.int .i64 a, .int .i64 x] w fun e w' => e = .returned (.bool (turnB a x)) ∧ Below w.heap.size w w' := by
  go_enter Try.func15, Try.ntmps15
  go_wp2_with (first | (go_at_call 47; refine (l03Turn_any _ _ _).mono ?_; rintro e w' ⟨rfl, rfl⟩))
  go_ret
  exact ⟨rfl, Below.refl _ _⟩
theorem l03Gap_any (a b : Int) (w : World) (ha : 0 ≤ a) (ha' : a ≤ 40) (hb : 0 ≤ b) (hb' : b ≤ 40) : Calls Try.prog 78 #[.int .i64 a, .int .i64 b] w fun e w' => e = .returned (.int .i64 (gapI a b)) ∧ w = w' := by
  by_cases h : b < a
  · have d1 : decide (b < a) = true := decide_eq_true h
    have H := Lib.hid (show a - b = gapI a b by unfold gapI; rw [if_pos h])
    go_enter Try.func78, Try.ntmps78
    go_wp2
    go_ret
    exact ⟨by rw [← H.out]; rfl, rfl⟩
  · have d1 : decide (b < a) = false := decide_eq_false h
    have H := Lib.hid (show b - a = gapI a b by unfold gapI; rw [if_neg h])
    go_enter Try.func78, Try.ntmps78
    go_wp2
    go_ret
    exact ⟨by rw [← H.out]; rfl, rfl⟩
set_option maxHeartbeats 800000 in
theorem l03Total_any (a b c : Int) (w : World) (ha : 0 ≤ a) (ha' : a ≤ 40) (hb : 0 ≤ b) (hb' : b ≤ 40) : Calls Try.prog 52 #[.int .i64 a, .int .i64 b, .int .i64 c] w fun e w' => e = .returned (.bool (totB a b c)) ∧ w = w' := by
  cases hi : inB c (gapI a b) (a + b)
  · have H := Lib.hid (show totB a b c = false by unfold totB; rw [hi]; rfl)
    go_enter Try.func52, Try.ntmps52
    go_wp2_with (first | (go_at_call 78; refine (l03Gap_any a b _ ha ha' hb hb').mono ?_; rintro e w' ⟨rfl, rfl⟩) | (go_at_call 51; refine (l00In_any _ _ _ _).mono ?_; rintro e w' ⟨rfl, rfl⟩))
    go_ret
    exact ⟨ret_bool H.out.symm, rfl⟩
  · obtain ⟨hx, hy⟩ := inB_rng hi
    obtain ⟨g0, g1, g2⟩ := gapI_rng ha ha' hb hb'
    have hm : Int.tmod (a + b - c) 2 = (a + b - c) % 2 := Int.tmod_eq_emod_of_nonneg (by omega)
    have H := Lib.hid (show totB a b c = ((a + b - c) % 2 == 0) by unfold totB; rw [hi]; rfl)
    go_enter Try.func52, Try.ntmps52
    go_wp2_with (first | (go_at_call 78; refine (l03Gap_any a b _ ha ha' hb hb').mono ?_; rintro e w' ⟨rfl, rfl⟩) | (go_at_call 51; refine (l00In_any _ _ _ _).mono ?_; rintro e w' ⟨rfl, rfl⟩))
    go_ret
    exact ⟨ret_bool H.out.symm, rfl⟩
end Go.Proofs.Ytffhnkhjfggooaa
