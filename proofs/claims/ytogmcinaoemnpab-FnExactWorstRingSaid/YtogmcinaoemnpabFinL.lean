
/- Whether all numbers of a row are finite: as the model asks it, and as the program asks it. -/
import Derived.Test.YtogmcinaoemnpabFinW
import Derived.Test.YtogmcinaoemnpabLiW
import Derived.Test.YtogmcinaoemnpabIn
namespace Go.Proofs.Ytogmcinaoemnpab
open Go Go.ChangeShapes Go.WideShapes Go.ChangeAt Go.RowKit

def finL (X : Nat → Nat) (n : Nat) : Bool := (List.range n).all fun i => isFin .f32 (X i)
theorem finL_no {X : Nat → Nat} {n k : Nat} (hk : k < n) (h : isFin .f32 (X k) = false) : finL X n = false := by
  unfold finL
  rw [List.all_eq_false]
  exact ⟨k, List.mem_range.2 hk, by simp [h]⟩
theorem finL_yes {X : Nat → Nat} {n : Nat} (h : ∀ k, k < n → isFin .f32 (X k) = true) : finL X n = true := by
  unfold finL
  rw [List.all_eq_true]
  exact fun k hk => h k (List.mem_range.1 hk)
theorem finL_at {X : Nat → Nat} {n : Nat} (h : finL X n = true) : ∀ k, k < n → isFin .f32 (X k) = true := by
  unfold finL at h
  rw [List.all_eq_true] at h
  exact fun k hk => h k (List.mem_range.2 hk)
theorem allFinite1_any (x : Nat) (w : World) :
    Calls Try.prog 83 #[.float .f32 x] w fun e w' => e = .returned (.bool (!isFin .f32 x)) ∧ ∃ m, w' = w.drewN m := by
  go_enter Try.func83, Try.ntmps83
  go_wp2_with (go_at_call 82; refine (IsFinite_any _ _).mono ?_; rintro e w' ⟨rfl, q, rfl⟩)
  go_ret
  exact ⟨rfl, _, rfl⟩
/-- The index of the first number that is not finite, or -1. -/
def FirstOdd (w : World) (X : Nat → Nat) (n : Nat) (e : Ending) (w' : World) : Prop :=
  ∃ r : Int, e = .returned (.int .i64 r) ∧ -1 ≤ r ∧ decide (0 ≤ r) = !finL X n ∧ ∃ m, w' = w.drewN m
set_option maxHeartbeats 800000 in
theorem indexFunc_any (xa : Option Addr) (n cap : Nat) (X : Nat → Nat) (w : World) (hX : Rd w xa n X) (hn : n ≤ 1048576) :
    Calls Try.prog 87 #[.slice xa n cap, .func (.func 83) #[] #[]] w (FirstOdd w X n) := by
  obtain ⟨xb, xo, hxa, hcx⟩ := hX
  have HX := Lib.hid hcx
  clear hcx
  go_enter Try.func87, Try.ntmps87
  go_wp2
  go_loopw [8] (fun i wr => ∃ k m : Nat, k ≤ n ∧ i = .int .i64 k ∧ wr = w.drewN m ∧ Hid (∀ j, j < k → isFin .f32 (X j) = true)) (fun i _ => n - (intOf i).toNat)
  case atStart => exact ⟨0, 0, Nat.zero_le _, rfl, rfl, Lib.hid fun j hj => absurd hj (Nat.not_lt_zero _)⟩
  case round =>
    obtain ⟨k, m, hk, rfl, rfl, HF⟩ := hrel
    by_cases hlt : k < n
    · have e := hxa (by omega)
      subst e
      have h1 := HX.out k hlt
      cases hf : isFin .f32 (X k)
      · have HN := Lib.hid (finL_no hlt hf)
        go_wp2_with (go_at_call 83; refine (allFinite1_any _ _).mono ?_; rintro e w' ⟨rfl, q, rfl⟩)
        go_ret
        exact ⟨k, rfl, by omega, by rw [HN.out]; simp, _, rfl⟩
      · have HN := Lib.hid (show ∀ j, j < k + 1 → isFin .f32 (X j) = true from fun j hj => by
          by_cases hj' : j < k
          · exact HF.out j hj'
          · rw [show j = k by omega]; exact hf)
        go_wp2_with (go_at_call 83; refine (allFinite1_any _ _).mono ?_; rintro e w' ⟨rfl, q, rfl⟩)
        go_roundw
        case rel => exact ⟨k + 1, _, by omega, by go_num, rfl, HN⟩
        case measure => simp [intOf]; omega
    · have hkn : k = n := by omega
      subst hkn
      have HN := Lib.hid (finL_yes HF.out)
      go_wp2
      go_ret
      exact ⟨-1, rfl, by omega, by rw [HN.out]; simp, m, rfl⟩
theorem allFinite_any (xa : Option Addr) (n cap : Nat) (X : Nat → Nat) (w : World) (hX : Rd w xa n X) (hn : n ≤ 1048576) :
    Calls Try.prog 66 #[.slice xa n cap] w fun e w' => e = .returned (.bool (finL X n)) ∧ ∃ m, w' = w.drewN m := by
  go_enter Try.func66, Try.ntmps66
  go_wp2_with (first | (go_at_call 87; refine (indexFunc_any _ _ _ X _ hX hn).mono ?_; rintro e w' ⟨r, rfl, hr, hd, m, rfl⟩) | go_in)
  go_ret
  exact ⟨ret_bool (by simp_all), _, rfl⟩
end Go.Proofs.Ytogmcinaoemnpab
