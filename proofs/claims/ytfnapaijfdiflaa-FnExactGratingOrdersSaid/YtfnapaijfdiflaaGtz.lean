/- Whether all numbers of a row are finite and greater than zero, as the program asks it. -/
import Derived.Test.YtfnapaijfdiflaaFinL
import Derived.Test.YtfnapaijfdiflaaGeA
namespace Go.Proofs.Ytfnapaijfdiflaa
open Go Go.ChangeShapes Go.WideShapes Go.ChangeAt Go.RowKit

def pL (X : Nat → Nat) (n : Nat) : Bool := (List.range n).all fun i => isP (X i)
theorem pL_no {X : Nat → Nat} {n k : Nat} (hk : k < n) (h : isP (X k) = false) : pL X n = false := by
  unfold pL
  rw [List.all_eq_false]
  exact ⟨k, List.mem_range.2 hk, by simp [h]⟩
theorem pL_yes {X : Nat → Nat} {n : Nat} (h : ∀ k, k < n → isP (X k) = true) : pL X n = true := by
  unfold pL
  rw [List.all_eq_true]
  exact fun k hk => h k (List.mem_range.1 hk)
theorem pL_at {X : Nat → Nat} {n : Nat} (h : pL X n = true) : ∀ k, k < n → isP (X k) = true := by
  unfold pL at h
  rw [List.all_eq_true] at h
  exact fun k hk => h k (List.mem_range.2 hk)
theorem areGtz1_any (x : Nat) (w : World) :
    Calls Try.prog 90 #[.float .f32 x] w fun e w' => e = .returned (.bool (!isP x)) ∧ ∃ m, w' = w.drewN m := by
  go_enter Try.func90, Try.ntmps90
  go_wp2_with (go_at_call 91; refine (isPositive_any _ _).mono ?_; rintro e w' ⟨rfl, q, rfl⟩)
  go_ret
  exact ⟨rfl, _, rfl⟩
/-- The index of the first number that is not greater than zero, or -1. -/
def FirstNP (w : World) (X : Nat → Nat) (n : Nat) (e : Ending) (w' : World) : Prop :=
  ∃ r : Int, e = .returned (.int .i64 r) ∧ -1 ≤ r ∧ decide (0 ≤ r) = !pL X n ∧ ∃ m, w' = w.drewN m
set_option maxHeartbeats 800000 in
theorem indexNP_any (xa : Option Addr) (n cap : Nat) (X : Nat → Nat) (w : World) (hX : Rd w xa n X) (hn : n ≤ 1048576) :
    Calls Try.prog 113 #[.slice xa n cap, .func (.func 90) #[] #[]] w (FirstNP w X n) := by
  obtain ⟨xb, xo, hxa, hcx⟩ := hX
  have HX := Lib.hid hcx
  clear hcx
  go_enter Try.func113, Try.ntmps113
  go_wp2
  go_loopw [8] (fun i wr => ∃ k m : Nat, k ≤ n ∧ i = .int .i64 k ∧ wr = w.drewN m ∧ Hid (∀ j, j < k → isP (X j) = true)) (fun i _ => n - (intOf i).toNat)
  case atStart => exact ⟨0, 0, Nat.zero_le _, rfl, rfl, Lib.hid fun j hj => absurd hj (Nat.not_lt_zero _)⟩
  case round =>
    obtain ⟨k, m, hk, rfl, rfl, HF⟩ := hrel
    by_cases hlt : k < n
    · have e := hxa (by omega)
      subst e
      have h1 := HX.out k hlt
      cases hf : isP (X k)
      · have HN := Lib.hid (pL_no hlt hf)
        go_wp2_with (go_at_call 90; refine (areGtz1_any _ _).mono ?_; rintro e w' ⟨rfl, q, rfl⟩)
        go_ret
        exact ⟨k, rfl, by omega, by rw [HN.out]; simp, _, rfl⟩
      · have HN := Lib.hid (show ∀ j, j < k + 1 → isP (X j) = true from fun j hj => by
          by_cases hj' : j < k
          · exact HF.out j hj'
          · rw [show j = k by omega]; exact hf)
        go_wp2_with (go_at_call 90; refine (areGtz1_any _ _).mono ?_; rintro e w' ⟨rfl, q, rfl⟩)
        go_roundw
        case rel => exact ⟨k + 1, _, by omega, by go_num, rfl, HN⟩
        case measure => simp [intOf]; omega
    · have hkn : k = n := by omega
      subst hkn
      have HN := Lib.hid (pL_yes HF.out)
      go_wp2
      go_ret
      exact ⟨-1, rfl, by omega, by rw [HN.out]; simp, m, rfl⟩
theorem areGtz_any (xa : Option Addr) (n cap : Nat) (X : Nat → Nat) (w : World) (hX : Rd w xa n X) (hn : n ≤ 1048576) :
    Calls Try.prog 51 #[.slice xa n cap] w fun e w' => e = .returned (.bool (pL X n)) ∧ ∃ m, w' = w.drewN m := by
  go_enter Try.func51, Try.ntmps51
  go_wp2_with (first | (go_at_call 113; refine (indexNP_any _ _ _ X _ hX hn).mono ?_; rintro e w' ⟨r, rfl, hr, hd, m, rfl⟩) | go_in)
  go_ret
  exact ⟨ret_bool (by simp_all), _, rfl⟩
theorem pL_two (a b : Nat) : pL (duo a b) 2 = (isP a && isP b) := by simp [pL, duo, List.range_succ]
theorem pL_fin {X : Nat → Nat} {n : Nat} (h : pL X n = true) : finL X n = true := finL_yes fun k hk => by
  have := pL_at h k hk
  unfold isP at this
  rw [Bool.and_eq_true] at this
  exact this.1
end Go.Proofs.Ytfnapaijfdiflaa
