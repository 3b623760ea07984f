
/- Whether all numbers of a row are finite, as the model of chapter 2 asks it. -/
import Derived.Test.YtogmcinaoemnpaaFinL
namespace Go.Proofs.Ytogmcinaoemnpaa
open Go Go.ChangeShapes Go.WideShapes Go.ChangeAt Go.RowKit

set_option maxHeartbeats 800000 in
theorem l02Finite_any (xa : Option Addr) (n cap : Nat) (X : Nat → Nat) (w : World) (hX : Rd w xa n X) (hn : n ≤ 1048576) :
    Calls Try.prog 93 #[.slice xa n cap] w fun e w' => e = .returned (.bool (finL X n)) ∧ ∃ m, w' = w.drewN m := by
  obtain ⟨xb, xo, hxa, hcx⟩ := hX
  have HX := Lib.hid hcx
  clear hcx
  go_enter Try.func93, Try.ntmps93
  go_wp2
  go_loopw [3] (fun i wr => ∃ k m : Nat, k ≤ n ∧ i = .int .i64 k ∧ wr = w.drewN m ∧ Hid (∀ j, j < k → isFin .f32 (X j) = true)) (fun i _ => n - (intOf i).toNat)
  case atStart => exact ⟨0, 0, Nat.zero_le _, rfl, rfl, Lib.hid fun j hj => absurd hj (Nat.not_lt_zero _)⟩
  case round =>
    obtain ⟨k, m, hk, rfl, rfl, HF⟩ := hrel
    by_cases hlt : k < n
    · have e := hxa (by omega)
      subst e
      have h1 := HX.out k hlt
      cases hf : isFin .f32 (X k)
      · have HN := Lib.hid (finL_no hlt hf)
        go_wp2_with (go_at_call 117; refine (l01Finite_any _ _).mono ?_; rintro e w' ⟨rfl, q, rfl⟩)
        go_ret
        exact ⟨ret_bool HN.out.symm, _, rfl⟩
      · have HN := Lib.hid (show ∀ j, j < k + 1 → isFin .f32 (X j) = true from fun j hj => by
          by_cases hj' : j < k
          · exact HF.out j hj'
          · rw [show j = k by omega]; exact hf)
        go_wp2_with (go_at_call 117; refine (l01Finite_any _ _).mono ?_; rintro e w' ⟨rfl, q, rfl⟩)
        go_roundw
        case rel => exact ⟨k + 1, _, by omega, by go_num, rfl, HN⟩
        case measure => simp [intOf]; omega
    · have hkn : k = n := by omega
      subst hkn
      have HN := Lib.hid (finL_yes HF.out)
      go_wp2
      go_ret
      exact ⟨ret_bool HN.out.symm, m, rfl⟩
end Go.Proofs.Ytogmcinaoemnpaa
