
/- Whether all numbers of a vector are finite, and a vector told if they are: as the program of chapter 4 does it. -/
import Derived.Test.YtmpcalpapkedhaaFinL
import Derived.Test.YtmpcalpapkedhaaOut
namespace Go.Proofs.Ytmpcalpapkedhaa
open Go Go.ChangeShapes Go.WideShapes Go.ChangeAt Go.RowKit

theorem vecFin1_any (x : Nat) (w : World) :
    Calls Try.prog 229 #[.float .f32 x] w fun e w' => e = .returned (.bool (!isFin .f32 x)) ∧ ∃ m, w' = w.drewN m := by
  have h1 := sub_self .f32 x
  have hp := order_pick_l .f32
  go_enter Try.func229, Try.ntmps229
  go_wp2_with ((with_reducible refine wpL_fbin ?_); refine ⟨_, _, _, rfl, rfl, rfl, fun s n => ?_⟩)
  go_ret
  exact ⟨ret_bool (by simp [bne, h1]), _, rfl⟩
set_option maxHeartbeats 800000 in
theorem vecIndex_any (xa : Option Addr) (n cap : Nat) (X : Nat → Nat) (w : World) (hX : Rd w xa n X) (hn : n ≤ 1048576) :
    Calls Try.prog 251 #[.slice xa n cap, .func (.func 229) #[] #[]] w (FirstOdd w X n) := by
  obtain ⟨xb, xo, hxa, hcx⟩ := hX
  have HX := Lib.hid hcx
  clear hcx
  go_enter Try.func251, Try.ntmps251
  go_wp2
  go_loopw [8] (fun i wr => ∃ k m : Nat, k ≤ n ∧ i = .int .i64 k ∧ wr = w.drewN m ∧ Hid (∀ j, j < k → isFin .f32 (X j) = true)) (fun i _ => n - (intOf i).toNat)
  case atStart => exact ⟨0, 0, Nat.zero_le _, rfl, rfl, Lib.hid fun j hj => absurd hj (Nat.not_lt_zero _)⟩
  case round =>
    obtain ⟨k, m, hk, rfl, rfl, HF⟩ := hrel
    by_cases hlt : k < n
    · have e := hxa (by omega)
      subst e
      have h1 := HX.out k hlt
      cases hf : isFin .f32 (X k)
      · have HN := Lib.hid (finL_no hlt hf)
        go_wp2_with (go_at_call 229; refine (vecFin1_any _ _).mono ?_; rintro e w' ⟨rfl, q, rfl⟩)
        go_ret
        exact ⟨k, rfl, by omega, by rw [HN.out]; simp, _, rfl⟩
      · have HN := Lib.hid (show ∀ j, j < k + 1 → isFin .f32 (X j) = true from fun j hj => by
          by_cases hj' : j < k
          · exact HF.out j hj'
          · rw [show j = k by omega]; exact hf)
        go_wp2_with (go_at_call 229; refine (vecFin1_any _ _).mono ?_; rintro e w' ⟨rfl, q, rfl⟩)
        go_roundw
        case rel => exact ⟨k + 1, _, by omega, by go_num, rfl, HN⟩
        case measure => simp [intOf]; omega
    · have hkn : k = n := by omega
      subst hkn
      have HN := Lib.hid (finL_yes HF.out)
      go_wp2
      go_ret
      exact ⟨-1, rfl, by omega, by rw [HN.out]; simp, m, rfl⟩
theorem vecFin_any (xa : Option Addr) (n cap : Nat) (X : Nat → Nat) (w : World) (hX : Rd w xa n X) (hn : n ≤ 1048576) :
    Calls Try.prog 192 #[.slice xa n cap] w fun e w' => e = .returned (.bool (finL X n)) ∧ ∃ m, w' = w.drewN m := by
  go_enter Try.func192, Try.ntmps192
  go_wp2_with (first | (go_at_call 251; refine (vecIndex_any _ _ _ X _ hX hn).mono ?_; rintro e w' ⟨r, rfl, hr, hd, m, rfl⟩) | go_in)
  go_ret
  exact ⟨ret_bool (by simp_all), _, rfl⟩
theorem vecIf_rd (xa : Option Addr) (n cap : Nat) (X : Nat → Nat) (w : World) (hX : Rd w xa n X) (hn : n ≤ 1048576) :
    Calls Try.prog 194 #[.slice xa n cap] w fun e w' => e = .returned (.tuple #[if finL X n = true then .slice xa n cap else .slice none 0 0, .bool (finL X n)]) ∧ ∃ m, w' = w.drewN m := by
  cases hf : finL X n
  · go_enter Try.func194, Try.ntmps194
    go_wp2_with (go_at_call 192; refine (vecFin_any _ _ _ X _ hX hn).mono ?_; rintro e w' ⟨rfl, q, rfl⟩)
    go_ret2
    exact ⟨rfl, _, rfl⟩
  · go_enter Try.func194, Try.ntmps194
    go_wp2_with (go_at_call 192; refine (vecFin_any _ _ _ X _ hX hn).mono ?_; rintro e w' ⟨rfl, q, rfl⟩)
    go_ret2
    exact ⟨rfl, _, rfl⟩
theorem vecIf_any (v : Value) (B n : Nat) (X : Nat → Nat) (w : World) (hown : w.ownsRow B 22 1 v n (rowOf X n)) (hn : n ≤ 1048576) :
    Calls Try.prog 194 #[v] w fun e w' => e = .returned (.tuple #[if finL X n = true then v else .slice none 0 0, .bool (finL X n)]) ∧ ∃ m, w' = w.drewN m := by
  obtain ⟨xa, cap, rfl, _, _, hX⟩ := rd_of_own hown
  exact vecIf_rd _ _ _ X _ hX hn
end Go.Proofs.Ytmpcalpapkedhaa
