/- Lists of 1 to 128 finite numbers: as the model asks it, and as the program does. -/
import Derived.Test.YtbblohjldkpcnabNu5
import Derived.Test.YtbblohjldkpcnabFinL
import Derived.Test.YtbblohjldkpcnabIn
namespace Go.Proofs.Ytbblohjldkpcnab
open Go Go.ChangeShapes Go.WideShapes Go.ChangeAt Go.RowKit

def okLst (X : Nat → Nat) (n : Nat) : Bool := finL X n && inB (n : Int) 1 128
theorem okLst_at {X : Nat → Nat} {n : Nat} (h : okLst X n = true) : finL X n = true ∧ 1 ≤ n ∧ n ≤ 128 := by
  unfold okLst at h
  rw [Bool.and_eq_true] at h
  have := inB_rng h.2
  exact ⟨h.1, by omega, by omega⟩
set_option maxRecDepth 100000 in
set_option maxHeartbeats 1600000 in
theorem specLst_any (xa : Option Addr) (n cap : Nat) (X : Nat → Nat) (w : World) (hX : Rd w xa n X) (hn : n ≤ 1048576) (b : Bool) (hb : Hid (b = okLst X n)) :
    Calls Try.prog 76 #[.slice xa n cap] w fun e w' => e = .returned (.bool b) ∧ ∃ m, w' = w.drewN m := by
  obtain ⟨xb, xo, hxa, hcx⟩ := hX
  have HX := Lib.hid hcx
  clear hcx
  go_enter Try.func76, Try.ntmps76
  go_wp2
  go_loopw [6] (fun i wr => ∃ k m : Nat, k ≤ n ∧ i = .int .i64 k ∧ wr = w.drewN m ∧ Hid (∀ j, j < k → isFin .f32 (X j) = true)) (fun i _ => n - (intOf i).toNat)
  case atStart => exact ⟨0, 0, Nat.zero_le _, rfl, rfl, Lib.hid fun j hj => absurd hj (Nat.not_lt_zero _)⟩
  case round =>
    obtain ⟨k, m, hk, rfl, rfl, HF⟩ := hrel
    by_cases hlt : k < n
    · have e := hxa (by omega)
      subst e
      have h1 := HX.out k hlt
      cases hf : isFin .f32 (X k)
      · have HN := Lib.hid (show b = false by rw [hb.out, okLst, finL_no hlt hf]; rfl)
        clear hb
        go_wp2_with (go_at_call 82; refine (l01Finite_any _ _).mono ?_; rintro e w' ⟨rfl, q, rfl⟩)
        go_ret
        exact ⟨ret_bool HN.out.symm, _, rfl⟩
      · have HN := Lib.hid (show ∀ j, j < k + 1 → isFin .f32 (X j) = true from fun j hj => by
          by_cases hj' : j < k
          · exact HF.out j hj'
          · rw [show j = k by omega]; exact hf)
        go_wp2_with (go_at_call 82; refine (l01Finite_any _ _).mono ?_; rintro e w' ⟨rfl, q, rfl⟩)
        go_roundw
        case rel => exact ⟨k + 1, _, by omega, by go_num, rfl, HN⟩
        case measure => simp [intOf]; omega
    · have hkn : k = n := by omega
      subst hkn
      have HN := Lib.hid (show b = inB (k : Int) 1 128 by rw [hb.out, okLst, finL_yes HF.out]; rfl)
      clear hb
      by_cases h3 : 1 ≤ k
      · by_cases h4 : k ≤ 128
        · have HQ := Lib.hid (show true = b by rw [HN.out, inB_yes (by omega) (by omega)])
          have d2 : decide ((k : Int) ≤ 128) = true := decide_eq_true (by omega)
          go_wp2
          go_ret
          exact ⟨ret_bool HQ.out, m, rfl⟩
        · have HQ := Lib.hid (show false = b by rw [HN.out, inB_hi (by omega)])
          have d2 : decide ((k : Int) ≤ 128) = false := decide_eq_false (by omega)
          go_wp2
          go_ret
          exact ⟨ret_bool HQ.out, m, rfl⟩
      · have HQ := Lib.hid (show false = b by rw [HN.out, inB_lo (by omega)])
        go_wp2
        go_ret
        exact ⟨ret_bool HQ.out, m, rfl⟩
set_option maxRecDepth 100000 in
set_option maxHeartbeats 1600000 in
theorem implLst_any (xa : Option Addr) (n cap : Nat) (X : Nat → Nat) (w : World) (hX : Rd w xa n X) (hn : n ≤ 1048576) (b : Bool) (hb : Hid (b = okLst X n)) :
    Calls Try.prog 79 #[.slice xa n cap] w fun e w' => e = .returned (.bool b) ∧ ∃ m, w' = w.drewN m := by
  by_cases h3 : 1 ≤ n
  · by_cases h4 : n ≤ 128
    · have HQ := Lib.hid (show finL X n = b by rw [hb.out, okLst, inB_yes (by omega) (by omega), Bool.and_true])
      have d2 : decide ((n : Int) ≤ 128) = true := decide_eq_true (by omega)
      clear hb
      go_enter Try.func79, Try.ntmps79
      go_wp2_with (go_at_call 123; refine (allFinite_any _ _ _ X _ hX hn).mono ?_; rintro e w' ⟨rfl, q, rfl⟩)
      go_ret
      exact ⟨ret_bool HQ.out, _, rfl⟩
    · have HQ := Lib.hid (show false = b by rw [hb.out, okLst, inB_hi (by omega), Bool.and_false])
      have d2 : decide ((n : Int) ≤ 128) = false := decide_eq_false (by omega)
      clear hb hX
      go_enter Try.func79, Try.ntmps79
      go_wp2
      go_ret
      exact ⟨ret_bool HQ.out, 0, rfl⟩
  · have HQ := Lib.hid (show false = b by rw [hb.out, okLst, inB_lo (by omega), Bool.and_false])
    clear hb hX
    go_enter Try.func79, Try.ntmps79
    go_wp2
    go_ret
    exact ⟨ret_bool HQ.out, 0, rfl⟩
end Go.Proofs.Ytbblohjldkpcnab
