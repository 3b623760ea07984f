
/- The sum of two complex numbers, as the program makes it. -/
import Derived.Test.YtmpcalpapkedhaaSnp
namespace Go.Proofs.Ytmpcalpapkedhaa
set_option linter.all false
open Go Go.ChangeShapes Go.WideShapes Go.ChangeAt Go.RowKit

set_option maxHeartbeats 800000 in
theorem addComplex_any (a b c d : Nat) (w : World) : Calls Try.prog 84 #[.complex .f32 a b, .complex .f32 c d] w (RetC (fbin .add .f32 a c) (fbin .add .f32 b d) w) := by
  have hpl := fun op => fbin_pick_l op .f32
  have hpr := fun op => fbin_pick_r op .f32
  go_enter Try.func84, Try.ntmps84
  go_wp2_with (first | ((with_reducible refine wpL_fbin ?_); refine ⟨_, _, _, rfl, rfl, rfl, fun s n => ?_⟩))
  go_ret
  exact ⟨_, _, _, rfl, rfl⟩
/-- Whether a complex number is not finite: it less itself is not zero. -/
theorem odd_word (a b s t : Nat) : (!((FloatKind.f32.format.order (pick .f32 (fbin .sub .f32 a a) s) 0 == some .eq) && (FloatKind.f32.format.order (pick .f32 (fbin .sub .f32 b b) t) 0 == some .eq))) = !finP a b := by
  rw [order_pick_l, order_pick_l, sub_self, sub_self]
  rfl
set_option maxHeartbeats 800000 in
theorem vecOdd_any (a b : Nat) (w : World) : Calls Try.prog 217 #[.complex .f32 a b] w fun e w' => e = .returned (.bool (!finP a b)) ∧ ∃ m, w' = w.drewN m := by
  have HO := Lib.hid (odd_word a b)
  go_enter Try.func217, Try.ntmps217
  go_wp2_with (first | ((with_reducible refine wpL_csubC ?_); refine ⟨_, _, _, _, _, rfl, rfl, fun s u n => ?_⟩))
  go_ret
  exact ⟨ret_bool (by rw [← Bool.not_and]; exact HO.out _ _), _, rfl⟩
/-- The index of the first number that is not finite, or -1. -/
def FirstOddC (w : World) (X Y : Nat → Nat) (n : Nat) (e : Ending) (w' : World) : Prop :=
  ∃ r : Int, e = .returned (.int .i64 r) ∧ -1 ≤ r ∧ decide (0 ≤ r) = !finC X Y n ∧ ∃ m, w' = w.drewN m
set_option maxHeartbeats 800000 in
theorem indexOdd_any (xa : Option Addr) (n cap : Nat) (X Y : Nat → Nat) (w : World) (hX : RdC w xa n X Y) (hn : n ≤ 1048576) :
    Calls Try.prog 236 #[.slice xa n cap, .func (.func 217) #[] #[]] w (FirstOddC w X Y n) := by
  obtain ⟨xb, xo, hxa, hcx⟩ := hX
  have HX := Lib.hid hcx
  clear hcx
  go_enter Try.func236, Try.ntmps236
  go_wp2
  go_loopw [8] (fun i wr => ∃ k m : Nat, k ≤ n ∧ i = .int .i64 k ∧ wr = w.drewN m ∧ Hid (∀ j, j < k → finP (X j) (Y j) = true)) (fun i _ => n - (intOf i).toNat)
  case atStart => exact ⟨0, 0, Nat.zero_le _, rfl, rfl, Lib.hid fun j hj => absurd hj (Nat.not_lt_zero _)⟩
  case round =>
    obtain ⟨k, m, hk, rfl, rfl, HF⟩ := hrel
    by_cases hlt : k < n
    · have e := hxa (by omega)
      subst e
      have h1 := HX.out k hlt
      cases hf : finP (X k) (Y k)
      · have HN := Lib.hid (finC_no hlt hf)
        go_wp2_with (go_at_call 217; refine (vecOdd_any _ _ _).mono ?_; rw [hf]; rintro e w' ⟨rfl, q, rfl⟩)
        go_ret
        exact ⟨k, rfl, by omega, by rw [HN.out]; simp, _, rfl⟩
      · have HN := Lib.hid (show ∀ j, j < k + 1 → finP (X j) (Y j) = true from fun j hj => by
          by_cases hj' : j < k
          · exact HF.out j hj'
          · rw [show j = k by omega]; exact hf)
        go_wp2_with (go_at_call 217; refine (vecOdd_any _ _ _).mono ?_; rw [hf]; rintro e w' ⟨rfl, q, rfl⟩)
        go_roundw
        case rel => exact ⟨k + 1, _, by omega, by go_num, rfl, HN⟩
        case measure => simp [intOf]; omega
    · have hkn : k = n := by omega
      subst hkn
      have HN := Lib.hid (finC_yes HF.out)
      go_wp2
      go_ret
      exact ⟨-1, rfl, by omega, by rw [HN.out]; simp, m, rfl⟩
theorem vecFin_any (xa : Option Addr) (n cap : Nat) (X Y : Nat → Nat) (w : World) (hX : RdC w xa n X Y) (hn : n ≤ 1048576) :
    Calls Try.prog 160 #[.slice xa n cap] w fun e w' => e = .returned (.bool (finC X Y n)) ∧ ∃ m, w' = w.drewN m := by
  go_enter Try.func160, Try.ntmps160
  go_wp2_with (first | (go_at_call 236; refine (indexOdd_any _ _ _ X Y _ hX hn).mono ?_; rintro e w' ⟨r, rfl, hr, hd, m, rfl⟩) | go_in)
  go_ret
  exact ⟨ret_bool (by simp_all), _, rfl⟩
/-- What ifFinite tells. -/
theorem implGive_any (va : Value) (B n : Nat) (X Y : Nat → Nat) (w : World) (hown : w.ownsRow B 98 1 va n (rowC X Y n)) (hn : n ≤ 1048576) (ok : Bool) (hok : ok = finC X Y n) :
    Calls Try.prog 78 #[va] w fun e w' => e = .returned (.tuple #[if ok = true then va else .slice none 0 0, .bool ok]) ∧ ∃ m, w' = w.drewN m := by
  obtain ⟨xa, cap, rfl, _, _, hr⟩ := rdC_of_own hown
  have HF := Lib.hid (fun w hX => vecFin_any xa n cap X Y w hX hn)
  rw [← hok] at HF
  clear hown hok
  cases ok
  · go_enter Try.func78, Try.ntmps78
    go_wp2_with (go_at_call 160; refine (HF.out _ (by exact hr)).mono ?_; rintro e w' ⟨rfl, q, rfl⟩)
    go_ret2
    exact ⟨rfl, _, rfl⟩
  · go_enter Try.func78, Try.ntmps78
    go_wp2_with (go_at_call 160; refine (HF.out _ (by exact hr)).mono ?_; rintro e w' ⟨rfl, q, rfl⟩)
    go_ret2
    exact ⟨rfl, _, rfl⟩
theorem specGive_any (va : Value) (B n : Nat) (X Y : Nat → Nat) (w : World) (hown : w.ownsRow B 98 1 va n (rowC X Y n)) (hn : n ≤ 1048576) (ok : Bool) (hok : ok = finC X Y n) :
    Calls Try.prog 69 #[va] w fun e w' => e = .returned (.tuple #[if ok = true then va else .slice none 0 0, .bool ok]) ∧ ∃ m, w' = w.drewN m := by
  obtain ⟨xa, cap, rfl, _, _, hr⟩ := rdC_of_own hown
  have HF := Lib.hid (fun w hX => specCFins_any xa n cap X Y w hX hn)
  rw [← hok] at HF
  clear hown hok
  cases ok
  · go_enter Try.func69, Try.ntmps69
    go_wp2_with (go_at_call 144; refine (HF.out _ (by exact hr)).mono ?_; rintro e w' ⟨rfl, q, rfl⟩)
    go_ret2
    exact ⟨rfl, _, rfl⟩
  · go_enter Try.func69, Try.ntmps69
    go_wp2_with (go_at_call 144; refine (HF.out _ (by exact hr)).mono ?_; rintro e w' ⟨rfl, q, rfl⟩)
    go_ret2
    exact ⟨rfl, _, rfl⟩
end Go.Proofs.Ytmpcalpapkedhaa
