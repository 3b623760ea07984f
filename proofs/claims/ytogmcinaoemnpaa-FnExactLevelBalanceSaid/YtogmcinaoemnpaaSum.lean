
/- Of any list of numbers, and of any two, the program tells the sum and the sum of the products just where the model tells them, and the same; the lists are not changed: for all arguments. -/
import Derived.Test.YtogmcinaoemnpaaSame
import Derived.Test.YtogmcinaoemnpaaDot
namespace Go.Proofs.Ytogmcinaoemnpaa
open Go Go.ChangeShapes Go.WideShapes Go.ChangeAt Go.RowKit

def sumW (X : Nat → Nat) : Nat → Nat
  | 0 => 0
  | k + 1 => fbin .add .f32 (sumW X k) (X k)
theorem sumW_succ (X : Nat → Nat) (k : Nat) : fbin .add .f32 (sumW X k) (X k) = sumW X (k + 1) := rfl
set_option maxHeartbeats 1600000 in
theorem SumNumbers_any (xa : Option Addr) (n cx : Nat) (X : Nat → Nat) (w : World) (hX : Rd w xa n X) (hn : n ≤ 256) :
    Calls Try.prog 95 #[.slice xa n cx] w (NumRet (sumW X n) true w) := by
  obtain ⟨xb, xo, hxa, hcx⟩ := hX
  have HX := Lib.hid hcx
  clear hcx
  go_enter Try.func95, Try.ntmps95
  go_wp2
  go_loopw [4, 12] (fun q i wr => ∃ k m s : Nat, k ≤ n ∧ i = .int .i64 k ∧ wr = w.drewN m ∧ q = .float .f32 (pick .f32 (sumW X k) s)) (fun _ i _ => n - (intOf i).toNat)
  case atStart => exact ⟨0, 0, 0, Nat.zero_le _, rfl, rfl, by rw [show sumW X 0 = 0 from rfl, pick_zero]⟩
  case round =>
    obtain ⟨k, m, s, hk, rfl, rfl, rfl⟩ := hrel
    by_cases hlt : k < n
    · have e := hxa (by omega)
      subst e
      have h1 := HX.out k hlt
      have hp := fbin_pick_l .add .f32
      have hd := sumW_succ X k
      obtain ⟨D, hD⟩ : ∃ D, D = sumW X k := ⟨_, rfl⟩
      rw [← hD] at hd
      have HD := Lib.hid hD
      have HE := Lib.hid hd
      rw [← HD.out]
      clear hD hd
      go_wp2_with ((with_reducible refine wpL_fbin ?_); refine ⟨_, _, _, rfl, rfl, rfl, fun s n => ?_⟩)
      go_roundw
      case rel => exact ⟨k + 1, _, _, by omega, by go_num, rfl, by rw [HE.out]⟩
      case measure => simp [intOf]; omega
    · have hkn : k = n := by omega
      subst hkn
      go_wp2
      go_ret2
      exact ⟨s, m, rfl, rfl⟩
theorem SumNumbers_no (xa : Option Addr) (n cx : Nat) (w : World) (h : 256 < n) (hn : n ≤ 1048576) :
    Calls Try.prog 95 #[.slice xa n cx] w (NumRet 0 false w) := by
  have h' : (256 : Int) < (n : Int) := by omega
  clear h
  go_enter Try.func95, Try.ntmps95
  go_wp2
  go_ret2
  exact NumRet.no w
/-- Both sides of a law, told as one: what they tell, and whether. -/
theorem conv_same (R s t : Nat) : canon .f64 (pick .f64 (fconv .f32 (pick .f32 R s) .f64) t) = canon .f64 (fconv .f32 R .f64) := by rw [canon_pick, fconv_pick]
end Go.Proofs.Ytogmcinaoemnpaa
