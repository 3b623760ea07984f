
/- The sum of a row, as the program makes it. -/
import Derived.Test.YtmpcalpapkedhaaFinL
namespace Go.Proofs.Ytmpcalpapkedhaa
open Go Go.ChangeShapes Go.WideShapes Go.ChangeAt Go.RowKit

def SumRet (R : Nat) (w : World) (e : Ending) (w' : World) : Prop := ∃ s m, e = .returned (.tuple #[.float .f32 (pick .f32 R s), .bool true]) ∧ w' = w.drewN m
def sumW (X : Nat → Nat) : Nat → Nat
  | 0 => 0
  | k + 1 => fbin .add .f32 (sumW X k) (X k)
theorem sumW_succ (X : Nat → Nat) (k : Nat) : fbin .add .f32 (sumW X k) (X k) = sumW X (k + 1) := rfl
set_option maxHeartbeats 1600000 in
theorem SumNumbers_any (xa : Option Addr) (n cx : Nat) (X : Nat → Nat) (w : World) (hX : Rd w xa n X) (hn : n ≤ 256) :
    Calls Try.prog 184 #[.slice xa n cx] w (SumRet (sumW X n) w) := by
  obtain ⟨xb, xo, hxa, hcx⟩ := hX
  have HX := Lib.hid hcx
  clear hcx
  go_enter Try.func184, Try.ntmps184
  go_wp2
  go_loopw [4, 12] (fun q i wr => ∃ k m s : Nat, k ≤ n ∧ i = .int .i64 k ∧ wr = w.drewN m ∧ q = .float .f32 (pick .f32 (sumW X k) s)) (fun _ i _ => n - (intOf i).toNat)
  case atStart => exact ⟨0, 0, 0, Nat.zero_le _, rfl, rfl, by rw [show sumW X 0 = 0 from rfl, pick_num (by decide +kernel)]⟩
  case round =>
    obtain ⟨k, m, s, hk, rfl, rfl, rfl⟩ := hrel
    by_cases hlt : k < n
    · have e := hxa (by omega)
      subst e
      have h1 := HX.out k hlt
      have hp := fbin_pick_l .add .f32
      have hd := sumW_succ X k
      obtain ⟨D, hD⟩ : ∃ D, D = sumW X k := ⟨_, rfl⟩
      rw [← hD] at hd
      have HD := Lib.hid hD
      have HE := Lib.hid hd
      rw [← HD.out]
      clear hD hd
      go_wp2_with ((with_reducible refine wpL_fbin ?_); refine ⟨_, _, _, rfl, rfl, rfl, fun s n => ?_⟩)
      go_roundw
      case rel => exact ⟨k + 1, _, _, by omega, by go_num, rfl, by rw [HE.out]⟩
      case measure => simp [intOf]; omega
    · have hkn : k = n := by omega
      subst hkn
      go_wp2
      go_ret2
      exact ⟨s, m, rfl, rfl⟩
end Go.Proofs.Ytmpcalpapkedhaa
