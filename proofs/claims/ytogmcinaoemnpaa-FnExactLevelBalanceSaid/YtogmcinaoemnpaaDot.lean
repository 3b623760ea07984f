
/- The sum of the products of two rows, as the model makes it, and as the program does. -/
import Derived.Test.YtogmcinaoemnpaaFinL
namespace Go.Proofs.Ytogmcinaoemnpaa
open Go Go.ChangeShapes Go.WideShapes Go.ChangeAt Go.RowKit

def dotW (X Y : Nat → Nat) : Nat → Nat
  | 0 => 0
  | k + 1 => fbin .add .f32 (dotW X Y k) (fbin .mul .f32 (X k) (Y k))
theorem dotW_succ (X Y : Nat → Nat) (k : Nat) : fbin .add .f32 (dotW X Y k) (fbin .mul .f32 (X k) (Y k)) = dotW X Y (k + 1) := rfl
/-- A number and a bool; where the number is a not-a-number, any. -/
def NumRet (R : Nat) (ok : Bool) (w : World) (e : Ending) (w' : World) : Prop := ∃ s m, e = .returned (.tuple #[.float .f32 (pick .f32 R s), .bool ok]) ∧ w' = w.drewN m
def FltRet (R : Nat) (w : World) (e : Ending) (w' : World) : Prop := ∃ s m, e = .returned (.float .f32 (pick .f32 R s)) ∧ w' = w.drewN m
theorem pick_zero (s : Nat) : pick .f32 0 s = 0 := pick_num (by decide +kernel) s
theorem NumRet.no (w : World) : NumRet 0 false w (.returned (.tuple #[.float .f32 0, .bool false])) w := ⟨0, 0, by rw [pick_zero], rfl⟩
theorem mul32_run (t : TypeId) (x y : Nat) (w : World) : (binOp .mul t (.float .f32 x) (.float .f32 y)).run Try.prog w = .ok (.float .f32 (pick .f32 (fbin .mul .f32 x y) (sdb w .f32 x y))) (w.drewN (nd .f32 (fbin .mul .f32 x y))) := run_binop rfl t .f32 x y w
theorem add32_run (t : TypeId) (x y : Nat) (w : World) : (binOp .add t (.float .f32 x) (.float .f32 y)).run Try.prog w = .ok (.float .f32 (pick .f32 (fbin .add .f32 x y) (sdb w .f32 x y))) (w.drewN (nd .f32 (fbin .add .f32 x y))) := run_binop rfl t .f32 x y w
theorem l02Number_any (x : Nat) (w : World) : Calls Try.prog 119 #[.float .f32 x] w fun e w' => e = .returned (.tuple #[.float .f32 (if isFin .f32 x = true then x else 0), .bool (isFin .f32 x)]) ∧ ∃ m, w' = w.drewN m := by
  cases hf : isFin .f32 x
  · go_enter Try.func119, Try.ntmps119
    go_wp2_with (go_at_call 117; refine (l01Finite_any _ _).mono ?_; rintro e w' ⟨rfl, q, rfl⟩)
    go_ret2
    exact ⟨rfl, _, rfl⟩
  · go_enter Try.func119, Try.ntmps119
    go_wp2_with (go_at_call 117; refine (l01Finite_any _ _).mono ?_; rintro e w' ⟨rfl, q, rfl⟩)
    go_ret2
    exact ⟨rfl, _, rfl⟩
set_option maxHeartbeats 1600000 in
theorem DotNumbers_any (xa ya : Option Addr) (n cx cy : Nat) (X Y : Nat → Nat) (w : World) (hX : Rd w xa n X) (hY : Rd w ya n Y) (hn : n ≤ 256) :
    Calls Try.prog 126 #[.slice xa n cx, .slice ya n cy] w (NumRet (dotW X Y n) true w) := by
  obtain ⟨xb, xo, hxa, hcx⟩ := hX
  obtain ⟨yb, yo, hya, hcy⟩ := hY
  have HX := Lib.hid hcx
  have HY := Lib.hid hcy
  clear hcx hcy
  go_enter Try.func126, Try.ntmps126
  go_wp2
  go_loopw [6, 21] (fun q i wr => ∃ k m s : Nat, k ≤ n ∧ i = .int .i64 k ∧ wr = w.drewN m ∧ q = .float .f32 (pick .f32 (dotW X Y k) s)) (fun _ i _ => n - (intOf i).toNat)
  case atStart => exact ⟨0, 0, 0, Nat.zero_le _, rfl, rfl, by rw [show dotW X Y 0 = 0 from rfl, pick_zero]⟩
  case round =>
    obtain ⟨k, m, s, hk, rfl, rfl, rfl⟩ := hrel
    by_cases hlt : k < n
    · have e := hxa (by omega)
      subst e
      have e := hya (by omega)
      subst e
      have h1 := HX.out k hlt
      have h2 := HY.out k hlt
      have hp := fbin_pick_l .add .f32
      have hq := fbin_pick_r .add .f32
      have hd := dotW_succ X Y k
      obtain ⟨D, hD⟩ : ∃ D, D = dotW X Y k := ⟨_, rfl⟩
      rw [← hD] at hd
      have HD := Lib.hid hD
      have HE := Lib.hid hd
      rw [← HD.out]
      clear hD hd
      go_wp2_with ((with_reducible refine wpL_fbin ?_); refine ⟨_, _, _, rfl, rfl, rfl, fun s n => ?_⟩)
      go_roundw
      case rel => exact ⟨k + 1, _, _, by omega, by go_num, rfl, by rw [HE.out]⟩
      case measure => simp [intOf]; omega
    · have hkn : k = n := by omega
      subst hkn
      go_wp2
      go_ret2
      exact ⟨s, m, rfl, rfl⟩
theorem DotNumbers_no (xa ya : Option Addr) (n n' cx cy : Nat) (w : World) (h : 256 < n ∨ n ≠ n') (hn : n ≤ 1048576) :
    Calls Try.prog 126 #[.slice xa n cx, .slice ya n' cy] w (NumRet 0 false w) := by
  by_cases h1 : 256 < n
  · have h1' : (256 : Int) < (n : Int) := by omega
    have hd : decide ((256 : Int) < (n : Int)) = true := by simpa using h1'
    clear h h1
    go_enter Try.func126, Try.ntmps126
    go_wp2
    go_ret2
    exact NumRet.no w
  · have h2 : ¬ n = n' := by omega
    have h3 : ((n : Int) != (n' : Int)) = true := by simpa using (by omega : ¬ (n : Int) = (n' : Int))
    have h1' : (n : Int) ≤ (256 : Int) := by omega
    clear h h1
    go_enter Try.func126, Try.ntmps126
    go_wp2
    go_ret2
    exact NumRet.no w
end Go.Proofs.Ytogmcinaoemnpaa
