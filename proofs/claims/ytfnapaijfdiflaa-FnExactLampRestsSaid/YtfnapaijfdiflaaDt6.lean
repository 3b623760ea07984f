/- The sum of the products of two rows, as the model makes it, and the sum of the squares of one, as the program does (of XDot, for seats that lack the rest). -/
import Derived.Test.YtfnapaijfdiflaaSm6
import Derived.Test.YtfnapaijfdiflaaNf
import Derived.Deep.QuietTactic
namespace Go.Proofs.Ytfnapaijfdiflaa
open Go Go.ChangeShapes Go.WideShapes Go.ChangeAt Go.RowKit

def dotW (X Y : Nat → Nat) : Nat → Nat
  | 0 => 0
  | k + 1 => fbin .add .f32 (dotW X Y k) (fbin .mul .f32 (X k) (Y k))
theorem dotW_succ (X Y : Nat → Nat) (k : Nat) : fbin .add .f32 (dotW X Y k) (fbin .mul .f32 (X k) (Y k)) = dotW X Y (k + 1) := rfl
theorem mul32_run (t : TypeId) (x y : Nat) (w : World) : (binOp .mul t (.float .f32 x) (.float .f32 y)).run Try.prog w = .ok (.float .f32 (pick .f32 (fbin .mul .f32 x y) (sdb w .f32 x y))) (w.drewN (nd .f32 (fbin .mul .f32 x y))) := run_binop rfl t .f32 x y w
theorem add32_run (t : TypeId) (x y : Nat) (w : World) : (binOp .add t (.float .f32 x) (.float .f32 y)).run Try.prog w = .ok (.float .f32 (pick .f32 (fbin .add .f32 x y) (sdb w .f32 x y))) (w.drewN (nd .f32 (fbin .add .f32 x y))) := run_binop rfl t .f32 x y w
set_option maxHeartbeats 1600000 in
theorem l01Dot_any (xa ya : Option Addr) (n cx cy : Nat) (X Y : Nat → Nat) (w : World) (hX : Rd w xa n X) (hY : Rd w ya n Y) (hn : n ≤ 1048576) :
    Calls Try.prog 78 #[.slice xa n cx, .slice ya n cy] w (FltRet (dotW X Y n) w) := by
  obtain ⟨xb, xo, hxa, hcx⟩ := hX
  obtain ⟨yb, yo, hya, hcy⟩ := hY
  have HX := Lib.hid hcx
  have HY := Lib.hid hcy
  clear hcx hcy
  go_enter Try.func78, Try.ntmps78
  go_wp2
  go_loopw [5, 6] (fun q i wr => ∃ k m s : Nat, k ≤ n ∧ i = .int .i64 k ∧ wr = w.drewN m ∧ q = .float .f32 (pick .f32 (dotW X Y k) s)) (fun _ i _ => n - (intOf i).toNat)
  case atStart => exact ⟨0, 0, 0, Nat.zero_le _, rfl, rfl, by rw [show dotW X Y 0 = 0 from rfl, pick_zero]⟩
  case round =>
    obtain ⟨k, m, s, hk, rfl, rfl, rfl⟩ := hrel
    by_cases hlt : k < n
    · have e := hxa (by omega)
      subst e
      have e := hya (by omega)
      subst e
      have h1 := HX.out k hlt
      have h2 := HY.out k hlt
      have hm := mul32_run
      have ha := add32_run
      have hp := fbin_pick_l .add .f32
      have hq := fbin_pick_r .add .f32
      have hd := dotW_succ X Y k
      obtain ⟨D, hD⟩ : ∃ D, D = dotW X Y k := ⟨_, rfl⟩
      rw [← hD] at hd
      have HD := Lib.hid hD
      have HE := Lib.hid hd
      rw [← HD.out]
      clear hD hd
      go_wp2_with fail
      go_region_with fail
      all_goals go_wp2
      all_goals go_roundw
      all_goals first | exact ⟨k + 1, _, _, by omega, by go_num, rfl, by rw [← HE.out]⟩ | (simp [intOf]; omega)
    · have hkn : k = n := by omega
      subst hkn
      go_wp2
      go_ret
      exact ⟨s, m, rfl, rfl⟩
set_option maxHeartbeats 1600000 in
theorem sumSq_any (xa : Option Addr) (n cx : Nat) (X : Nat → Nat) (w : World) (hX : Rd w xa n X) (hn : n ≤ 1048576) :
    Calls Try.prog 80 #[.slice xa n cx] w (FltRet (dotW X X n) w) := by
  obtain ⟨xb, xo, hxa, hcx⟩ := hX
  have HX := Lib.hid hcx
  clear hcx
  go_enter Try.func80, Try.ntmps80
  go_wp2
  go_loopw [3, 8] (fun q i wr => ∃ k m s : Nat, k ≤ n ∧ i = .int .i64 k ∧ wr = w.drewN m ∧ q = .float .f32 (pick .f32 (dotW X X k) s)) (fun _ i _ => n - (intOf i).toNat)
  case atStart => exact ⟨0, 0, 0, Nat.zero_le _, rfl, rfl, by rw [show dotW X X 0 = 0 from rfl, pick_zero]⟩
  case round =>
    obtain ⟨k, m, s, hk, rfl, rfl, rfl⟩ := hrel
    by_cases hlt : k < n
    · have e := hxa (by omega)
      subst e
      have h1 := HX.out k hlt
      have hp := fbin_pick_l .add .f32
      have hq := fbin_pick_r .add .f32
      have hd := dotW_succ X X k
      obtain ⟨D, hD⟩ : ∃ D, D = dotW X X k := ⟨_, rfl⟩
      rw [← hD] at hd
      have HD := Lib.hid hD
      have HE := Lib.hid hd
      rw [← HD.out]
      clear hD hd
      go_wp2_with ((with_reducible refine wpL_fbin ?_); refine ⟨_, _, _, rfl, rfl, rfl, fun s n => ?_⟩)
      go_roundw
      case rel => exact ⟨k + 1, _, _, by omega, by go_num, rfl, by rw [← HE.out]⟩
      case measure => simp [intOf]; omega
    · have hkn : k = n := by omega
      subst hkn
      go_wp2
      go_ret
      exact ⟨s, m, rfl, rfl⟩
/-- A sum of squares, one of which is no number. -/
theorem nf_dot {X : Nat → Nat} {j : Nat} (h : isFin .f32 (X j) = false) : ∀ n, j < n → isFin .f32 (dotW X X n) = false := by
  intro n
  induction n with
  | zero => intro h; omega
  | succ n ih =>
    intro hj
    by_cases e : j = n
    · subst e; exact nf_add_r (nf_sq h)
    · exact nf_add_l (ih (by omega))
end Go.Proofs.Ytfnapaijfdiflaa
