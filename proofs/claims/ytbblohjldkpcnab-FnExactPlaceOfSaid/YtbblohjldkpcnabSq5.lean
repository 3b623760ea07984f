
/- The sum of the squares of a list, as the program makes it (of XDot, for seats that lack the rest). -/
import Derived.Test.YtbblohjldkpcnabFinL
import Derived.Test.YtbblohjldkpcnabNu5
import Derived.Test.YtbblohjldkpcnabNf
import Derived.Test.YtbblohjldkpcnabOut
import Derived.Deep.QuietTactic
import Derived.Deep.RegionWith
namespace Go.Proofs.Ytbblohjldkpcnab
open Go Go.ChangeShapes Go.WideShapes Go.ChangeAt Go.RowKit

def FltRet (R : Nat) (w : World) (e : Ending) (w' : World) : Prop := ∃ s m, e = .returned (.float .f32 (pick .f32 R s)) ∧ w' = w.drewN m
theorem pick_zero (s : Nat) : pick .f32 0 s = 0 := pick_num (by decide +kernel) s
def dotW (X Y : Nat → Nat) : Nat → Nat
  | 0 => 0
  | k + 1 => fbin .add .f32 (dotW X Y k) (fbin .mul .f32 (X k) (Y k))
theorem dotW_succ (X Y : Nat → Nat) (k : Nat) : fbin .add .f32 (dotW X Y k) (fbin .mul .f32 (X k) (Y k)) = dotW X Y (k + 1) := rfl
theorem mul32_run (t : TypeId) (x y : Nat) (w : World) : (binOp .mul t (.float .f32 x) (.float .f32 y)).run Try.prog w = .ok (.float .f32 (pick .f32 (fbin .mul .f32 x y) (sdb w .f32 x y))) (w.drewN (nd .f32 (fbin .mul .f32 x y))) := run_binop rfl t .f32 x y w
theorem add32_run (t : TypeId) (x y : Nat) (w : World) : (binOp .add t (.float .f32 x) (.float .f32 y)).run Try.prog w = .ok (.float .f32 (pick .f32 (fbin .add .f32 x y) (sdb w .f32 x y))) (w.drewN (nd .f32 (fbin .add .f32 x y))) := run_binop rfl t .f32 x y w
set_option maxHeartbeats 1600000 in
theorem sumSq_any (xa : Option Addr) (n cx : Nat) (X : Nat → Nat) (w : World) (hX : Rd w xa n X) (hn : n ≤ 1048576) :
    Calls Try.prog 190 #[.slice xa n cx] w (FltRet (dotW X X n) w) := by
  obtain ⟨xb, xo, hxa, hcx⟩ := hX
  have HX := Lib.hid hcx
  clear hcx
  go_enter Try.func190, Try.ntmps190
  go_wp2
  go_loopw [3, 8] (fun q i wr => ∃ k m s : Nat, k ≤ n ∧ i = .int .i64 k ∧ wr = w.drewN m ∧ q = .float .f32 (pick .f32 (dotW X X k) s)) (fun _ i _ => n - (intOf i).toNat)
  case atStart => exact ⟨0, 0, 0, Nat.zero_le _, rfl, rfl, by rw [show dotW X X 0 = 0 from rfl, pick_zero]⟩
  case round =>
    obtain ⟨k, m, s, hk, rfl, rfl, rfl⟩ := hrel
    by_cases hlt : k < n
    · have e := hxa (by omega)
      subst e
      have h1 := HX.out k hlt
      have hp := fbin_pick_l .add .f32
      have hq := fbin_pick_r .add .f32
      have hd := dotW_succ X X k
      obtain ⟨D, hD⟩ : ∃ D, D = dotW X X k := ⟨_, rfl⟩
      rw [← hD] at hd
      have HD := Lib.hid hD
      have HE := Lib.hid hd
      rw [← HD.out]
      clear hD hd
      go_wp2_with ((with_reducible refine wpL_fbin ?_); refine ⟨_, _, _, rfl, rfl, rfl, fun s n => ?_⟩)
      go_roundw
      case rel => exact ⟨k + 1, _, _, by omega, by go_num, rfl, by rw [← HE.out]⟩
      case measure => simp [intOf]; omega
    · have hkn : k = n := by omega
      subst hkn
      go_wp2
      go_ret
      exact ⟨s, m, rfl, rfl⟩
/-- A sum of squares, one of which is no number. -/
theorem nf_dot {X : Nat → Nat} {j : Nat} (h : isFin .f32 (X j) = false) : ∀ n, j < n → isFin .f32 (dotW X X n) = false := by
  intro n
  induction n with
  | zero => intro h; omega
  | succ n ih =>
    intro hj
    by_cases e : j = n
    · subst e; exact nf_add_r (nf_sq h)
    · exact nf_add_l (ih (by omega))
theorem dotW_like {V r : Nat → Nat} : ∀ n, Like V r n → dotW V V n = dotW r r n := by
  intro n
  induction n with
  | zero => intro _; rfl
  | succ n ih =>
    intro h
    have h1 := h n (Nat.lt_succ_self n)
    show fbin .add .f32 (dotW V V n) (fbin .mul .f32 (V n) (V n)) = fbin .add .f32 (dotW r r n) (fbin .mul .f32 (r n) (r n))
    rw [ih (fun j hj => h j (by omega)), fbin_congr h1 h1]
end Go.Proofs.Ytbblohjldkpcnab
