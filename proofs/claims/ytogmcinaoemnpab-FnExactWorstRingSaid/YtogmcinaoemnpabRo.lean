
/- The operations on 32-bit numbers as rewrite rules, for regions that draw their order; four results. -/
import Derived.Test.YtogmcinaoemnpabLi
import Derived.Test.YtogmcinaoemnpabAbsW
namespace Go.Proofs.Ytogmcinaoemnpab
open Go Go.ChangeShapes Go.WideShapes Go.ChangeAt Go.RowKit

theorem run_quo32 (t : TypeId) (x y : Nat) (w : World) : (binOp .quo t (.float .f32 x) (.float .f32 y)).run Try.prog w = .ok (.float .f32 (pick .f32 (fbin .quo .f32 x y) (sdb w .f32 x y))) (w.drewN (nd .f32 (fbin .quo .f32 x y))) := run_binop rfl t .f32 x y w
theorem run_sub32 (t : TypeId) (x y : Nat) (w : World) : (binOp .sub t (.float .f32 x) (.float .f32 y)).run Try.prog w = .ok (.float .f32 (pick .f32 (fbin .sub .f32 x y) (sdb w .f32 x y))) (w.drewN (nd .f32 (fbin .sub .f32 x y))) := run_binop rfl t .f32 x y w
theorem run_mul32 (t : TypeId) (x y : Nat) (w : World) : (binOp .mul t (.float .f32 x) (.float .f32 y)).run Try.prog w = .ok (.float .f32 (pick .f32 (fbin .mul .f32 x y) (sdb w .f32 x y))) (w.drewN (nd .f32 (fbin .mul .f32 x y))) := run_binop rfl t .f32 x y w
theorem run_add32 (t : TypeId) (x y : Nat) (w : World) : (binOp .add t (.float .f32 x) (.float .f32 y)).run Try.prog w = .ok (.float .f32 (pick .f32 (fbin .add .f32 x y) (sdb w .f32 x y))) (w.drewN (nd .f32 (fbin .add .f32 x y))) := run_binop rfl t .f32 x y w
theorem drewN_zero (w : World) : w.drewN 0 = w := rfl
/-- An operation whose result is a number draws nothing. -/
theorem run_numop {op : BinOp} (har : isArith op = true) (t : TypeId) (x y D : Nat) (hD : fbin op .f32 x y = D) (hn : isNaN .f32 D = false) (w : World) : (binOp op t (.float .f32 x) (.float .f32 y)).run Try.prog w = .ok (.float .f32 D) w := by
  rw [run_binop har t .f32 x y w, hD, pick_num hn, nd, hn]
  rfl
theorem fin_read {x : Nat} (h : isFin .f32 x = true) : ∃ s m e, FloatKind.f32.format.read x = .number s m e := by
  unfold isFin at h
  have hd : FloatKind.f32.decode x = FloatKind.f32.format.read x := rfl
  rw [hd] at h
  cases hr : FloatKind.f32.format.read x with
  | nan s t => rw [hr] at h; cases h
  | infinity s => rw [hr] at h; cases h
  | number s m e => exact ⟨s, m, e, rfl⟩
theorem num_read {x : Nat} (h : isNaN .f32 x = false) : (∃ s, FloatKind.f32.format.read x = .infinity s) ∨ ∃ s m e, FloatKind.f32.format.read x = .number s m e := by
  unfold isNaN at h
  have hd : FloatKind.f32.decode x = FloatKind.f32.format.read x := rfl
  rw [hd] at h
  cases hr : FloatKind.f32.format.read x with
  | nan s t => rw [hr] at h; cases h
  | infinity s => exact .inl ⟨s, rfl⟩
  | number s m e => exact .inr ⟨s, m, e, rfl⟩
theorem some_num {op : BinOp} {x y : Nat} (h : (floatBits op .f32 x y).isSome = true) : isNaN .f32 (fbin op .f32 x y) = false := by
  unfold fbin
  cases hb : floatBits op .f32 x y with
  | none => rw [hb] at h; cases h
  | some r => exact floatBits_num hb
theorem nan_mul {x y : Nat} (hx : isFin .f32 x = true) (hy : isFin .f32 y = true) : isNaN .f32 (fbin .mul .f32 x y) = false := by
  obtain ⟨s, m, e, h1⟩ := fin_read hx
  obtain ⟨t, n, f, h2⟩ := fin_read hy
  apply some_num
  show (((FloatKind.f32.format.read x).product (FloatKind.f32.format.read y)).map FloatKind.f32.format.write).isSome = true
  rw [h1, h2]; rfl
theorem nan_add {x y : Nat} (hx : isNaN .f32 x = false) (hy : isFin .f32 y = true) : isNaN .f32 (fbin .add .f32 x y) = false := by
  obtain ⟨t, n, f, h2⟩ := fin_read hy
  apply some_num
  show (((FloatKind.f32.format.read x).sum (FloatKind.f32.format.read y)).map FloatKind.f32.format.write).isSome = true
  rcases num_read hx with ⟨s, h1⟩ | ⟨s, m, e, h1⟩ <;> rw [h1, h2] <;> rfl
theorem nan_sub {x y : Nat} (hx : isNaN .f32 x = false) (hy : isFin .f32 y = true) : isNaN .f32 (fbin .sub .f32 x y) = false := by
  obtain ⟨t, n, f, h2⟩ := fin_read hy
  apply some_num
  show (((FloatKind.f32.format.read x).sum (FloatKind.f32.format.read y).opposite).map FloatKind.f32.format.write).isSome = true
  rcases num_read hx with ⟨s, h1⟩ | ⟨s, m, e, h1⟩ <;> rw [h1, h2] <;> rfl
theorem nan_sub_l {x y : Nat} (hx : isFin .f32 x = true) (hy : isNaN .f32 y = false) : isNaN .f32 (fbin .sub .f32 x y) = false := by
  obtain ⟨t, n, f, h2⟩ := fin_read hx
  apply some_num
  show (((FloatKind.f32.format.read x).sum (FloatKind.f32.format.read y).opposite).map FloatKind.f32.format.write).isSome = true
  rcases num_read hy with ⟨s, h1⟩ | ⟨s, m, e, h1⟩ <;> rw [h1, h2] <;> rfl
theorem nan_mul_fin {x y : Nat} (hx : ∃ s m e, FloatKind.f32.format.read x = .number s m e ∧ m ≠ 0) (hy : isNaN .f32 y = false) : isNaN .f32 (fbin .mul .f32 x y) = false := by
  obtain ⟨s, m, e, h1, h0⟩ := hx
  apply some_num
  show (((FloatKind.f32.format.read x).product (FloatKind.f32.format.read y)).map FloatKind.f32.format.write).isSome = true
  rcases num_read hy with ⟨t, h2⟩ | ⟨t, n, f, h2⟩
  · rw [h1, h2]
    show ((if m = 0 then none else some (Ieee.Datum.infinity (t ^^ s))).map FloatKind.f32.format.write).isSome = true
    rw [if_neg h0]; rfl
  · rw [h1, h2]; rfl
theorem results_tmp4 {fn : Func} {t u v x : Tmp} (h : fn.results = #[.tmp t, .tmp u, .tmp v, .tmp x]) (tmps : Array Value) (P : Program) (w : World) :
    (results fn tmps).run P w = .ok (.tuple #[tmps.getD t undef, tmps.getD u undef, tmps.getD v undef, tmps.getD x undef]) w := by
  simp [results, h]
end Go.Proofs.Ytogmcinaoemnpab
