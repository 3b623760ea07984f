
/- Sums and differences of complex numbers, and whether one is zero, as steps of a walk. -/
import Derived.Test.YtmpcalpapkedhaaCxf
namespace Go.Proofs.Ytmpcalpapkedhaa
set_option linter.all false
open Go Go.ChangeShapes Go.WideShapes Go.ChangeAt Go.RowKit

theorem run_carith' {P : Program} (op : BinOp) (hop : op = .add ∨ op = .sub) (w : World) (k : FloatKind) (a b c d : Nat) : ∃ s t n, (Op.complexOp op k a b c d).run P w = .ok (.complex k (pick k (fbin op k a c) s) (pick k (fbin op k b d) t)) (w.drewN n) := by
  rcases hop with rfl | rfl
  · obtain ⟨s, n, h1⟩ := run_fbin (P := P) w (op := .add) rfl k a c
    obtain ⟨t, m, h2⟩ := run_fbin (P := P) (w.drewN n) (op := .add) rfl k b d
    refine ⟨s, t, n + m, ?_⟩
    simp [Op.complexOp, Op.Complex.arith, h1, h2]
  · obtain ⟨s, n, h1⟩ := run_fbin (P := P) w (op := .sub) rfl k a c
    obtain ⟨t, m, h2⟩ := run_fbin (P := P) (w.drewN n) (op := .sub) rfl k b d
    refine ⟨s, t, n + m, ?_⟩
    simp [Op.complexOp, Op.Complex.arith, h1, h2]
section
variable {P : Program} {w : World} {ops : Array Oper} {rest : List Oper} {a : Act} {Q : Exit → Act → World → Prop} {dst : Option Tmp} {ty : TypeId} {ps : String} {af : Array Edge}
theorem wpL_cadd {x y : Operand} {t yt : TypeId}
    (h : ∃ (k : FloatKind) (xr xi yr yi : Nat), a.eval x = .complex k xr xi ∧ a.eval y = .complex k yr yi ∧
      ∀ s u n, wpList P ops Q rest (a.put dst (.complex k (pick k (fbin .add k xr yr) s) (pick k (fbin .add k xi yi) u))) (w.drewN n)) :
    wpList P ops Q ({ dst := dst, op := .binOp .add t x y yt, type := ty, pos := ps, after := af, guard := none } :: rest) a w := by
  obtain ⟨k, xr, xi, yr, yi, hx, hy, hK⟩ := h
  refine wpList_plain rfl fun K' hK' => ?_
  obtain ⟨s, u, n, hrun⟩ := run_carith' (P := P) .add (.inl rfl) w k xr xi yr yi
  unfold Oper.wp
  have : (binOp .add t (.complex k xr xi) (.complex k yr yi)) = Op.complexOp .add k xr xi yr yi := by simp [binOp]
  have hq : eqGuard .add t x y (.complex k xr xi) (.complex k yr yi) = pure () := rfl
  simp [execOp, hx, hy, this, hq, hrun]
  exact hK' _ _ (hK s u n)
theorem wpL_csubC {x y : Operand} {t yt : TypeId}
    (h : ∃ (k : FloatKind) (xr xi yr yi : Nat), a.eval x = .complex k xr xi ∧ a.eval y = .complex k yr yi ∧
      ∀ s u n, wpList P ops Q rest (a.put dst (.complex k (pick k (fbin .sub k xr yr) s) (pick k (fbin .sub k xi yi) u))) (w.drewN n)) :
    wpList P ops Q ({ dst := dst, op := .binOp .sub t x y yt, type := ty, pos := ps, after := af, guard := none } :: rest) a w := by
  obtain ⟨k, xr, xi, yr, yi, hx, hy, hK⟩ := h
  refine wpList_plain rfl fun K' hK' => ?_
  obtain ⟨s, u, n, hrun⟩ := run_carith' (P := P) .sub (.inr rfl) w k xr xi yr yi
  unfold Oper.wp
  have : (binOp .sub t (.complex k xr xi) (.complex k yr yi)) = Op.complexOp .sub k xr xi yr yi := by simp [binOp]
  have hq : eqGuard .sub t x y (.complex k xr xi) (.complex k yr yi) = pure () := rfl
  simp [execOp, hx, hy, this, hq, hrun]
  exact hK' _ _ (hK s u n)
end
theorem cadd_run (t : TypeId) (a b c d : Nat) (w : World) : (binOp .add t (.complex .f32 a b) (.complex .f32 c d)).run Try.prog w =
    .ok (.complex .f32 (pick .f32 (fbin .add .f32 a c) (sdb w .f32 a c)) (pick .f32 (fbin .add .f32 b d) (sdb (w.drewN (nd .f32 (fbin .add .f32 a c))) .f32 b d))) ((w.drewN (nd .f32 (fbin .add .f32 a c))).drewN (nd .f32 (fbin .add .f32 b d))) := by
  have h1 := run_arith (P := Try.prog) (op := .add) rfl .f32 a c w
  have h2 := run_arith (P := Try.prog) (op := .add) rfl .f32 b d (w.drewN (nd .f32 (fbin .add .f32 a c)))
  have : (binOp .add t (.complex .f32 a b) (.complex .f32 c d)) = Op.complexOp .add .f32 a b c d := by simp [binOp]
  rw [this]
  simp [Op.complexOp, Op.Complex.arith, h1, h2]
end Go.Proofs.Ytmpcalpapkedhaa
