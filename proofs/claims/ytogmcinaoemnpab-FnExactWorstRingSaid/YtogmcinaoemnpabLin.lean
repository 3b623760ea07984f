
/- Lines (three numbers and a kind) as arguments; what the laws' own copying of them gives; whether a line is valid, as the model asks it and as the program does. -/
import Derived.Test.YtogmcinaoemnpabNu5
import Derived.Test.YtogmcinaoemnpabLaw
import Derived.Test.YtogmcinaoemnpabInt
import Derived.Lib.SmallJoins
namespace Go.Proofs.Ytogmcinaoemnpab
open Go Go.ChangeShapes Go.WideShapes Go.ChangeAt Go.RowKit

section
variable {H : Type} {enc : TypeId × Value → H} {w : World} {base : Nat} {spare : Nat → Bool} {held : Bool}
end
def LinRet (a b c : Nat) (k : Int) (w : World) (e : Ending) (w' : World) : Prop := e = .returned (.agg #[.float .f32 a, .float .f32 b, .float .f32 c, .int .i64 k]) ∧ Below w.heap.size w w'
theorem run_store_i64 (a : Addr) (x : Int) (m : Mode) (w : World) : (store a (.int .i64 x) m).run Try.prog w = stored Try.prog w a (.int .i64 x) m := run_store _ w a _ m rfl
/-- A line that lies in memory. -/
def LnAt (w : World) (b o : Nat) (x y z : Nat) (k : Int) : Prop := w.cell? ⟨b, o, none⟩ = some (.float .f32 x) ∧ w.cell? ⟨b, o + 1, none⟩ = some (.float .f32 y) ∧ w.cell? ⟨b, o + 2, none⟩ = some (.float .f32 z) ∧ w.cell? ⟨b, o + 3, none⟩ = some (.int .i64 k)
theorem LnAt.below {w w' : World} {b o x y z : Nat} {k : Int} (h : LnAt w b o x y z k) (hb : Below w.heap.size w w') : LnAt w' b o x y z k :=
  ⟨(hb.cell (p := ⟨b, o, none⟩) (World.block_lt_of_cell? w _ h.1)).trans h.1, (hb.cell (p := ⟨b, o + 1, none⟩) (World.block_lt_of_cell? w _ h.2.1)).trans h.2.1,
   (hb.cell (p := ⟨b, o + 2, none⟩) (World.block_lt_of_cell? w _ h.2.2.1)).trans h.2.2.1, (hb.cell (p := ⟨b, o + 3, none⟩) (World.block_lt_of_cell? w _ h.2.2.2)).trans h.2.2.2⟩
theorem lnAt_alloc (w : World) (x y z : Nat) (k : Int) (t : TypeId) : LnAt (w.alloc (.cells #[.float .f32 x, .float .f32 y, .float .f32 z, .int .i64 k] t)) w.heap.size 0 x y z k := ⟨by simp, by simp, by simp, by simp⟩
/-- A variable that is a line. -/
def LnBox (w : World) (b : Nat) (x y z : Nat) (k : Int) : Prop := w.cell? ⟨b, 0, none⟩ = some (.float .f32 x) ∧ w.cell? ⟨b, 1, none⟩ = some (.float .f32 y) ∧ w.cell? ⟨b, 2, none⟩ = some (.float .f32 z) ∧ w.cell? ⟨b, 3, none⟩ = some (.int .i64 k)
theorem LnBox.at {w : World} {b x y z : Nat} {k : Int} (h : LnBox w b x y z k) : LnAt w b 0 x y z k := h
theorem LnBox.below {w w' : World} {b x y z : Nat} {k : Int} (h : LnBox w b x y z k) (hb : Below w.heap.size w w') : LnBox w' b x y z k := LnAt.below h.at hb
theorem lnBox_alloc (w : World) (x y z : Nat) (k : Int) (t : TypeId) : LnBox (w.alloc (.cells #[.float .f32 x, .float .f32 y, .float .f32 z, .int .i64 k] t)) w.heap.size x y z k := ⟨by simp, by simp, by simp, by simp⟩
def okLin (a b c : Nat) (k : Int) : Bool := (isFin .f32 a && isFin .f32 b) && isP c && inB k 0 3
theorem okLin_at {a b c : Nat} {k : Int} (h : okLin a b c k = true) : isFin .f32 a = true ∧ isFin .f32 b = true ∧ isP c = true ∧ 0 ≤ k ∧ k ≤ 3 := by
  simp only [okLin, Bool.and_eq_true] at h
  exact ⟨h.1.1.1, h.1.1.2, h.1.2, (inB_rng h.2).1, (inB_rng h.2).2⟩
end Go.Proofs.Ytogmcinaoemnpab
