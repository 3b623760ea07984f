
/- A number put behind a list that the call makes; numbers that are finite and greater than 0; a list told if all of it is finite. -/
import Derived.Test.YtogmcinaoemnpabOut
namespace Go.Proofs.Ytogmcinaoemnpab
open Go Go.ChangeShapes Go.WideShapes Go.ChangeAt Go.RowKit

theorem wpL_push {B : Nat} {i0 : TypeInfo} (hi : Try.prog.info? 36 = some i0) (hz0 : i0.zero = some (.float .f32 0)) (hz1 : i0.size = 1) (hz2 : i0.bytes = 4)
    {w0 : World} {u : Nat} {ops : Array Oper} {rest : List Oper} {o : Oper} {a : Act} {Q : Exit → Act → World → Prop} (hgd : o.guard = none) {s x : Operand}
    (ho : o.op = .call { callee := .builtin .append, args := #[s, x], argTypes := #[35, 35] }) {v : Value} {n : Nat} {X : Nat → Nat} (hs : a.eval s = v) (hx : a.eval x = .slice (some ⟨w0.heap.size, 0, none⟩) 1 1)
    (hown : w0.ownsRow B 36 1 v n (rowOf X n)) (hn : n ≤ 1048576) (hB : B ≤ w0.heap.size)
    (h : ∀ v' w', w'.ownsRow B 36 1 v' (n + 1) (rowOf (fun j => if j = n then u else X j) (n + 1)) → Below B w0 w' → wpList Try.prog ops Q rest (a.put o.dst v') w') :
    wpList Try.prog ops Q (o :: rest) a (w0.alloc (.cells #[.float .f32 u] 36)) := by
  refine wpList_append_own _ hgd s x 35 ho B 36 i0 (.float .f32 0) 1 4 Try.underlying35 hi hz0 hz1 hz2 rfl (by decide) v n (rowOf X n) hs (hown.alloc _) ⟨w0.heap.size, 0, none⟩ 1 1 [.float .f32 u] hx rfl ?_ ?_ (by unfold maxLen; omega) (by omega) ?_ ?_
  · intro j c hj
    match j, hj with
    | 0, hj => simp at hj; subst hj; simp [Addr.add]
  · intro c hc
    simp at hc
    subst hc
    rfl
  · have : (w0.alloc (.cells #[.float .f32 u] 36)).heap.size = w0.heap.size + 1 := by simp
    omega
  · intro v' w' h1 h2 _
    rw [row_push] at h1
    refine h v' w' h1 ?_
    refine ((Below.refl B w0).alloc hB _).grown h2 ?_ (fun k hk => (hown.lt k hk).1)
    have : (w0.alloc (.cells #[.float .f32 u] 36)).heap.size = w0.heap.size + 1 := by simp
    omega
/-- An empty list that is not nil. -/
theorem own_empty (w : World) (X : Nat → Nat) : (w.alloc (.cells #[] 36)).ownsRow w.heap.size 36 1 (.slice (some ⟨w.heap.size, 0, none⟩) 0 0) 0 (rowOf X 0) :=
  World.ownsRow_made w #[] 0 (Nat.le_refl _) (Nat.zero_le _) rfl
def isP (x : Nat) : Bool := isFin .f32 x && (FloatKind.f32.format.order x 0 == some .gt)
end Go.Proofs.Ytogmcinaoemnpab
