/- A number put behind a row of the call's own, as one step of a region that draws its order. -/
import Derived.Test.YtmpcalpapkedhaaPush
import Derived.Deep.AppendLies
import Derived.Deep.RegionLaw
namespace Go.Proofs.Ytmpcalpapkedhaa
open Go Go.ChangeShapes Go.WideShapes Go.ChangeAt Go.RowKit

theorem step_push {B : Nat} {i0 : TypeInfo} (hi : Try.prog.info? 22 = some i0) (hz0 : i0.zero = some (.float .f32 0)) (hz1 : i0.size = 1) (hz2 : i0.bytes = 4)
    {w0 : World} {u ad : Nat} {ops : Array Oper} {o : Oper} {a : Act} {K : Act → World → Prop} {Q : Exit → Act → World → Prop} {E : Prop} (hgd : o.guard = none) {s x : Operand}
    (ho : o.op = .call { callee := .builtin .append, args := #[s, x], argTypes := #[33, 33] }) {v : Value} {n : Nat} {X : Nat → Nat} (hs : a.eval s = v) (hx : a.eval x = .slice (some ⟨ad, 0, none⟩) 1 1)
    (had : ad = w0.heap.size) (hown : w0.ownsRow B 22 1 v n (rowOf X n)) (hn : n ≤ 1048576) (hB : B ≤ w0.heap.size)
    (h : ∀ v' w', w'.ownsRow B 22 1 v' (n + 1) (rowOf (fun j => if j = n then u else X j) (n + 1)) → Below B w0 w' → K (a.put o.dst v') w') :
    if Region.wanted o (yielded ops a.tmps) = true then Oper.wp Try.prog o a (w0.alloc (.cells #[.float .f32 u] 22)) K Q else E := by
  subst had
  refine step_append_lies _ hgd s x 33 ho B 22 i0 (.float .f32 0) 1 4 Try.underlying33 hi hz0 hz1 hz2 rfl (by decide) v n (rowOf X n) hs (hown.alloc _) ⟨w0.heap.size, 0, none⟩ 1 1 [.float .f32 u] hx rfl ?_ ?_ (by omega) (by unfold maxLen; omega) (by omega) ?_ _ rfl ?_
  · intro j c hj
    match j, hj with
    | 0, hj => simp at hj; subst hj; simp [Addr.add]
  · intro c hc
    simp at hc
    subst hc
    rfl
  · have : (w0.alloc (.cells #[.float .f32 u] 22)).heap.size = w0.heap.size + 1 := by simp
    omega
  · intro g cap w' h1 h2 _ _
    rw [row_push] at h1
    refine h _ w' h1 ?_
    refine ((Below.refl B w0).alloc hB _).grown h2 ?_ (fun k hk => (hown.lt k hk).1)
    have : (w0.alloc (.cells #[.float .f32 u] 22)).heap.size = w0.heap.size + 1 := by simp
    omega
end Go.Proofs.Ytmpcalpapkedhaa
