
/- Append to an empty list that has no room: what is there stays as it was, and the new list lies behind it. -/
import Derived.Test.YtogmcinaoemnpaaPush
import Derived.Test.YtogmcinaoemnpaaArr
import Derived.ArgAppend
namespace Go.Proofs.Ytogmcinaoemnpaa
open Go Go.ChangeShapes Go.WideShapes Go.ChangeAt Go.RowKit

theorem wpL_push0 {i0 : TypeInfo} (hi : Try.prog.info? 32 = some i0) (hz0 : i0.zero = some (.float .f32 0)) (hz1 : i0.size = 1) (hz2 : i0.bytes = 4)
    {w0 : World} {u g0 : Nat} {ops : Array Oper} {rest : List Oper} {o : Oper} {a : Act} {Q : Exit → Act → World → Prop} (hgd : o.guard = none) {s x : Operand}
    (ho : o.op = .call { callee := .builtin .append, args := #[s, x], argTypes := #[22, 22] }) (hs : a.eval s = .slice (some ⟨g0, 0, none⟩) 0 0) (hx : a.eval x = .slice (some ⟨w0.heap.size, 0, none⟩) 1 1)
    (X : Nat → Nat)
    (h : ∀ v' w', w'.ownsRow w0.heap.size 32 1 v' 1 (rowOf (fun j => if j = 0 then u else X j) 1) → Below w0.heap.size w0 w' → wpList Try.prog ops Q rest (a.put o.dst v') w') :
    wpList Try.prog ops Q (o :: rest) a (w0.alloc (.cells #[.float .f32 u] 32)) := by
  refine wpList_append_grows _ hgd s x 22 ho 32 i0 (.float .f32 0) 1 4 Try.underlying22 hi hz0 hz1 hz2 rfl (by decide) (some ⟨g0, 0, none⟩) 0 0 [] hs (fun h => by cases h) rfl (fun b _ j u hj => by simp at hj) ⟨w0.heap.size, 0, none⟩ 1 1 [.float .f32 u] hx rfl ?_ ?_ (by omega) (by unfold maxLen; omega) (by omega) ?_
  · intro j c hj
    match j, hj with
    | 0, hj => simp at hj; subst hj; simp [Addr.add]
  · intro c hc
    simp at hc
    subst hc
    rfl
  · intro v' w' h1 h2
    have hsz : (w0.alloc (.cells #[.float .f32 u] 32)).heap.size = w0.heap.size + 1 := by simp
    have h3 := own_mono0 h1 (B' := w0.heap.size) (by omega)
    have e : ([] : List Value) ++ [.float .f32 u] = rowOf (fun j => if j = 0 then u else X j) 1 := rfl
    rw [Nat.zero_add, e] at h3
    exact h v' w' h3 (((Below.refl _ w0).alloc (Nat.le_refl _) _).trans ((below_grown h2).mono (by omega)))
/-- The same as wpL_push, the place of what is put behind being told apart. -/
theorem wpL_pushA {B : Nat} {i0 : TypeInfo} (hi : Try.prog.info? 32 = some i0) (hz0 : i0.zero = some (.float .f32 0)) (hz1 : i0.size = 1) (hz2 : i0.bytes = 4)
    {w0 : World} {u ad : Nat} {ops : Array Oper} {rest : List Oper} {o : Oper} {a : Act} {Q : Exit → Act → World → Prop} (hgd : o.guard = none) {s x : Operand}
    (ho : o.op = .call { callee := .builtin .append, args := #[s, x], argTypes := #[22, 22] }) {v : Value} {n : Nat} {X : Nat → Nat} (hs : a.eval s = v) (hx : a.eval x = .slice (some ⟨ad, 0, none⟩) 1 1)
    (had : ad = w0.heap.size) (hown : w0.ownsRow B 32 1 v n (rowOf X n)) (hn : n ≤ 1048576) (hB : B ≤ w0.heap.size)
    (h : ∀ v' w', w'.ownsRow B 32 1 v' (n + 1) (rowOf (fun j => if j = n then u else X j) (n + 1)) → Below B w0 w' → wpList Try.prog ops Q rest (a.put o.dst v') w') :
    wpList Try.prog ops Q (o :: rest) a (w0.alloc (.cells #[.float .f32 u] 32)) := by
  subst had
  exact wpL_push hi hz0 hz1 hz2 hgd ho hs hx hown hn hB h
/-- A row, copied behind an empty list. -/
theorem wpL_copy0 {i0 : TypeInfo} (hi : Try.prog.info? 32 = some i0) (hz0 : i0.zero = some (.float .f32 0)) (hz1 : i0.size = 1) (hz2 : i0.bytes = 4)
    {w0 : World} {g0 : Nat} {ops : Array Oper} {rest : List Oper} {o : Oper} {a : Act} {Q : Exit → Act → World → Prop} (hgd : o.guard = none) {s x : Operand}
    (ho : o.op = .call { callee := .builtin .append, args := #[s, x], argTypes := #[22, 22] }) {xa : Option Addr} {n cx : Nat} {X : Nat → Nat} (hs : a.eval s = .slice (some ⟨g0, 0, none⟩) 0 0) (hx : a.eval x = .slice xa n cx)
    (hX : Rd w0 xa n X) (h1 : 1 ≤ n) (hn : n ≤ 1048576)
    (h : ∀ v' w', w'.ownsRow w0.heap.size 32 1 v' n (rowOf X n) → Below w0.heap.size w0 w' → wpList Try.prog ops Q rest (a.put o.dst v') w') :
    wpList Try.prog ops Q (o :: rest) a w0 := by
  obtain ⟨xb, xo, hxa, hcx⟩ := hX
  have e := hxa (by omega)
  subst e
  refine wpList_append_grows _ hgd s x 22 ho 32 i0 (.float .f32 0) 1 4 Try.underlying22 hi hz0 hz1 hz2 rfl (by decide) (some ⟨g0, 0, none⟩) 0 0 [] hs (fun h => by cases h) rfl (fun b _ j u hj => by simp at hj) ⟨xb, xo, none⟩ n cx (rowOf X n) hx (by rw [rowOf_length, Nat.mul_one]) ?_ ?_ (by omega) (by unfold maxLen; omega) (by omega) ?_
  · intro j c hj
    by_cases hjn : j < n
    · rw [rowOf_get _ _ _ hjn] at hj
      cases hj
      have := hcx j hjn
      by_cases h0 : j = 0
      · subst h0; simpa [Addr.add] using this
      · simpa [Addr.add, h0] using this
    · rw [List.getElem?_eq_none (by simp [rowOf_length]; omega)] at hj; cases hj
  · intro c hc
    obtain ⟨j, hj, rfl⟩ := List.mem_map.1 hc
    rfl
  · intro v' w' h1 h2
    rw [Nat.zero_add, List.nil_append] at h1
    exact h v' w' h1 (below_grown h2)
theorem Rd.alloc2 {w : World} {xa : Option Addr} {n : Nat} {X : Nat → Nat} (h : Rd w xa n X) (o o' : Obj) : Rd ((w.alloc o).alloc o') xa n X :=
  Rd.below (Rd.below h ((Below.refl _ _).alloc (Nat.le_refl _) o)) ((Below.refl _ _).alloc (Nat.le_refl _) o')
theorem own_alloc2 {w : World} {B e n : Nat} {v : Value} {xs : List Value} (h : w.ownsRow B e 1 v n xs) (o o' : Obj) : ((w.alloc o).alloc o').ownsRow B e 1 v n xs := (h.alloc o).alloc o'
end Go.Proofs.Ytogmcinaoemnpaa
