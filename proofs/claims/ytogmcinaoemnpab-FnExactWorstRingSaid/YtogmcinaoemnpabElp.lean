
/- The levels that edges tell: edge by edge, as both tell it. -/
import Derived.Test.YtogmcinaoemnpabAed
import Derived.Test.YtogmcinaoemnpabNf
namespace Go.Proofs.Ytogmcinaoemnpab
set_option linter.all false
open Go Go.RowKit

/-- The first of n edges with one end told. -/
def elFirst (X : Nat → Ed) (T : Nat → Bool) : Nat → Option Nat
  | 0 => none
  | i + 1 => match elFirst X T i with
    | some j => some j
    | none => if T (X i).a.toNat = T (X i).b.toNat then none else some i
/-- What an edge with one end told does: the levels told, and their numbers. -/
def elDo (e : Ed) (s : (Nat → Bool) × (Nat → Nat)) : (Nat → Bool) × (Nat → Nat) :=
  if s.1 e.a.toNat = true then (fun x => if x = e.b.toNat then true else s.1 x, fun x => if x = e.b.toNat then fbin .add .f32 (s.2 e.a.toNat) e.p else s.2 x)
  else (fun x => if x = e.a.toNat then true else s.1 x, fun x => if x = e.a.toNat then fbin .sub .f32 (s.2 e.b.toNat) e.p else s.2 x)
def elIn (X : Nat → Ed) (s : (Nat → Bool) × (Nat → Nat)) (i : Nat) : (Nat → Bool) × (Nat → Nat) := match elFirst X s.1 i with
  | none => s
  | some j => elDo (X j) s
def elSt (X : Nat → Ed) (n : Nat) : Nat → (Nat → Bool) × (Nat → Nat)
  | 0 => (fun x => decide (x = 0), fun _ => 0)
  | r + 1 => elIn X (elSt X n r) n
/-- In each of k rounds there is an edge. -/
def elAll (X : Nat → Ed) (n k : Nat) : Bool := (List.range k).all fun r => (elFirst X (elSt X n r).1 n).isSome
theorem elAll_no {X : Nat → Ed} {n k r : Nat} (hr : r < k) (h : elFirst X (elSt X n r).1 n = none) : elAll X n k = false := by
  unfold elAll
  rw [List.all_eq_false]
  exact ⟨r, List.mem_range.2 hr, by rw [h]; simp⟩
theorem elAll_yes {X : Nat → Ed} {n k : Nat} (h : ∀ r, r < k → (elFirst X (elSt X n r).1 n).isSome = true) : elAll X n k = true := by
  unfold elAll
  rw [List.all_eq_true]
  exact fun r hr => h r (List.mem_range.1 hr)
theorem elFirst_none {X : Nat → Ed} {T : Nat → Bool} : ∀ {n : Nat}, elFirst X T n = none → ∀ i, i < n → T (X i).a.toNat = T (X i).b.toNat
  | 0, _, i, hi => absurd hi (Nat.not_lt_zero _)
  | n + 1, h, i, hi => by
    unfold elFirst at h
    cases hh : elFirst X T n with
    | some j => rw [hh] at h; cases h
    | none =>
      rw [hh] at h
      by_cases e : T (X n).a.toNat = T (X n).b.toNat
      · by_cases hin : i = n
        · subst hin; exact e
        · exact elFirst_none hh i (by omega)
      · simp only [if_neg e] at h; cases h
theorem elFirst_some {X : Nat → Ed} {T : Nat → Bool} : ∀ {n j : Nat}, elFirst X T n = some j → j < n ∧ T (X j).a.toNat ≠ T (X j).b.toNat ∧ ∀ i, i < j → T (X i).a.toNat = T (X i).b.toNat
  | 0, j, h => by cases h
  | n + 1, j, h => by
    unfold elFirst at h
    cases hh : elFirst X T n with
    | some i =>
      rw [hh] at h
      simp only [Option.some.injEq] at h
      subst h
      obtain ⟨h1, h2, h3⟩ := elFirst_some hh
      exact ⟨by omega, h2, h3⟩
    | none =>
      rw [hh] at h
      by_cases e : T (X n).a.toNat = T (X n).b.toNat
      · simp only [if_pos e] at h; cases h
      · simp only [if_neg e, Option.some.injEq] at h
        subst h
        exact ⟨by omega, e, elFirst_none hh⟩
theorem elFirst_succ_some {X : Nat → Ed} {T : Nat → Bool} {i j : Nat} (h : elFirst X T i = some j) : elFirst X T (i + 1) = some j := by
  show (match elFirst X T i with | some j => some j | none => _) = _
  rw [h]
theorem elFirst_succ_none {X : Nat → Ed} {T : Nat → Bool} {i : Nat} (h : elFirst X T i = none) : elFirst X T (i + 1) = if T (X i).a.toNat = T (X i).b.toNat then none else some i := by
  show (match elFirst X T i with | some j => some j | none => _) = _
  rw [h]
theorem elIn_none {X : Nat → Ed} {s : (Nat → Bool) × (Nat → Nat)} {i : Nat} (h : elFirst X s.1 i = none) : elIn X s i = s := by unfold elIn; rw [h]
theorem elIn_some {X : Nat → Ed} {s : (Nat → Bool) × (Nat → Nat)} {i j : Nat} (h : elFirst X s.1 i = some j) : elIn X s i = elDo (X j) s := by unfold elIn; rw [h]
/-- What is asked of the edges. -/
def EdIn (L : Nat) (e : Ed) : Prop := 0 ≤ e.a ∧ e.a < (L : Int) ∧ 0 ≤ e.b ∧ e.b < (L : Int) ∧ e.a ≠ e.b
theorem elDo_told {e : Ed} {s : (Nat → Bool) × (Nat → Nat)} (x : Nat) : (elDo e s).1 x = (s.1 x || (decide (x = e.a.toNat) && s.1 e.b.toNat) || (decide (x = e.b.toNat) && s.1 e.a.toNat) || (!s.1 e.a.toNat && decide (x = e.a.toNat))) := by
  unfold elDo
  cases ha : s.1 e.a.toNat
  · rw [if_neg (by simp)]
    by_cases hx : x = e.a.toNat
    · simp [hx]
    · simp [hx]
  · rw [if_pos rfl]
    by_cases hx : x = e.b.toNat
    · simp [hx]
    · by_cases hy : x = e.a.toNat
      · simp [hy, ha]
      · simp [hx, hy]
/-- With one end told, both are told then. -/
theorem elDo_both {e : Ed} {s : (Nat → Bool) × (Nat → Nat)} (h : s.1 e.a.toNat ≠ s.1 e.b.toNat) (x : Nat) : (elDo e s).1 x = (s.1 x || (decide (x = e.a.toNat) || decide (x = e.b.toNat))) := by
  rw [elDo_told]
  cases ha : s.1 e.a.toNat <;> cases hb : s.1 e.b.toNat
  · rw [ha, hb] at h; exact absurd rfl h
  · by_cases hx : x = e.a.toNat
    · simp [hx]
    · by_cases hy : x = e.b.toNat
      · simp [hy, hb]
      · simp [hx, hy]
  · by_cases hx : x = e.b.toNat
    · simp [hx]
    · by_cases hy : x = e.a.toNat
      · simp [hy, ha]
      · simp [hx, hy]
  · rw [ha, hb] at h; exact absurd rfl h
end Go.Proofs.Ytogmcinaoemnpab
