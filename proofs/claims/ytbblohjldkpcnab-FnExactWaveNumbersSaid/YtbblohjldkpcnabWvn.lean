
/- Wave numbers of steps: what they come to. -/
import Derived.Test.YtbblohjldkpcnabSbo
import Derived.Test.YtbblohjldkpcnabCxf
import Derived.Test.YtbblohjldkpcnabRootC
import Derived.Test.YtbblohjldkpcnabVal
import Derived.Test.YtbblohjldkpcnabRo
namespace Go.Proofs.Ytbblohjldkpcnab
set_option linter.all false
open Go Go.ChangeShapes Go.WideShapes Go.ChangeAt Go.RowKit

def gtW (x y : Nat) : Bool := FloatKind.f32.format.order x y == some .gt
def ltW (x y : Nat) : Bool := FloatKind.f32.format.order x y == some .lt
/-- The parts of the wave number at one height. -/
def wvR (E h : Nat) : Nat := if gtW E h = true then rootT (fbin .sub .f32 E h) else 0
def wvI (E h : Nat) : Nat := if gtW E h = true then 0 else rootT (fbin .sub .f32 h E)
def wvOk (E h : Nat) : Bool := (gtW E h || ltW E h) && finP (wvR E h) (wvI E h)
def wvAll (E : Nat) (Y : Nat → Nat) (m : Nat) : Bool := (List.range m).all fun i => wvOk E (Y i)
theorem wvAll_no {E : Nat} {Y : Nat → Nat} {m k : Nat} (hk : k < m) (h : wvOk E (Y k) = false) : wvAll E Y m = false := by
  unfold wvAll
  rw [List.all_eq_false]
  exact ⟨k, List.mem_range.2 hk, by simp [h]⟩
theorem wvAll_yes {E : Nat} {Y : Nat → Nat} {m : Nat} (h : ∀ k, k < m → wvOk E (Y k) = true) : wvAll E Y m = true := by
  unfold wvAll
  rw [List.all_eq_true]
  exact fun k hk => h k (List.mem_range.1 hk)
theorem ord_lg {x y : Nat} {o : Option Ordering} (h : FloatKind.f32.format.order x y = o) : gtW x y = (o == some .gt) ∧ ltW x y = (o == some .lt) := by
  subst h; exact ⟨rfl, rfl⟩
theorem lt_not_gt {x y : Nat} (h : gtW x y = true) : ltW x y = false := by
  unfold gtW at h; unfold ltW
  rw [beq_iff_eq] at h
  rw [h]; rfl
/-- What both sides tell. -/
def RetW (E : Nat) (Y : Nat → Nat) (m : Nat) (ok : Bool) (w : World) (e : Ending) (w' : World) : Prop :=
  (ok = false ∧ e = .returned (.tuple #[.slice none 0 0, .bool false]) ∧ Below w.heap.size w w') ∨
  (ok = true ∧ ∃ v A B, e = .returned (.tuple #[v, .bool true]) ∧ w'.ownsRow w.heap.size 106 1 v m (rowC A B m) ∧ Like A (fun i => wvR E (Y i)) m ∧ Like B (fun i => wvI E (Y i)) m ∧ Below w.heap.size w w')
theorem likeC_push {X R : Nat → Nat} {k u : Nat} (h : Like X R k) (hu : canon .f32 u = canon .f32 (R k)) : Like (fun j => if j = k then u else X j) R (k + 1) := by
  intro j hj
  by_cases hjk : j = k
  · subst hjk; simp only [if_true]; exact hu
  · simp only [if_neg hjk]; exact h j (by omega)
theorem canon_zero32 : canon .f32 0 = 0 := by decide +kernel
theorem wv_gt {E h : Nat} (g : gtW E h = true) (s : Nat) : canon .f32 (pick .f32 (rootT (fbin .sub .f32 E h)) s) = canon .f32 (wvR E h) ∧ canon .f32 0 = canon .f32 (wvI E h) := by
  unfold wvR wvI
  rw [if_pos g, if_pos g, canon_pick]
  exact ⟨rfl, rfl⟩
theorem wv_lt {E h : Nat} (g : gtW E h = false) (s : Nat) : canon .f32 0 = canon .f32 (wvR E h) ∧ canon .f32 (pick .f32 (rootT (fbin .sub .f32 h E)) s) = canon .f32 (wvI E h) := by
  unfold wvR wvI
  rw [g, canon_pick]
  exact ⟨rfl, rfl⟩
theorem finP_canon {a b a' b' : Nat} (h : canon .f32 a = canon .f32 a') (g : canon .f32 b = canon .f32 b') : finP a b = finP a' b' := by
  unfold finP
  rw [← isFin_canon a, ← isFin_canon b, h, g, isFin_canon, isFin_canon]
end Go.Proofs.Ytbblohjldkpcnab
