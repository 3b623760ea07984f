
/- The size of a number: as the greater of it and its opposite, and by a test; they are the same but for a zero's sign. -/
import Derived.Test.YtbblohjldkpcnabZsm
import Derived.Test.YtbblohjldkpcnabMxm
import Derived.Test.YtbblohjldkpcnabHwP
import Derived.Test.YtbblohjldkpcnabLin
import Derived.Test.YtbblohjldkpcnabRo
namespace Go.Proofs.Ytbblohjldkpcnab
open Go Go.RowKit

set_option maxRecDepth 100000 in
theorem run_absmax (s : Bool) (r : Nat) (h : r ≤ 2139095040) (P : Program) (ts : Array TypeId) (t : TypeId) (w : World) :
    (Builtin.max_ ts t #[.float .f32 (Ieee.single.word s r), .float .f32 (Op.negFloat .f32 (Ieee.single.word s r))]).run P w = .ok (.float .f32 (Ieee.single.word false r)) w := by
  rw [neg_wordR s r (by omega)]
  by_cases hr : r < 2139095040
  · rw [run_max32 P ts t s (!s) r r hr hr]
    congr 2
    by_cases h0 : r = 0
    · subst h0
      cases s <;> decide +kernel
    · cases s
      · rw [show lessW false r (!false) r = false from lessW_gt (by unfold sgR; simp; omega), if_neg (by simp)]
      · rw [show lessW true r (!true) r = true from lessW_lt (by unfold sgR; simp; omega), if_pos rfl]; rfl
  · obtain rfl : r = 2139095040 := by omega
    rw [max2_eq]
    have e1 : FloatKind.f32.format.order (Ieee.single.word false 2139095040) (Ieee.single.word true 2139095040) = some .gt := by decide +kernel
    have e2 : FloatKind.f32.format.order (Ieee.single.word true 2139095040) (Ieee.single.word false 2139095040) = some .lt := by decide +kernel
    cases s
    · simp only [Builtin.max2, Bool.not_false, e1]
      rfl
    · simp only [Builtin.max2, Bool.not_true, e2]
      rfl
/-- The size, by a test. -/
def absT (D : Nat) : Nat := if (FloatKind.f32.format.order D 0 == some .lt) = true then Op.negFloat .f32 D else D
theorem absT_word (s : Bool) (r : Nat) (h : r ≤ 2139095040) : eqz (Ieee.single.word false r) (absT (Ieee.single.word s r)) ∧ isNaN .f32 (absT (Ieee.single.word s r)) = false := by
  have hn : ∀ s, isNaN .f32 (Ieee.single.word s r) = false := fun s => by
    by_cases hr : r < 2139095040
    · obtain ⟨m, e, h1, _⟩ := rung_read s r hr
      simp [isNaN, FloatKind.decode, h1, Ieee.Datum.isNaN]
    · obtain rfl : r = 2139095040 := by omega
      simp [isNaN, FloatKind.decode, read_inf, Ieee.Datum.isNaN]
  by_cases h0 : r = 0
  · subst h0
    cases s <;> (refine ⟨?_, ?_⟩ <;> first | (unfold eqz absT; decide +kernel) | (unfold absT; decide +kernel))
  · unfold absT
    have ho : (FloatKind.f32.format.order (Ieee.single.word s r) 0 == some .lt) = s := by
      by_cases hr : r < 2139095040
      · rw [show (0 : Nat) = Ieee.single.word false 0 by decide +kernel, ord_words s false r 0 hr (by omega)]
        cases s
        · have : compare (sgR false r) (sgR false 0) = .gt := by rw [Int.compare_eq_gt]; unfold sgR; simp; omega
          rw [this]; rfl
        · have : compare (sgR true r) (sgR false 0) = .lt := by rw [Int.compare_eq_lt]; unfold sgR; simp; omega
          rw [this]; rfl
      · obtain rfl : r = 2139095040 := by omega
        cases s <;> decide +kernel
    rw [ho]
    cases s
    · rw [if_neg (by simp)]; exact ⟨.inl rfl, hn _⟩
    · rw [if_pos rfl, neg_wordR true r (by omega)]; exact ⟨.inl rfl, hn _⟩
/-- The blend of two lines: its place, its height, how far they are apart, its width. -/
def blH (b b' : Nat) : Nat := fbin .add .f32 b b'
def blD (a a' : Nat) : Nat := fbin .mul .f32 1056964608 (fbin .sub .f32 a a')
def blP (a b a' b' : Nat) : Nat := fbin .quo .f32 (fbin .add .f32 (fbin .mul .f32 a b) (fbin .mul .f32 a' b')) (blH b b')
def blM (c c' : Nat) : Nat := if lessK c c' = true then c' else c
def blW (a c a' c' : Nat) : Nat := fbin .add .f32 (blM c c') (absT (blD a a'))
def okBl (a b c : Nat) (k : Int) (a' b' c' : Nat) (k' : Int) : Bool := (okLin a b c k && okLin a' b' c' k') && !(FloatKind.f32.format.order (blH b b') 0 == some .eq)
theorem okLin_pick (a b c : Nat) (k : Int) (s t u : Nat) : okLin (pick .f32 a s) (pick .f32 b t) (pick .f32 c u) k = okLin a b c k := by
  unfold okLin isP
  rw [isFin_pick, isFin_pick, isFin_pick, order_pick_l]
theorem eqz_finB {a b : Nat} (h : eqz a b) : isFin .f32 a = isFin .f32 b := by
  rcases h with rfl | ⟨h1, h2⟩
  · rfl
  · rcases h1 with rfl | rfl <;> rcases h2 with rfl | rfl <;> decide +kernel
theorem okLin_eqz {a b c c' : Nat} {k : Int} (h : eqz c c') : okLin a b c k = okLin a b c' k := by
  unfold okLin isP
  rw [eqz_finB h, eqz_order h (eqz_refl 0)]
theorem okLin_same {a b c c' : Nat} {k : Int} (h : eqz c c') (ho : okLin a b c k = true) : c = c' := by
  rcases h with h | ⟨h1, _⟩
  · exact h
  · have := (okLin_at ho).2.2.1
    rcases h1 with rfl | rfl
    · exact absurd this (by decide +kernel)
    · exact absurd this (by decide +kernel)
theorem okLin_num {a b c : Nat} {k : Int} (h : okLin a b c k = true) (s t u : Nat) : pick .f32 a s = a ∧ pick .f32 b t = b ∧ pick .f32 c u = c := by
  obtain ⟨h1, h2, h3, _⟩ := okLin_at h
  have h4 : isFin .f32 c = true := by unfold isP at h3; rw [Bool.and_eq_true] at h3; exact h3.1
  have f : ∀ x, isFin .f32 x = true → isNaN .f32 x = false := fun x hx => by
    unfold isFin at hx
    rw [Bool.and_eq_true] at hx
    simpa [isNaN] using hx.1
  exact ⟨pick_num (f _ h1) _, pick_num (f _ h2) _, pick_num (f _ h4) _⟩
theorem dist_num {a a' : Nat} (h : isFin .f32 a = true) (h' : isFin .f32 a' = true) : isNaN .f32 (fbin .sub .f32 a a') = false ∧ isNaN .f32 (blD a a') = false := by
  have f : isNaN .f32 a = false := by
    unfold isFin at h
    rw [Bool.and_eq_true] at h
    simpa [isNaN] using h.1
  have h1 := nan_sub f h'
  exact ⟨h1, nan_mul_fin ⟨false, 8388608, -24, read_halfW, by decide⟩ h1⟩
end Go.Proofs.Ytbblohjldkpcnab
