
/- The greatest of a number from 0 on, another and its opposite, infinite ones too. -/
import Derived.Test.YtogmcinaoemnpabMld
namespace Go.Proofs.Ytogmcinaoemnpab
set_option linter.all false
open Go Go.RowKit

theorem read_infW (s : Bool) : FloatKind.f32.format.read (Ieee.single.word s 2139095040) = .infinity s := by cases s <;> decide +kernel
theorem read_finW (s : Bool) (r : Nat) (h : r < 2139095040) : ∃ m e, FloatKind.f32.format.read (Ieee.single.word s r) = .number s m e := by
  obtain ⟨m, e, h1, _⟩ := read_vW s r h
  exact ⟨m, e, h1⟩
/-- The greater of a rung and a word of a sign and a rung. -/
theorem max2W (M r : Nat) (s : Bool) (hM : M ≤ 2139095040) (hr : r ≤ 2139095040) (P : Program) (w : World) :
    (Builtin.max2 (.float .f32 (Ieee.single.word false M)) (.float .f32 (Ieee.single.word s r))).run P w = .ok (.float .f32 (Ieee.single.word false (if s = true then M else max M r))) w := by
  by_cases h1 : M < 2139095040
  · by_cases h2 : r < 2139095040
    · have h := run_max32 P #[] 0 false s M r h1 h2 w
      rw [max2_eq] at h
      rw [h]
      congr 2
      cases s
      · by_cases hle : M < r
        · rw [show lessW false M false r = true from lessW_lt (by unfold sgR; simp; omega), if_pos rfl, if_neg (by simp), Nat.max_eq_right (by omega)]
        · by_cases he : M = r
          · subst he; rw [lessW_eq rfl]; simp
          · rw [show lessW false M false r = false from lessW_gt (by unfold sgR; simp; omega), if_neg (by simp), if_neg (by simp), Nat.max_eq_left (by omega)]
      · rw [if_pos rfl]
        by_cases h0 : M = 0 ∧ r = 0
        · obtain ⟨rfl, rfl⟩ := h0
          rw [show lessW false 0 true 0 = false from lessW_eq rfl, if_neg (by simp)]
        · rw [show lessW false M true r = false from lessW_gt (by unfold sgR; simp; omega), if_neg (by simp)]
    · obtain rfl : r = 2139095040 := by omega
      obtain ⟨m, e, hm⟩ := read_finW false M h1
      have hi := read_infW s
      cases s
      · have o : FloatKind.f32.format.order (Ieee.single.word false M) (Ieee.single.word false 2139095040) = some .lt := by
          unfold Ieee.Format.order; rw [hm, hi]; rfl
        simp only [Builtin.max2, o]
        rw [if_neg (by simp), Nat.max_eq_right (by omega)]
        rfl
      · have o : FloatKind.f32.format.order (Ieee.single.word false M) (Ieee.single.word true 2139095040) = some .gt := by
          unfold Ieee.Format.order; rw [hm, hi]; rfl
        simp only [Builtin.max2, o, if_true]
        rfl
  · obtain rfl : M = 2139095040 := by omega
    have hi := read_infW false
    by_cases h2 : r < 2139095040
    · obtain ⟨m, e, hm⟩ := read_finW s r h2
      have o : FloatKind.f32.format.order (Ieee.single.word false 2139095040) (Ieee.single.word s r) = some .gt := by
        unfold Ieee.Format.order; rw [hi, hm]; rfl
      simp only [Builtin.max2, o]
      cases s
      · rw [if_neg (by simp), Nat.max_eq_left (by omega)]; rfl
      · rw [if_pos rfl]; rfl
    · obtain rfl : r = 2139095040 := by omega
      cases s
      · have o : FloatKind.f32.format.order (Ieee.single.word false 2139095040) (Ieee.single.word false 2139095040) = some .eq := by decide +kernel
        have hn : (FloatKind.f32.decode (Ieee.single.word false 2139095040)).neg = false := by decide +kernel
        simp only [Builtin.max2, o, hn]
        rw [if_neg (by simp), Nat.max_self]
        rfl
      · have o : FloatKind.f32.format.order (Ieee.single.word false 2139095040) (Ieee.single.word true 2139095040) = some .gt := by decide +kernel
        simp only [Builtin.max2, o, if_true]
        rfl
theorem max3W (M r : Nat) (s : Bool) (hM : M ≤ 2139095040) (hr : r ≤ 2139095040) (P : Program) (ts : Array TypeId) (t : TypeId) (w : World) :
    (Builtin.max_ ts t #[.float .f32 (Ieee.single.word false M), .float .f32 (Ieee.single.word s r), .float .f32 (Op.negFloat .f32 (Ieee.single.word s r))]).run P w = .ok (.float .f32 (Ieee.single.word false (max M r))) w := by
  have h1 := max2W M r s hM hr P w
  have h2 := max2W (if s = true then M else max M r) r (!s) (by split <;> omega) hr P w
  rw [neg_wordR s r (by omega)]
  have e : (Builtin.max_ ts t #[.float .f32 (Ieee.single.word false M), .float .f32 (Ieee.single.word s r), .float .f32 (Ieee.single.word (!s) r)]) = (do let z ← Builtin.max2 (.float .f32 (Ieee.single.word false M)) (.float .f32 (Ieee.single.word s r)); Builtin.max2 z (.float .f32 (Ieee.single.word (!s) r))) := by
    show (do let z ← Builtin.max2 (.float .f32 (Ieee.single.word false M)) (.float .f32 (Ieee.single.word s r)); [Value.float .f32 (Ieee.single.word (!s) r)].foldlM Builtin.max2 z) = _
    simp
  rw [e]
  simp only [Sem.run_bind, h1, Result.andThen]
  rw [h2]
  congr 3
  cases s <;> simp
end Go.Proofs.Ytogmcinaoemnpab
