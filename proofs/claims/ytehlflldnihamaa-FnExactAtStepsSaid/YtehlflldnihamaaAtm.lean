/- The whole part of a number that is not less than 0 and at most 127; places by a step. -/
import Derived.Test.YtehlflldnihamaaOrW
import Derived.Test.YtehlflldnihamaaRo
import Derived.Test.YtehlflldnihamaaGeA
namespace Go.Proofs.Ytehlflldnihamaa
open Go Go.RowKit

def atK (P : Nat) : Nat := vW (P % 2147483648) / 2 ^ 149
theorem zero_cut (neg : Bool) (n d : Nat) : Ieee.Toward.zero.cut neg n d = n / 2 ^ d := by
  unfold Ieee.Toward.cut
  by_cases h : d ≤ n.log2 + 2
  · rw [Nat.min_eq_left h, Nat.shiftLeft_eq, Nat.one_mul]
    simp
  · have hlt : n < 2 ^ (n.log2 + 1) := Nat.lt_log2_self
    have h1 : 2 ^ (n.log2 + 1) ≤ 2 ^ d := Nat.pow_le_pow_right (by omega) (by omega)
    have h2 : 2 ^ (n.log2 + 1) ≤ 2 ^ (n.log2 + 2) := Nat.pow_le_pow_right (by omega) (by omega)
    rw [Nat.min_eq_right (by omega), Nat.shiftLeft_eq, Nat.one_mul, Nat.div_eq_of_lt (show n < 2 ^ d by omega)]
    simp [Nat.div_eq_of_lt (show n < 2 ^ (n.log2 + 2) by omega)]
theorem whole_word (s : Bool) (r : Nat) (hr : r < 2139095040) (hs : s = false ∨ r = 0) (hb : vW r / 2 ^ 149 ≤ 127) : floatToIntVal .f32 (Ieee.single.word s r) .i64 = some ((vW r / 2 ^ 149 : Nat) : Int) := by
  obtain ⟨m, e, hd, he, hv⟩ := read_vW s r hr
  have hcut : Ieee.Toward.zero.cut s (m <<< e.toNat) (-e).toNat = vW r / 2 ^ 149 := by
    rw [zero_cut, Nat.shiftLeft_eq, ← hv]
    by_cases h : 0 ≤ e
    · have e1 : (-e).toNat = 0 := by omega
      have e2 : (e + 149).toNat = e.toNat + 149 := by omega
      rw [e1, e2, Nat.pow_zero, Nat.div_one, Nat.pow_add, ← Nat.mul_assoc, Nat.mul_div_cancel _ (Nat.two_pow_pos 149)]
    · have e1 : e.toNat = 0 := by omega
      have e2 : 2 ^ 149 = 2 ^ (-e).toNat * 2 ^ (e + 149).toNat := by rw [← Nat.pow_add]; congr 1; omega
      rw [e1, e2, Nat.pow_zero, Nat.mul_one, Nat.mul_div_mul_right _ _ (Nat.two_pow_pos _)]
  have hz : s = true → vW r / 2 ^ 149 = 0 := fun h => by
    rcases hs with h1 | h1
    · rw [h1] at h; cases h
    · rw [h1]; rfl
  unfold floatToIntVal
  rw [hd]
  unfold Ieee.Datum.toInt Ieee.Datum.integral
  dsimp only
  rw [hcut]
  obtain ⟨V, hV⟩ : ∃ V, V = vW r / 2 ^ 149 := ⟨_, rfl⟩
  rw [← hV] at hb hz ⊢
  have hsg : Ieee.signed s V 0 = (V : Int) := by
    unfold Ieee.signed
    rw [Nat.shiftLeft_zero]
    cases s
    · rfl
    · rw [if_pos rfl, hz rfl]; rfl
  rw [hsg]
  have h1 : IntKind.i64.min = -9223372036854775808 := rfl
  have h2 : IntKind.i64.max = 9223372036854775807 := rfl
  rw [h1, h2, if_pos (by omega)]
theorem int_rungs : (List.range 128).all (fun L => decide (floatOfInt .f32 ((L : Nat) : Int) < 2139095040) && (vW (floatOfInt .f32 ((L : Nat) : Int)) / 2 ^ 149 == L)) = true := by decide +kernel
theorem int_rung {L : Nat} (h : L < 128) : floatOfInt .f32 (L : Int) < 2139095040 ∧ vW (floatOfInt .f32 (L : Int)) / 2 ^ 149 = L := by
  have := List.all_eq_true.1 int_rungs L (by simpa using h)
  simp only [Bool.and_eq_true, decide_eq_true_eq, beq_iff_eq] at this
  exact this
/-- The whole part of a place between 0 and L. -/
theorem whole_of {P L : Nat} (hP : P < 4294967296) (hf : isFin .f32 P = true) (h0 : ltZ P = false) (hL : L < 128) (h1 : (FloatKind.f32.format.order P (floatOfInt .f32 (L : Int)) == some .gt) = false) :
    atK P ≤ L ∧ floatToIntVal .f32 P .i64 = some ((atK P : Nat) : Int) := by
  obtain ⟨s, r, hr, rfl⟩ := fin_word hP hf
  have hsw : Ieee.single.signWeight = 2147483648 := rfl
  have hmod : Ieee.single.word s r % 2147483648 = r := by
    unfold Ieee.Format.word
    rw [hsw]
    cases s <;> simp <;> omega
  obtain ⟨i1, i2⟩ := int_rung hL
  have ho0 := ord_words s false r 0 hr (by omega)
  rw [wordF] at ho0
  unfold ltZ at h0
  rw [ho0] at h0
  have hs : s = false ∨ r = 0 := by
    cases s
    · exact .inl rfl
    · right
      by_cases h : r = 0
      · exact h
      · exfalso
        have : compare (sgR true r) (sgR false 0) = .lt := by rw [Int.compare_eq_lt]; unfold sgR; simp; omega
        rw [this] at h0
        cases h0
  have ho1 := ord_words s false r (floatOfInt .f32 (L : Int)) hr i1
  rw [wordF] at ho1
  rw [ho1] at h1
  have hle : r ≤ floatOfInt .f32 (L : Int) := by
    rcases Nat.lt_or_ge (floatOfInt .f32 (L : Int)) r with h | h
    · exfalso
      rcases hs with rfl | rfl
      · have : compare (sgR false r) (sgR false (floatOfInt .f32 (L : Int))) = .gt := by rw [Int.compare_eq_gt]; unfold sgR; simp; omega
        rw [this] at h1
        cases h1
      · omega
    · exact h
  have hk : vW r / 2 ^ 149 ≤ L := by
    rw [← i2]
    exact Nat.div_le_div_right (vW_le hle)
  unfold atK
  rw [hmod]
  exact ⟨hk, whole_word s r hr hs (by omega)⟩
theorem int_fin {k : Nat} (h : k < 128) : isFin .f32 (floatOfInt .f32 (k : Int)) = true := by
  have h1 := (int_rung h).1
  have := word_fin false _ h1
  rw [wordF] at this
  exact this
/-- The place of number k. -/
def plA (a b k : Nat) : Nat := fbin .add .f32 a (fbin .mul .f32 (floatOfInt .f32 (k : Int)) b)
theorem add_fin_l {x y : Nat} (hx : isFin .f32 x = true) (hy : isNaN .f32 y = false) : isNaN .f32 (fbin .add .f32 x y) = false := by
  obtain ⟨t, n, f, h2⟩ := fin_read hx
  apply some_num
  show (((FloatKind.f32.format.read x).sum (FloatKind.f32.format.read y)).map FloatKind.f32.format.write).isSome = true
  rcases num_read hy with ⟨s, h1⟩ | ⟨s, m, e, h1⟩ <;> rw [h1, h2] <;> rfl
theorem plA_num {a b k : Nat} (ha : isFin .f32 a = true) (hb : isFin .f32 b = true) (hk : k < 128) : isNaN .f32 (plA a b k) = false :=
  add_fin_l ha (nan_mul (int_fin hk) hb)
theorem plA_lt (a b k : Nat) : plA a b k < 4294967296 := by
  have := fbin_wf .add .f32 a (fbin .mul .f32 (floatOfInt .f32 (k : Int)) b)
  simpa [Lit.wf, plA] using this
/-- A place that is neither below 0 nor above the last index is finite. -/
theorem mid_fin {P L : Nat} (hn : isNaN .f32 P = false) (h0 : ltZ P = false) (hL : L < 128) (h1 : (FloatKind.f32.format.order P (floatOfInt .f32 (L : Int)) == some .gt) = false) : isFin .f32 P = true := by
  rcases num_read hn with ⟨s, hr⟩ | ⟨s, m, e, hr⟩
  · exfalso
    have hz : FloatKind.f32.format.read 0 = .number false 0 (-149) := by decide +kernel
    cases s
    · obtain ⟨m, e, hd, _⟩ := read_vW false _ (int_rung hL).1
      rw [wordF] at hd
      have hd' : FloatKind.f32.format.read (floatOfInt .f32 (L : Int)) = _ := hd
      unfold Ieee.Format.order at h1
      rw [hr, hd'] at h1
      cases h1
    · unfold ltZ Ieee.Format.order at h0
      rw [hr, hz] at h0
      cases h0
  · have hd : FloatKind.decode .f32 P = .number s m e := hr
    unfold isFin; rw [hd]; rfl
end Go.Proofs.Ytehlflldnihamaa
