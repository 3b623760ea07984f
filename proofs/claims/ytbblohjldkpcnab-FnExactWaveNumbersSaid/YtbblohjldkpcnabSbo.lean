
/- A difference of two finite numbers is to 0 as the one is to the other. -/
import Derived.Test.YtbblohjldkpcnabOrW
import Derived.Test.YtbblohjldkpcnabHwP
namespace Go.Proofs.Ytbblohjldkpcnab
open Go Go.RowKit
set_option linter.all false

theorem rungN_pos {m : Nat} {e : Int} (h : m ≠ 0) (he : -149 ≤ e) : 0 < rungN m e := by
  unfold rungN
  rw [if_neg h]
  rcases Int.lt_or_le (-149) (e + m.log2 - 23) with hq | hq
  · have h1 : 1 ≤ (max (e + m.log2 - 23) (-149) - (-149)).toNat := by omega
    have : 8388608 ≤ (max (e + m.log2 - 23) (-149) - (-149)).toNat * 8388608 := Nat.le_mul_of_pos_left _ h1
    omega
  · have h1 : max (e + m.log2 - 23) (-149) = -149 := by omega
    rw [h1]
    have h2 : (-149 - e).toNat = 0 := by omega
    rw [h2]
    have h3 : Ieee.Toward.even.cut false (m <<< (e - -149).toNat) 0 = m <<< (e - -149).toNat := by
      simp [Ieee.Toward.cut, Nat.mod_one]
    rw [h3, Nat.shiftLeft_eq]
    have : 0 < m * 2 ^ (e - -149).toNat := Nat.mul_pos (by omega) (Nat.two_pow_pos _)
    omega
theorem order_signed (z : Bool) (r : Nat) (h : r ≤ 2139095040) : FloatKind.f32.format.order (Ieee.single.word z r) 0 = some (if r = 0 then .eq else if z = true then .lt else .gt) := by
  rcases Nat.lt_or_ge r 2139095040 with h1 | h1
  · have := ord_words z false r 0 h1 (by decide)
    rw [wordF] at this
    rw [this]
    congr 1
    by_cases h0 : r = 0
    · subst h0
      rw [if_pos rfl]
      cases z <;> decide
    · rw [if_neg h0]
      cases z
      · rw [if_neg (by decide), Int.compare_eq_gt]; unfold sgR; simp; omega
      · rw [if_pos rfl, Int.compare_eq_lt]; unfold sgR; simp; omega
  · have e : r = 2139095040 := by omega
    subst e
    rw [if_neg (by decide)]
    cases z <;> decide +kernel
theorem opposite_num (t : Bool) (n : Nat) (j : Int) : (Ieee.Datum.number t n j).opposite = .number (!t) n j := rfl
theorem signed_not (t : Bool) (n k : Nat) : Ieee.signed (!t) n k = -Ieee.signed t n k := by
  unfold Ieee.signed; cases t <;> simp
theorem sub_order {s t : Bool} {a b : Nat} (ha : a < 2139095040) (hb : b < 2139095040) :
    FloatKind.f32.format.order (fbin .sub .f32 (Ieee.single.word s a) (Ieee.single.word t b)) 0 = FloatKind.f32.format.order (Ieee.single.word s a) (Ieee.single.word t b) := by
  rw [ord_words s t a b ha hb]
  obtain ⟨m, i, h1, i1, v1⟩ := read_vW s a ha
  obtain ⟨n, j, h2, j1, v2⟩ := read_vW t b hb
  have h1' : Ieee.single.read (Ieee.single.word s a) = _ := h1
  have h2' : Ieee.single.read (Ieee.single.word t b) = _ := h2
  have hfb : fbin .sub .f32 (Ieee.single.word s a) (Ieee.single.word t b) = (((Ieee.single.read (Ieee.single.word s a)).sum (Ieee.single.read (Ieee.single.word t b)).opposite).map Ieee.single.write).getD (qnan .f32) := rfl
  rw [hfb, h1', h2', opposite_num]
  have e1 := signed_scale s m i (min i j) (by omega) (by omega) v1
  have e2 := signed_scale t n j (min i j) (by omega) (by omega) v2
  have hK : (0 : Int) < ((2 ^ (min i j + 149).toNat : Nat) : Int) := by exact_mod_cast Nat.two_pow_pos _
  have hmin : -149 ≤ min i j := by omega
  simp only [Ieee.Datum.sum, signed_not, Option.map_some, Option.getD_some]
  generalize min i j = B at *
  generalize Ieee.signed s m (i - B).toNat = x at *
  generalize Ieee.signed t n (j - B).toNat = y at *
  show FloatKind.f32.format.order (Ieee.single.nearest _ _ _) 0 = _
  rw [nearest_word, order_signed _ _ (rungN_le _ _)]
  congr 1
  have hc := cmp_scale hK e1 e2
  have hz : rungN (x + -y).natAbs B = 0 ↔ x = y := by
    constructor
    · intro h
      apply Classical.byContradiction
      intro hne
      have := rungN_pos (m := (x + -y).natAbs) (e := B) (by omega) hmin
      omega
    · intro h
      rw [show (x + -y).natAbs = 0 by omega]
      rfl
  rcases Int.lt_trichotomy (sgR s a) (sgR t b) with h | h | h
  · rw [Int.compare_eq_lt.2 h]
    rw [Int.compare_eq_lt.2 (sgV_lt h), Int.compare_eq_lt] at hc
    rw [if_neg (by rw [hz]; omega), if_neg (by omega : ¬ x + -y = 0), if_pos (by simp; omega)]
  · rw [Int.compare_eq_eq.2 h]
    rw [Int.compare_eq_eq.2 (sgV_eq h), Int.compare_eq_eq] at hc
    rw [if_pos (hz.2 hc)]
  · rw [Int.compare_eq_gt.2 h]
    rw [Int.compare_eq_gt.2 (sgV_lt h), Int.compare_eq_gt] at hc
    rw [if_neg (by rw [hz]; omega), if_neg (by omega : ¬ x + -y = 0), if_neg (by simp; omega)]
/-- .. of finite words. -/
theorem sub_order' {x y : Nat} (hx : x < 4294967296) (hy : y < 4294967296) (fx : isFin .f32 x = true) (fy : isFin .f32 y = true) :
    FloatKind.f32.format.order (fbin .sub .f32 x y) 0 = FloatKind.f32.format.order x y := by
  obtain ⟨s, a, ha, rfl⟩ := fin_word hx fx
  obtain ⟨t, b, hb, rfl⟩ := fin_word hy fy
  exact sub_order ha hb
end Go.Proofs.Ytbblohjldkpcnab
