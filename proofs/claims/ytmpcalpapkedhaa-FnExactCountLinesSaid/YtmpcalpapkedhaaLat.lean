
/- How high a line is at a place, in words: no step gives a not-a-number. -/
import Derived.Test.YtmpcalpapkedhaaMk3
import Derived.Test.YtmpcalpapkedhaaHalf
import Derived.Test.YtmpcalpapkedhaaHwP
import Derived.Test.YtmpcalpapkedhaaRo
import Derived.Test.YtmpcalpapkedhaaPq
import Derived.Test.YtmpcalpapkedhaaCroP
namespace Go.Proofs.Ytmpcalpapkedhaa
open Go Go.ChangeShapes Go.WideShapes Go.ChangeAt Go.RowKit

/-- A square is a word without a sign. -/
theorem squ_word {u : Nat} (h : isNaN .f32 u = false) : ∃ Q, Q ≤ 2139095040 ∧ fbin .mul .f32 u u = Ieee.single.word false Q := by
  have hs : ∀ s : Bool, (s ^^ s) = false := fun s => by cases s <;> rfl
  have hf : fbin .mul .f32 u u = (((FloatKind.f32.format.read u).product (FloatKind.f32.format.read u)).map FloatKind.f32.format.write).getD (qnan .f32) := rfl
  rw [hf]
  rcases num_read h with ⟨s, hr⟩ | ⟨s, m, e, hr⟩
  · rw [hr]
    refine ⟨2139095040, Nat.le_refl _, ?_⟩
    show Ieee.single.word (s ^^ s) _ = _
    rw [hs]; rfl
  · rw [hr]
    refine ⟨rungN (m * m) (e + e), rungN_le _ _, ?_⟩
    show FloatKind.f32.format.write (.number (s ^^ s) (m * m) (e + e)) = _
    rw [write_num, hs]
theorem num_word {s : Bool} {Q : Nat} (h : Q ≤ 2139095040) : isNaN .f32 (Ieee.single.word s Q) = false := by
  unfold isNaN
  rw [read_wordS s Q (by omega)]
  split
  · rfl
  · split
    · rfl
    · rw [if_pos (by omega)]; rfl
/-- What the bell is asked for. -/
theorem neg_sq {u : Nat} (h : isNaN .f32 u = false) : NegX (fbin .sub .f32 0 (fbin .mul .f32 u u)) := by
  obtain ⟨Q, hQ, e⟩ := squ_word h
  rw [e, sub_zero false Q hQ]
  exact negX_word Q hQ
/-- 1 plus a square is a number that is not 0, or infinite. -/
theorem one_sq {u : Nat} (h : isNaN .f32 u = false) : ∃ r, 8388608 ≤ r ∧ r ≤ 2139095040 ∧ fbin .add .f32 1065353216 (fbin .mul .f32 u u) = Ieee.single.word false r := by
  obtain ⟨Q, hQ, e⟩ := squ_word h
  rw [e]
  have hf : fbin .add .f32 1065353216 (Ieee.single.word false Q) = (((FloatKind.f32.format.read 1065353216).sum (FloatKind.f32.format.read (Ieee.single.word false Q))).map FloatKind.f32.format.write).getD (qnan .f32) := rfl
  rw [hf, read_one]
  by_cases hq : Q < 2139095040
  · obtain ⟨m, x, h1, _⟩ := rung_read false Q hq
    rw [h1]
    obtain ⟨b, hb⟩ : ∃ b, b = min (-23) x := ⟨_, rfl⟩
    obtain ⟨T, hT⟩ : ∃ T, T = 8388608 * 2 ^ (-23 - b).toNat + m * 2 ^ (x - b).toNat := ⟨_, rfl⟩
    have hsum : (Ieee.Datum.number false 8388608 (-23)).sum (.number false m x) = some (.number false T b) := by
      have hpos : 0 < T := by rw [hT]; have := Nat.two_pow_pos (-23 - b).toNat; omega
      simp only [Ieee.Datum.sum, Ieee.signed, ← hb, Nat.shiftLeft_eq, Bool.false_eq_true, if_false, Bool.and_self]
      rw [← Int.natCast_add, ← hT]
      have h0 : ¬ ((T : Int) = 0) := by omega
      simp [h0]
    rw [hsum]
    refine ⟨rungN T b, ?_, rungN_le _ _, ?_⟩
    · have hT0 : T ≠ 0 := by rw [hT]; have := Nat.two_pow_pos (-23 - b).toNat; omega
      have hlog : (-23 - b).toNat + 23 ≤ T.log2 := by
        rw [Nat.le_log2 hT0, hT, Nat.pow_add]
        have : (2 : Nat) ^ 23 = 8388608 := by decide
        rw [this, Nat.mul_comm]
        omega
      have hbb : b ≤ -23 := by rw [hb]; omega
      unfold rungN
      rw [if_neg hT0]
      have hm : max (b + (T.log2 : Int) - 23) (-149) = b + (T.log2 : Int) - 23 := by omega
      rw [hm]
      have h2 : 1 ≤ (b + (T.log2 : Int) - 23 - -149).toNat := by omega
      obtain ⟨z, hz⟩ : ∃ z, z = (b + (T.log2 : Int) - 23 - -149).toNat := ⟨_, rfl⟩
      rw [← hz] at h2 ⊢
      obtain ⟨c, hc⟩ : ∃ c, c = Ieee.Toward.even.cut false (T <<< (b - (b + (T.log2 : Int) - 23)).toNat) (b + (T.log2 : Int) - 23 - b).toNat := ⟨_, rfl⟩
      rw [← hc]
      clear hc hz hm hlog hT
      omega
    · exact write_num false T b
  · obtain rfl : Q = 2139095040 := by omega
    rw [read_inf]
    exact ⟨2139095040, by omega, by omega, by decide +kernel⟩
theorem one_sq_read {u : Nat} (h : isNaN .f32 u = false) : (∃ s, FloatKind.f32.format.read (fbin .add .f32 1065353216 (fbin .mul .f32 u u)) = .infinity s) ∨ ∃ s m e, FloatKind.f32.format.read (fbin .add .f32 1065353216 (fbin .mul .f32 u u)) = .number s m e ∧ m ≠ 0 := by
  obtain ⟨r, h1, h2, e⟩ := one_sq h
  rw [e]
  have hw : FloatKind.f32.format.read (Ieee.single.word false r) = _ := read_wordS false r (by omega)
  rw [hw, if_neg (by omega)]
  by_cases h3 : r < 2139095040
  · rw [if_pos h3]
    exact .inr ⟨_, _, _, rfl, by omega⟩
  · rw [if_neg h3, if_pos (by omega)]
    exact .inl ⟨_, rfl⟩
/-- A finite number over that. -/
theorem nan_hill {a u : Nat} (ha : isFin .f32 a = true) (h : isNaN .f32 u = false) : isNaN .f32 (fbin .quo .f32 a (fbin .add .f32 1065353216 (fbin .mul .f32 u u))) = false := by
  rcases one_sq_read h with ⟨s, hi⟩ | hn
  · obtain ⟨t, n, f, h2⟩ := fin_read ha
    apply some_num
    show (((FloatKind.f32.format.read a).quotient 25 (FloatKind.f32.format.read _)).map FloatKind.f32.format.write).isSome = true
    rw [h2, hi]; rfl
  · exact nan_quo_pos (num_fin ha) hn
end Go.Proofs.Ytmpcalpapkedhaa
