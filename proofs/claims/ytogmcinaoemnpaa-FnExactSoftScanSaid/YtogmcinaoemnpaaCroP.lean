
/- What is less than a crossing is asked for: 0 less a number that is at least 0, by one that is greater, as both take it. -/
import Derived.Test.YtogmcinaoemnpaaNegR
import Derived.Test.YtogmcinaoemnpaaExpP
import Derived.Test.YtogmcinaoemnpaaGeA
namespace Go.Proofs.Ytogmcinaoemnpaa
open Go Go.RowKit

theorem fin_dec {x : Nat} (h : isFin .f32 x = true) : ∃ s m e, FloatKind.decode .f32 x = .number s m e := by
  unfold isFin at h
  cases hd : FloatKind.decode .f32 x with
  | nan => simp [hd, Ieee.Datum.isNaN] at h
  | infinity => simp [hd, Ieee.Datum.isInfinity] at h
  | number s m e => exact ⟨s, m, e, rfl⟩
theorem isP_dec {x : Nat} (h : isP x = true) : ∃ m e, FloatKind.decode .f32 x = .number false m e ∧ m ≠ 0 := by
  unfold isP at h
  rw [Bool.and_eq_true] at h
  obtain ⟨s, m, e, hd⟩ := fin_dec h.1
  have o := order_val hd dec0_32
  have z1 : sval false 0 (-149) = 0 := by decide +kernel
  rw [z1] at o
  have hpos : 0 < sval s m e := by
    by_cases c1 : sval s m e < 0
    · rw [o.1 c1] at h; cases h.2
    · by_cases c2 : sval s m e = 0
      · rw [o.2.1 c2] at h; cases h.2
      · grind
  have nn := Rat.mul_nonneg (natCast_nonneg m) (Rat.le_of_lt (two_pos e))
  cases s
  · refine ⟨m, e, hd, fun h0 => ?_⟩
    subst h0
    have h0 : ((0 : Nat) : Rat) = 0 := rfl
    unfold sval at hpos
    simp only [Bool.false_eq_true, if_false, h0, Rat.zero_mul] at hpos
    grind
  · exfalso
    unfold sval at hpos
    simp only [if_true] at hpos
    grind
theorem sq_word {c m0 m : Nat} {i0 e : Int} {s : Bool} {x : Nat} (hc : FloatKind.decode .f32 c = .number false m0 i0) (hd : FloatKind.decode .f32 x = .number s m e) : ∃ r, r ≤ 2139095040 ∧ fbin .mul .f32 (fbin .mul .f32 c x) x = Ieee.single.word false r := by
  have hc' : Ieee.single.read c = _ := hc
  have hd' : Ieee.single.read x = _ := hd
  have mul : ∀ w, fbin .mul .f32 w x = (((Ieee.single.read w).product (.number s m e)).map Ieee.single.write).getD (qnan .f32) := fun w => by rw [← hd']; rfl
  have h1 : fbin .mul .f32 c x = Ieee.single.word s (rungN (m0 * m) (i0 + e)) := by
    rw [mul, hc']
    simp only [Ieee.Datum.product, Option.map_some, Option.getD_some]
    show Ieee.single.nearest _ _ _ = _
    rw [nearest_word]
    cases s <;> rfl
  have hm0 : m = 0 → rungN (m0 * m) (i0 + e) = 0 := fun h => by subst h; rw [Nat.mul_zero]; rfl
  have hle := rungN_le (m0 * m) (i0 + e)
  rw [h1]
  generalize rungN (m0 * m) (i0 + e) = r at *
  have hw := read_wordS s r (by omega)
  have hw' : Ieee.single.read (Ieee.single.word s r) = _ := hw
  have hs : (s ^^ s) = false := by cases s <;> rfl
  rw [mul, hw']
  by_cases c1 : r < 8388608
  · rw [if_pos c1]
    simp only [Ieee.Datum.product, Option.map_some, Option.getD_some, hs]
    refine ⟨_, rungN_le (r * m) (-149 + e), ?_⟩
    show Ieee.single.nearest _ _ _ = _
    rw [nearest_word]
  · rw [if_neg c1]
    by_cases c2 : r < 2139095040
    · rw [if_pos c2]
      simp only [Ieee.Datum.product, Option.map_some, Option.getD_some, hs]
      refine ⟨_, rungN_le ((8388608 + r % 8388608) * m) (-149 + ((r / 8388608 - 1 : Nat) : Int) + e), ?_⟩
      show Ieee.single.nearest _ _ _ = _
      rw [nearest_word]
    · rw [if_neg c2, if_pos (by omega)]
      have hm : m ≠ 0 := fun h => by have := hm0 h; omega
      simp only [Ieee.Datum.product, if_neg hm, Option.map_some, Option.getD_some, hs]
      exact ⟨2139095040, Nat.le_refl _, rfl⟩
/-- What the power is taken of: both are the same, or a zero each, and none is above 0. -/
def NegX (x : Nat) : Prop := (∃ s m e, FloatKind.decode .f32 x = .number s m e ∧ (s = true ∨ m = 0)) ∨ FloatKind.decode .f32 x = .infinity true
theorem negX_word (Q : Nat) (h : Q ≤ 2139095040) : NegX (if Q = 0 then 0 else Ieee.single.word true Q) := by
  by_cases h0 : Q = 0
  · rw [if_pos h0]
    exact .inl ⟨false, 0, -149, zero_dec, .inr rfl⟩
  · rw [if_neg h0]
    have hw := read_wordS true Q (by omega)
    by_cases c1 : Q < 8388608
    · rw [if_pos c1] at hw; exact .inl ⟨_, _, _, hw, .inl rfl⟩
    · rw [if_neg c1] at hw
      by_cases c2 : Q < 2139095040
      · rw [if_pos c2] at hw; exact .inl ⟨_, _, _, hw, .inl rfl⟩
      · rw [if_neg c2, if_pos (by omega)] at hw; exact .inr hw
theorem cross_args {c m0 x sp : Nat} {i0 : Int} (hc : FloatKind.decode .f32 c = .number false m0 i0) (hx : isFin .f32 x = true) (hs : isP sp = true) :
    SameZ (fbin .quo .f32 (fbin .sub .f32 0 (fbin .mul .f32 (fbin .mul .f32 c x) x)) sp) (fbin .sub .f32 0 (fbin .quo .f32 (fbin .mul .f32 (fbin .mul .f32 c x) x) sp)) ∧
    NegX (fbin .sub .f32 0 (fbin .quo .f32 (fbin .mul .f32 (fbin .mul .f32 c x) x) sp)) := by
  obtain ⟨s, m, e, hd⟩ := fin_dec hx
  obtain ⟨n, j, hsp, hn⟩ := isP_dec hs
  obtain ⟨r, hr, hw⟩ := sq_word hc hd
  rw [hw]
  refine ⟨neg_quo false r hr hsp hn, ?_⟩
  obtain ⟨Q, hQ, hq⟩ := quo_word r hr hsp hn
  rw [hq, sub_zero _ _ hQ]
  exact negX_word Q hQ
theorem SameZ.negX {a b : Nat} (h : SameZ a b) (hb : NegX b) : NegX a := by
  rcases h with h | ⟨h1 | h1, h2⟩
  · rw [h]; exact hb
  · rw [h1]; exact .inl ⟨false, 0, -149, zero_dec, .inr rfl⟩
  · rw [h1]; exact .inl ⟨true, 0, -149, by decide +kernel, .inl rfl⟩
/-- The power of e of x, which is not above 0. -/
def expF (x : Nat) : Nat := if (FloatKind.f32.format.order x 3276275712 == some .lt) = true then 0 else expV x
theorem expF_zero : expF 2147483648 = expF 0 := by decide +kernel
theorem SameZ.expF {a b : Nat} (h : SameZ a b) : expF a = expF b := by
  rcases h with h | ⟨h1 | h1, h2⟩
  · rw [h]
  · rw [h1, h2]
  · rw [h1, h2]; exact expF_zero
theorem negX_num {x : Nat} (h : NegX x) : isNaN .f32 x = false := by
  unfold isNaN
  rcases h with ⟨s, m, e, hd, _⟩ | hd <;> rw [hd] <;> rfl
theorem exp_facts {X : Nat} (h : NegX X) : (FloatKind.f32.format.order X 1128792064 == some .gt) = false ∧ (FloatKind.f64.format.order (fconv .f32 X .f64) 4641240890982006784 == some .gt) = false ∧
    (FloatKind.f64.format.order (fconv .f32 X .f64) 13864612927836782592 == some .lt) = (FloatKind.f32.format.order X 3276275712 == some .lt) ∧ ((FloatKind.f32.format.order X 3276275712 == some .lt) = false → Pb (expWd X) 0) := by
  rcases h with ⟨s, m, e, hd, hs⟩ | hd
  · obtain ⟨a, b, c, d⟩ := exp_tests hd hs
    exact ⟨a, b, c, fun h => expNeg_ok hd hs (d h)⟩
  · have hn : isNaN .f32 X = false := by unfold isNaN; rw [hd]; rfl
    have hf : fconv .f32 X .f64 = FloatKind.encode .f64 (.infinity true) := by
      unfold fconv
      rw [if_neg (by rw [hn]; simp), hd]
    have hd' : Ieee.single.read X = .infinity true := hd
    have o1 : FloatKind.f32.format.order X 1128792064 = some .lt := by
      show (Ieee.single.read X).order (Ieee.single.read 1128792064) = _
      rw [hd']; decide +kernel
    have o2 : FloatKind.f32.format.order X 3276275712 = some .lt := by
      show (Ieee.single.read X).order (Ieee.single.read 3276275712) = _
      rw [hd']; decide +kernel
    rw [o1, o2, hf]
    exact ⟨rfl, by decide +kernel, by decide +kernel, fun h => by cases h⟩
end Go.Proofs.Ytogmcinaoemnpaa
