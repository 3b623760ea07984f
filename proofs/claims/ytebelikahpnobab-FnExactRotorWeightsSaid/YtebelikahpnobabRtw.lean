/- The weights of a rotor's levels: numbers from 0 on, whose sum is finite. -/
import Derived.Test.YtebelikahpnobabCroP
import Derived.Test.YtebelikahpnobabSmN
import Derived.Test.YtebelikahpnobabQ
namespace Go.Proofs.Ytebelikahpnobab
open Go Go.ChangeShapes Go.WideShapes Go.ChangeAt Go.RowKit

def bdB (x : Nat) (B : Int) : Bool := match FloatKind.decode .f32 x with
  | .number _ m e => decide ((m : Rat) * two e ≤ two B)
  | _ => false
theorem bdB_bd {x : Nat} {B : Int} (h : bdB x B = true) : Bd .f32 x B := by
  unfold bdB at h
  cases hd : FloatKind.decode .f32 x with
  | nan => rw [hd] at h; cases h
  | infinity => rw [hd] at h; cases h
  | number s m e => rw [hd] at h; exact ⟨s, m, e, hd, of_decide_eq_true h⟩
theorem odd_bd : ∀ j : Nat, j < 40 → bdB (floatOfInt .f32 (2 * (j : Int) + 1)) 7 = true := by decide +kernel
theorem expF_bd {x : Nat} (h : NegX x) : Bd .f32 (expF x) 0 := by
  obtain ⟨_, _, _, hb⟩ := exp_facts h
  unfold expF
  cases h2 : (FloatKind.f32.format.order x 3276275712 == some .lt)
  · rw [if_neg (by simp)]
    obtain ⟨m, e, hd, hv⟩ := hb h2
    have hn : isNaN .f64 (expWd x) = false := by unfold isNaN; rw [hd]; rfl
    unfold expV fconv
    rw [if_neg (by rw [hn]; simp), hd]
    exact encode_bd .f32 false m e 0 hv (by decide) (by decide)
  · rw [if_pos rfl]
    exact ⟨false, 0, -149, by decide +kernel, by decide +kernel⟩
def rtB (b t j : Nat) : Nat := fbin .sub .f32 0 (fbin .quo .f32 (fbin .mul .f32 b (qF j)) t)
def rtA (b t j : Nat) : Nat := fbin .quo .f32 (fbin .sub .f32 0 (fbin .mul .f32 b (qF j))) t
def rtW (b t j : Nat) : Nat := fbin .mul .f32 (floatOfInt .f32 (2 * (j : Int) + 1)) (expF (rtB b t j))
theorem qF_dec : ∀ j : Nat, j < 40 → (match FloatKind.decode .f32 (qF j) with | .number s _ _ => !s | _ => false) = true := by decide +kernel
/-- A number that is at least 0, by one with the sign +: a word that is no not-a-number, and, if its sign is -, a zero. -/
theorem nn_word {b q : Nat} (hb : isG b = true) (hq : (match FloatKind.decode .f32 q with | .number s _ _ => !s | _ => false) = true) : ∃ s r, r ≤ 2139095040 ∧ fbin .mul .f32 b q = Ieee.single.word s r ∧ (s = true → r = 0) := by
  have hf : isFin .f32 b = true := by unfold isG at hb; rw [Bool.and_eq_true] at hb; exact hb.1
  obtain ⟨s, m, e, hd⟩ := fin_dec hf
  obtain ⟨m', e', hq'⟩ : ∃ m' e', FloatKind.decode .f32 q = .number false m' e' := by
    cases h : FloatKind.decode .f32 q with
    | nan => rw [h] at hq; cases hq
    | infinity => rw [h] at hq; cases hq
    | number t m' e' =>
      rw [h] at hq
      cases t
      · exact ⟨m', e', rfl⟩
      · cases hq
  have hd' : Ieee.single.read b = _ := hd
  have hq'' : Ieee.single.read q = _ := hq'
  have hz : s = true → m = 0 := by
    intro hs
    subst hs
    have o := order_val hd dec0_32
    have z1 : sval false 0 (-149) = 0 := by decide +kernel
    rw [z1] at o
    by_cases h0 : m = 0
    · exact h0
    · exfalso
      have : sval true m e < 0 := by
        have pm : (0 : Rat) < (m : Rat) := by exact_mod_cast (by omega : 0 < m)
        have := Rat.mul_pos pm (two_pos e)
        unfold sval
        simp only [if_true]
        grind
      unfold isG at hb
      rw [o.1 this, hf] at hb
      cases hb
  have h1 : fbin .mul .f32 b q = Ieee.single.word s (rungN (m * m') (e + e')) := by
    have : fbin .mul .f32 b q = (((Ieee.single.read b).product (Ieee.single.read q)).map Ieee.single.write).getD (qnan .f32) := rfl
    rw [this, hd', hq'']
    simp only [Ieee.Datum.product, Option.map_some, Option.getD_some]
    show Ieee.single.nearest _ _ _ = _
    rw [nearest_word]
    cases s <;> rfl
  refine ⟨s, _, rungN_le _ _, h1, fun hs => ?_⟩
  rw [hz hs, Nat.zero_mul]
  rfl
theorem rt_args {b t j : Nat} (hb : isG b = true) (ht : isP t = true) (hj : j < 40) : SameZ (rtA b t j) (rtB b t j) ∧ NegX (rtB b t j) := by
  obtain ⟨s, r, hr, hw, hs⟩ := nn_word hb (qF_dec j hj)
  obtain ⟨n, k, hsp, hn⟩ := isP_dec ht
  unfold rtA rtB
  rw [hw]
  refine ⟨neg_quo s r hr hsp hn, ?_⟩
  obtain ⟨Q, hQ, hq⟩ := quo_word r hr hsp hn
  rw [hq, sub_zero _ _ hQ]
  cases s
  · exact negX_word Q hQ
  · have h0 := hs rfl
    subst h0
    have e := hq true
    have hQ0 : Q = 0 ∨ Q ≠ 0 := by omega
    rcases hQ0 with h | h
    · rw [if_pos h]; exact .inl ⟨false, 0, -149, zero_dec, .inr rfl⟩
    · exfalso
      have h2 := hq false
      have hz : Ieee.single.read (Ieee.single.word false 0) = .number false 0 (-149) := zero_dec
      have hsp' : Ieee.single.read t = _ := hsp
      have q0 : fbin .quo .f32 (Ieee.single.word false 0) t = 0 := by
        have : fbin .quo .f32 (Ieee.single.word false 0) t = (((Ieee.single.read (Ieee.single.word false 0)).quotient 25 (Ieee.single.read t)).map Ieee.single.write).getD (qnan .f32) := rfl
        rw [this, hz, hsp']
        simp only [Ieee.Datum.quotient, if_neg hn, Nat.zero_shiftLeft, Nat.zero_div, Nat.mul_zero, Nat.zero_mod, bne_self_eq_false, Bool.toNat_false, Nat.add_zero]
        rw [Option.map_some, Option.getD_some]
        show Ieee.single.nearest _ _ _ = _
        rw [nearest_word]
        rfl
      rw [q0] at h2
      have : Ieee.single.word (false ^^ false) Q = Q := rfl
      rw [this] at h2
      exact h h2.symm
theorem rtW_bd {b t j : Nat} (hb : isG b = true) (ht : isP t = true) (hj : j < 40) : Bd .f32 (rtW b t j) 7 := by
  have := bd_mul (bdB_bd (odd_bd j hj)) (expF_bd (rt_args hb ht hj).2) (by decide) (by decide)
  exact this
theorem sum_bd {b t : Nat} (hb : isG b = true) (ht : isP t = true) : ∀ k : Nat, k ≤ 40 → Bd .f32 (sumW (rtW b t) k) (7 + (k : Int))
  | 0, _ => ⟨false, 0, -149, show FloatKind.decode .f32 0 = _ by decide +kernel, zero_val _ _⟩
  | k + 1, h => by
    have ih := sum_bd hb ht k (by omega)
    have := bd_add ih ((rtW_bd hb ht (show k < 40 by omega)).mono (by omega)) (by simp only [lowE]; omega) (by simp only [topE]; omega)
    rw [show (7 : Int) + ((k + 1 : Nat) : Int) = 7 + (k : Int) + 1 by omega]
    exact this
theorem bd_fin {x : Nat} {B : Int} (h : Bd .f32 x B) : isFin .f32 x = true := by
  obtain ⟨s, m, e, hd, _⟩ := h
  unfold isFin
  rw [hd]
  rfl
theorem sumW_congr {X Y : Nat → Nat} : ∀ k, (∀ i, i < k → X i = Y i) → sumW X k = sumW Y k
  | 0, _ => rfl
  | k + 1, h => by
    show fbin .add .f32 (sumW X k) (X k) = fbin .add .f32 (sumW Y k) (Y k)
    rw [sumW_congr k (fun i hi => h i (by omega)), h k (by omega)]
theorem isP_eq (t : Nat) : isP t = (isG t && !(FloatKind.f32.format.order t 0 == some .eq)) := by
  unfold isP isG
  cases isFin .f32 t
  · rfl
  · cases FloatKind.f32.format.order t 0 with
    | none => rfl
    | some o => cases o <;> rfl
end Go.Proofs.Ytebelikahpnobab
