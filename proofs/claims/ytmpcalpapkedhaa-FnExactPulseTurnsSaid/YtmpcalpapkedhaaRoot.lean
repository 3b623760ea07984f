
/- The square root as a function of words. -/
import Derived.Test.YtmpcalpapkedhaaBd
namespace Go.Proofs.Ytmpcalpapkedhaa
open Go Go.RowKit
def fsqrt (x : Nat) : Nat := (Ieee.double.sqrt x).getD (qnan .f64)
theorem fsqrt_congr {x y : Nat} (h : canon .f64 x = canon .f64 y) : fsqrt x = fsqrt y := by
  have hn : isNaN .f64 x = isNaN .f64 y := by rw [← isNaN_canon .f64 x, h, isNaN_canon]
  cases hx : isNaN .f64 x
  · rw [canon_num hx, canon_num (by rw [← hn, hx])] at h; rw [h]
  · obtain ⟨s, t, e⟩ := nan_of hx
    obtain ⟨s', t', e'⟩ := nan_of (show isNaN .f64 y = true by rw [← hn, hx])
    have e1 : Ieee.double.read x = _ := e
    have e2 : Ieee.double.read y = _ := e'
    simp [fsqrt, Ieee.Format.sqrt, e1, e2, Ieee.Datum.root]
theorem fsqrt_pick (x s : Nat) : fsqrt (pick .f64 x s) = fsqrt x := fsqrt_congr (canon_pick ..)
theorem sqrt_num {x r : Nat} (h : Ieee.double.sqrt x = some r) : isNaN .f64 r = false := map_num (k := .f64) (fun _ e => root_num e) h
theorem run_sqrt {P : Program} (w : World) (x : Nat) : ∃ s n, (Extern.MathSqrt.sqrt #[.float .f64 x]).run P w = .ok (.float .f64 (pick .f64 (fsqrt x) s)) (w.drewN n) := by
  cases hb : Ieee.double.sqrt x with
  | some r =>
    refine ⟨0, 0, ?_⟩
    have hf : fsqrt x = r := by simp [fsqrt, hb]
    rw [hf, pick_num (sqrt_num hb)]
    have hb' : FloatKind.f64.format.sqrt x = some r := hb
    show Sem.run P (match FloatKind.f64.format.sqrt x with | some r => pure (Value.float .f64 r) | none => (choose (.nanBits .f64 x x)) >>= fun n => pure (.float .f64 n)) w = _
    rw [hb']
    rfl
  | none =>
    refine ⟨w.tape w.drawn (.nanBits .f64 x x), 1, ?_⟩
    have hf : fsqrt x = qnan .f64 := by simp [fsqrt, hb]
    rw [hf, pick_nan (isNaN_qnan .f64)]
    have hr : (choose (.nanBits .f64 x x)).run P w = .ok (nanw .f64 (w.tape w.drawn (.nanBits .f64 x x))) (w.drewN 1) := by rw [← nanw_bits .f64 x x]; rfl
    have hb' : FloatKind.f64.format.sqrt x = none := hb
    show Sem.run P (match FloatKind.f64.format.sqrt x with | some r => pure (Value.float .f64 r) | none => (choose (.nanBits .f64 x x)) >>= fun n => pure (.float .f64 n)) w = _
    rw [hb']
    simp [hr, -run_choose, -run_choose_drew]
theorem rootFrom_le (n : Nat) : ∀ (todo root : Nat), root * root ≤ n → Ieee.Datum.rootFrom n todo root * Ieee.Datum.rootFrom n todo root ≤ n := by
  intro todo
  induction todo with
  | zero => intro root h; exact h
  | succ t ih =>
    intro root h
    unfold Ieee.Datum.rootFrom
    dsimp only
    split
    · rename_i hc; exact ih _ hc
    · exact ih _ h
theorem sq_le {a b : Rat} (_ha : 0 ≤ a) (hb : 0 ≤ b) (h : a * a ≤ b * b) : a ≤ b := by
  by_cases hc : a ≤ b
  · exact hc
  · exfalso
    have h1 : b < a := by grind
    have h2 := Rat.mul_le_mul_of_nonneg_left (Rat.le_of_lt h1) hb
    have h3 : b * a < a * a := Rat.mul_lt_mul_of_pos_right h1 (by grind)
    grind
/-- The root of a number that is not negative and no greater than two to an even power. -/
theorem bd_sqrt {x : Nat} {m : Nat} {i : Int} (hd : FloatKind.decode .f64 x = .number false m i ∨ m = 0 ∧ FloatKind.decode .f64 x = .number true m i) {H : Int} (hv : (m : Rat) * two i ≤ two (H + H)) (h0 : 0 ≤ H) (h1 : H ≤ 1000) : Bd .f64 (fsqrt x) (H + 1) := by
  by_cases hm : m = 0
  · subst hm
    have hz : ∃ s, FloatKind.decode .f64 x = .number s 0 i := by
      rcases hd with h | ⟨_, h⟩
      · exact ⟨_, h⟩
      · exact ⟨_, h⟩
    obtain ⟨s, hs⟩ := hz
    have hs' : Ieee.double.read x = _ := hs
    have : fsqrt x = FloatKind.encode .f64 (.number s 0 i) := by simp [fsqrt, Ieee.Format.sqrt, hs', Ieee.Datum.root]; rfl
    rw [this]
    refine encode_bd .f64 _ _ _ _ ?_ (by simp only [lowE]; omega) (by simp only [topE]; omega)
    have := two_pos (H + 1)
    have h0 : ((0 : Nat) : Rat) = 0 := rfl
    grind
  · have hs : FloatKind.decode .f64 x = .number false m i := by
      rcases hd with h | ⟨h, _⟩
      · exact h
      · exact absurd h hm
    have hs' : Ieee.double.read x = _ := hs
    obtain ⟨more0, hm0⟩ : ∃ q, q = 2 * (Ieee.double.fractionBits + 2) - m.log2 := ⟨_, rfl⟩
    obtain ⟨more, hmo⟩ : ∃ q, q = more0 + ((i - more0) % 2).toNat := ⟨_, rfl⟩
    obtain ⟨wh, hw⟩ : ∃ q, q = Ieee.Datum.rootFrom (m <<< more) ((m <<< more).log2 / 2 + 1) 0 := ⟨_, rfl⟩
    have hval : fsqrt x = FloatKind.encode .f64 (.number false (2 * wh + (wh * wh != m <<< more).toNat) ((i - more) / 2 - 1)) := by
      simp only [fsqrt, Ieee.Format.sqrt, hs', Ieee.Datum.root, hm, if_false, Bool.false_eq_true, ← hm0, ← hmo, ← hw, Option.map_some, Option.getD_some]; rfl
    rw [hval]
    refine encode_bd .f64 _ _ _ _ ?_ (by simp only [lowE]; omega) (by simp only [topE]; omega)
    have hsq : wh * wh ≤ m * 2 ^ more := by rw [hw, ← Nat.shiftLeft_eq]; exact rootFrom_le _ _ _ (by simp)
    have hev : (i - more) / 2 + (i - more) / 2 = i - more := by omega
    have hn1 : 1 ≤ m * 2 ^ more := by have := Nat.two_pow_pos more; have := Nat.mul_le_mul (show 1 ≤ m by omega) (show 1 ≤ 2 ^ more by omega); omega
    -- wh is at least 1, or what is written is at most one half of the last place
    have r1 : ((wh : Rat) * two ((i - more) / 2)) * ((wh : Rat) * two ((i - more) / 2)) ≤ two H * two H := by
      have e1 : ((wh : Rat) * two ((i - more) / 2)) * ((wh : Rat) * two ((i - more) / 2)) = (wh : Rat) * (wh : Rat) * two (i - more) := by
        have : two (i - more) = two ((i - more) / 2) * two ((i - more) / 2) := by rw [← two_add, hev]
        rw [this]; grind
      have e2 : ((wh : Rat) * (wh : Rat)) ≤ (m : Rat) * two (more : Int) := by rw [two_nat]; exact_mod_cast hsq
      have e3 : two (more : Int) * two (i - more) = two i := by rw [← two_add]; congr 1; omega
      have e4 := Rat.mul_le_mul_of_nonneg_right e2 (Rat.le_of_lt (two_pos (i - more)))
      rw [e1, ← two_add]
      have e5 : (m : Rat) * two (more : Int) * two (i - more) = (m : Rat) * two i := by rw [Rat.mul_assoc, e3]
      rw [e5] at e4
      exact Rat.le_trans e4 hv
    have r2 := sq_le (Rat.mul_nonneg (natCast_nonneg wh) (Rat.le_of_lt (two_pos _))) (Rat.le_of_lt (two_pos H)) r1
    have hone : (1 : Rat) * two ((i - more) / 2) ≤ two H := by
      have e1 : ((1 : Rat) * two ((i - more) / 2)) * ((1 : Rat) * two ((i - more) / 2)) ≤ two H * two H := by
        have a1 : ((1 : Rat) * two ((i - more) / 2)) * ((1 : Rat) * two ((i - more) / 2)) = two (i - more) := by
          have : two (i - more) = two ((i - more) / 2) * two ((i - more) / 2) := by rw [← two_add, hev]
          rw [this]; grind
        have a2 : (1 : Rat) ≤ (m : Rat) * two (more : Int) := by rw [two_nat]; exact_mod_cast hn1
        have a3 : two (more : Int) * two (i - more) = two i := by rw [← two_add]; congr 1; omega
        have a4 := Rat.mul_le_mul_of_nonneg_right a2 (Rat.le_of_lt (two_pos (i - more)))
        have a5 : (m : Rat) * two (more : Int) * two (i - more) = (m : Rat) * two i := by rw [Rat.mul_assoc, a3]
        rw [a1, ← two_add]
        grind
      exact sq_le (by have := two_pos ((i - more) / 2); grind) (Rat.le_of_lt (two_pos H)) e1
    have hb : (2 * wh + (wh * wh != m <<< more).toNat : Nat) ≤ 2 * wh + 1 := by have := Bool.toNat_le (wh * wh != m <<< more); omega
    generalize 2 * wh + (wh * wh != m <<< more).toNat = K at *
    have hK : (K : Rat) ≤ 2 * (wh : Rat) + 1 := by exact_mod_cast hb
    have e6 : two ((i - more) / 2 - 1) * 2 = two ((i - more) / 2) := by
      have a2 : (2 : Rat) = two 1 := by decide +kernel
      rw [a2, ← two_add]; congr 1; omega
    have e7 : two (H + 1) = two H * 2 := by
      have a2 : (2 : Rat) = two 1 := by decide +kernel
      rw [a2, ← two_add]
    have pp := two_pos ((i - more) / 2 - 1)
    have s1 := Rat.mul_le_mul_of_nonneg_right hK (Rat.le_of_lt pp)
    rw [e7]
    have s2 : (2 * (wh : Rat) + 1) * two ((i - more) / 2 - 1) = (wh : Rat) * (two ((i - more) / 2 - 1) * 2) + two ((i - more) / 2 - 1) := by
      generalize two ((i - more) / 2 - 1) = p
      grind
    rw [s2, e6] at s1
    rw [Rat.one_mul] at hone
    generalize (wh : Rat) * two ((i - more) / 2) = A at *
    generalize two ((i - more) / 2) = B at *
    generalize two ((i - more) / 2 - 1) = C at *
    generalize two H = D at *
    generalize (K : Rat) * C = E at *
    clear hK hb hval hev hsq hw hmo hm0 hs' hs hd hv
    grind
end Go.Proofs.Ytmpcalpapkedhaa
