
/- How far apart two finite numbers lie: as the program tells it, as the model tells it, and the nearest one of a list for either. -/
import Derived.Test.YtogmcinaoemnpabOrW
import Derived.Test.YtogmcinaoemnpabRo
namespace Go.Proofs.Ytogmcinaoemnpab
set_option linter.all false
open Go Go.RowKit

theorem rungN_zero (e : Int) : rungN 0 e = 0 := by unfold rungN; rw [if_pos rfl]
theorem sub_pair {a b : Nat} (fa : isFin .f32 a = true) (fb : isFin .f32 b = true) :
    ∃ s t r, r ≤ 2139095040 ∧ fbin .sub .f32 a b = Ieee.single.word s r ∧ fbin .sub .f32 b a = Ieee.single.word t r ∧ (r ≠ 0 → t = !s) ∧ (r = 0 → s = true → t = false) := by
  obtain ⟨s, m, i, ha⟩ := fin_read fa
  obtain ⟨t, n, j, hb⟩ := fin_read fb
  have ha' : Ieee.single.read a = .number s m i := ha
  have hb' : Ieee.single.read b = .number t n j := hb
  have e1 : fbin .sub .f32 a b = (((Ieee.single.read a).sum (Ieee.single.read b).opposite).map Ieee.single.write).getD (qnan .f32) := rfl
  have e2 : fbin .sub .f32 b a = (((Ieee.single.read b).sum (Ieee.single.read a).opposite).map Ieee.single.write).getD (qnan .f32) := rfl
  rw [ha', hb'] at e1 e2
  simp only [Ieee.Datum.opposite, Ieee.Datum.sum] at e1 e2
  obtain ⟨T, hT⟩ : ∃ T, T = Ieee.signed s m (i - min i j).toNat + Ieee.signed (!t) n (j - min i j).toNat := ⟨_, rfl⟩
  have hT2 : Ieee.signed t n (j - min j i).toNat + Ieee.signed (!s) m (i - min j i).toNat = -T := by
    rw [hT, Int.min_comm j i]
    unfold Ieee.signed
    cases s <;> cases t <;> simp <;> omega
  rw [← hT] at e1
  rw [hT2] at e2
  have e1' : fbin .sub .f32 a b = Ieee.single.nearest (if T = 0 then s && !t else decide (T < 0)) T.natAbs (min i j) := e1
  have e2' : fbin .sub .f32 b a = Ieee.single.nearest (if -T = 0 then t && !s else decide (-T < 0)) (-T).natAbs (min j i) := e2
  rw [nearest_word] at e1' e2'
  rw [Int.natAbs_neg, Int.min_comm j i] at e2'
  refine ⟨_, _, _, rungN_le _ _, e1', e2', fun h => ?_, fun h hs => ?_⟩
  · have h0 : T ≠ 0 := fun h0 => h (by rw [h0]; exact rungN_zero _)
    rw [if_neg h0, if_neg (by omega)]
    rcases Int.lt_or_gt_of_ne h0 with h1 | h1
    · rw [decide_eq_true h1, decide_eq_false (by omega)]; rfl
    · rw [decide_eq_true (show -T < 0 by omega), decide_eq_false (by omega)]; rfl
  · by_cases h0 : T = 0
    · rw [if_pos h0] at hs
      rw [if_pos (by omega)]
      revert hs
      cases s <;> cases t <;> simp
    · rw [if_neg h0] at hs
      rw [if_neg (by omega)]
      have := of_decide_eq_true hs
      exact decide_eq_false (by omega)
theorem word_mod' (s : Bool) (r : Nat) (h : r < 2147483648) : Ieee.single.word s r % 2147483648 = r := by
  have hsw : Ieee.single.signWeight = 2147483648 := rfl
  unfold Ieee.Format.word
  rw [hsw]
  cases s <;> simp <;> omega
/-- How far apart: the program's. -/
def dW (a b : Nat) : Nat := fbin .sub .f32 a b % 2147483648
/-- .. the model's. -/
def mW (a b : Nat) : Nat := if (FloatKind.f32.format.order (fbin .sub .f32 a b) 0 == some .lt) = true then Op.negFloat .f32 (fbin .sub .f32 a b) else fbin .sub .f32 a b
theorem dW_le {a b : Nat} (fa : isFin .f32 a = true) (fb : isFin .f32 b = true) : dW a b ≤ 2139095040 := by
  obtain ⟨s, t, r, hr, e1, e2, h1, h2⟩ := sub_pair fa fb
  unfold dW
  rw [e1, word_mod' s r (by omega)]
  exact hr
theorem dist_max {a b : Nat} (fa : isFin .f32 a = true) (fb : isFin .f32 b = true) (P : Program) (ts : Array TypeId) (t : TypeId) (w : World) :
    (Builtin.max_ ts t #[.float .f32 (fbin .sub .f32 a b), .float .f32 (fbin .sub .f32 b a)]).run P w = .ok (.float .f32 (dW a b)) w := by
  obtain ⟨s, u, r, hr, e1, e2, h1, h2⟩ := sub_pair fa fb
  unfold dW
  rw [e1, e2, word_mod' s r (by omega)]
  by_cases hr' : r < 2139095040
  · rw [run_max32 P ts t s u r r hr' hr']
    congr 2
    by_cases h0 : r = 0
    · subst h0
      have := h2 rfl
      cases s
      · cases u
        · decide +kernel
        · decide +kernel
      · rw [this rfl]; decide +kernel
    · rw [h1 h0]
      cases s
      · rw [show lessW false r (!false) r = false from lessW_gt (by unfold sgR; simp; omega), if_neg (by simp), wordF]
      · rw [show lessW true r (!true) r = true from lessW_lt (by unfold sgR; simp; omega), if_pos rfl, Bool.not_true, wordF]
  · obtain rfl : r = 2139095040 := by omega
    rw [h1 (by omega), max2_eq]
    have q1 : FloatKind.f32.format.order (Ieee.single.word false 2139095040) (Ieee.single.word true 2139095040) = some .gt := by decide +kernel
    have q2 : FloatKind.f32.format.order (Ieee.single.word true 2139095040) (Ieee.single.word false 2139095040) = some .lt := by decide +kernel
    cases s
    · simp only [Builtin.max2, Bool.not_false, q1]
      rfl
    · simp only [Builtin.max2, Bool.not_true, q2]
      rfl
/-- A word that stands for a rung: it may be the zero with a sign. -/
def eqd (x r : Nat) : Prop := x = r ∨ (r = 0 ∧ x = 2147483648)
theorem mW_eqd {a b : Nat} (fa : isFin .f32 a = true) (fb : isFin .f32 b = true) : eqd (mW a b) (dW a b) := by
  obtain ⟨s, t, r, hr, e1, e2, h1, h2⟩ := sub_pair fa fb
  unfold mW dW
  rw [e1, word_mod' s r (by omega)]
  by_cases hr' : r < 2139095040
  · have o : FloatKind.f32.format.order (Ieee.single.word s r) 0 = some (compare (sgR s r) 0) := ord_words s false r 0 hr' (by omega)
    rw [o, neg_wordR s r (by omega)]
    by_cases h0 : r = 0
    · subst h0
      cases s
      · exact .inl rfl
      · exact .inr ⟨rfl, rfl⟩
    · cases s
      · rw [show compare (sgR false r) 0 = .gt from Int.compare_eq_gt.2 (by unfold sgR; simp; omega), if_neg (by simp), wordF]
        exact .inl rfl
      · rw [show compare (sgR true r) 0 = .lt from Int.compare_eq_lt.2 (by unfold sgR; simp; omega), if_pos (by simp), Bool.not_true, wordF]
        exact .inl rfl
  · obtain rfl : r = 2139095040 := by omega
    cases s
    · exact .inl (by decide +kernel)
    · exact .inl (by decide +kernel)
theorem eqd_word {x r : Nat} (h : eqd x r) : ∃ s, x = Ieee.single.word s r ∧ (s = true → r = 0) := by
  rcases h with rfl | ⟨rfl, rfl⟩
  · exact ⟨false, (wordF _).symm, fun h => by cases h⟩
  · exact ⟨true, rfl, fun _ => rfl⟩
theorem sgR_eqd {s : Bool} {r : Nat} (h : s = true → r = 0) : sgR s r = (r : Int) := by
  cases s
  · rfl
  · rw [h rfl]; rfl
/-- Two finite ones stand to one another as their rungs. -/
theorem ord_eqd {x y r q : Nat} (h : eqd x r) (g : eqd y q) (hr : r < 2139095040) (hq : q < 2139095040) : FloatKind.f32.format.order x y = some (compare (r : Int) (q : Int)) := by
  obtain ⟨s, rfl, hs⟩ := eqd_word h
  obtain ⟨t, rfl, ht⟩ := eqd_word g
  rw [ord_words s t r q hr hq, sgR_eqd hs, sgR_eqd ht]
/-- .. and to a finite number alike. -/
theorem ord_fin {x r W : Nat} (h : eqd x r) (hW : W < 4294967296) (fW : isFin .f32 W = true) : FloatKind.f32.format.order x W = FloatKind.f32.format.order r W := by
  rcases h with rfl | ⟨rfl, rfl⟩
  · rfl
  · obtain ⟨u, q, hq, rfl⟩ := fin_word hW fW
    have o1 : FloatKind.f32.format.order 2147483648 (Ieee.single.word u q) = some (compare (sgR true 0) (sgR u q)) := ord_words true u 0 q (by omega) hq
    have o2 : FloatKind.f32.format.order 0 (Ieee.single.word u q) = some (compare (sgR false 0) (sgR u q)) := ord_words false u 0 q (by omega) hq
    rw [o1, o2]
    rfl
theorem fin_le {r W : Nat} (hr : r ≤ 2139095040) (fW : isFin .f32 W = true) (h : fcmp .leq .f32 r W = true) : r < 2139095040 := by
  rcases Nat.lt_or_ge r 2139095040 with h1 | h1
  · exact h1
  · exfalso
    obtain rfl : r = 2139095040 := by omega
    obtain ⟨s, m, i, hW⟩ := fin_read fW
    have hW' : Ieee.single.read W = .number s m i := hW
    have hi : Ieee.single.read 2139095040 = .infinity false := by decide +kernel
    have : FloatKind.f32.format.order 2139095040 W = some .gt := by
      show (Ieee.single.read 2139095040).order (Ieee.single.read W) = _
      rw [hi, hW']
      rfl
    simp only [fcmp, this] at h
    cases h
/-- The nearest one of the first k of a list: its index and how far away it is. -/
def nrS (D : Nat → Nat) (W : Nat) : Nat → Int × Nat
  | 0 => (-1, 0)
  | k + 1 => if fcmp .leq .f32 (D k) W = true ∧ ((nrS D W k).1 < 0 ∨ fcmp .lss .f32 (D k) (nrS D W k).2 = true) then ((k : Int), D k) else nrS D W k
theorem nrS_ge (D : Nat → Nat) (W k : Nat) : -1 ≤ (nrS D W k).1 ∧ (nrS D W k).1 < (k : Int) := by
  induction k with
  | zero => exact ⟨by show (-1 : Int) ≤ -1; omega, by show (-1 : Int) < ((0 : Nat) : Int); omega⟩
  | succ k ih =>
    unfold nrS
    split
    · exact ⟨by show (-1 : Int) ≤ (k : Int); omega, by show (k : Int) < ((k + 1 : Nat) : Int); omega⟩
    · exact ⟨ih.1, by have := ih.2; omega⟩
theorem nrS_at (D : Nat → Nat) (W k : Nat) : (nrS D W k).1 = -1 ∨ ((nrS D W k).2 = D (nrS D W k).1.toNat ∧ fcmp .leq .f32 (nrS D W k).2 W = true) := by
  induction k with
  | zero => exact .inl rfl
  | succ k ih =>
    unfold nrS
    split
    · rename_i h
      exact .inr ⟨by show D k = D ((k : Int)).toNat; rfl, h.1⟩
    · exact ih
theorem lss_eqd {x y r q : Nat} (h : eqd x r) (g : eqd y q) (hr : r < 2139095040) (hq : q < 2139095040) : fcmp .lss .f32 x y = decide (r < q) := by
  simp only [fcmp, ord_eqd h g hr hq]
  rcases Nat.lt_trichotomy r q with h | h | h
  · rw [Int.compare_eq_lt.2 (by omega), decide_eq_true h]; rfl
  · rw [Int.compare_eq_eq.2 (by omega), decide_eq_false (by omega)]; rfl
  · rw [Int.compare_eq_gt.2 (by omega), decide_eq_false (by omega)]; rfl
theorem eql_eqd {x y r q : Nat} (h : eqd x r) (g : eqd y q) (hr : r < 2139095040) (hq : q < 2139095040) : fcmp .eql .f32 x y = decide (r = q) := by
  simp only [fcmp, ord_eqd h g hr hq]
  rcases Nat.lt_trichotomy r q with h | h | h
  · rw [Int.compare_eq_lt.2 (by omega), decide_eq_false (by omega)]; rfl
  · rw [Int.compare_eq_eq.2 (by omega), decide_eq_true h]; rfl
  · rw [Int.compare_eq_gt.2 (by omega), decide_eq_false (by omega)]; rfl
theorem leq_eqd {x y r q : Nat} (h : eqd x r) (g : eqd y q) (hr : r < 2139095040) (hq : q < 2139095040) : fcmp .leq .f32 x y = decide (r ≤ q) := by
  simp only [fcmp, ord_eqd h g hr hq]
  rcases Nat.lt_trichotomy r q with h | h | h
  · rw [Int.compare_eq_lt.2 (by omega), decide_eq_true (by omega)]; rfl
  · rw [Int.compare_eq_eq.2 (by omega), decide_eq_true (by omega)]; rfl
  · rw [Int.compare_eq_gt.2 (by omega), decide_eq_false (by omega)]; rfl
/-- The model's nearest one is the program's. -/
theorem near_same {Dm Dp : Nat → Nat} {W n : Nat} (hW : W < 4294967296) (fW : isFin .f32 W = true) (hD : ∀ k, k < n → eqd (Dm k) (Dp k) ∧ Dp k ≤ 2139095040) :
    ∀ k, k ≤ n → (nrS Dm W k).1 = (nrS Dp W k).1 ∧ (0 ≤ (nrS Dp W k).1 → eqd (nrS Dm W k).2 (nrS Dp W k).2 ∧ (nrS Dp W k).2 < 2139095040)
  | 0, _ => ⟨rfl, fun h => absurd h (by show ¬ (0 : Int) ≤ -1; omega)⟩
  | k + 1, hk => by
    obtain ⟨h1, h2⟩ := near_same hW fW hD k (by omega)
    obtain ⟨d1, d2⟩ := hD k (by omega)
    have hle : fcmp .leq .f32 (Dm k) W = fcmp .leq .f32 (Dp k) W := by simp only [fcmp, ord_fin d1 hW fW]
    have hc : (fcmp .leq .f32 (Dm k) W = true ∧ ((nrS Dm W k).1 < 0 ∨ fcmp .lss .f32 (Dm k) (nrS Dm W k).2 = true)) ↔ (fcmp .leq .f32 (Dp k) W = true ∧ ((nrS Dp W k).1 < 0 ∨ fcmp .lss .f32 (Dp k) (nrS Dp W k).2 = true)) := by
      rw [hle, h1]
      refine and_congr_right fun hl => ?_
      have hf := fin_le d2 fW hl
      by_cases h0 : (nrS Dp W k).1 < 0
      · simp [h0]
      · obtain ⟨e1, e2⟩ := h2 (by omega)
        rw [lss_eqd d1 e1 hf e2, lss_eqd (.inl rfl) (.inl rfl) hf e2]
    unfold nrS
    by_cases hp : fcmp .leq .f32 (Dp k) W = true ∧ ((nrS Dp W k).1 < 0 ∨ fcmp .lss .f32 (Dp k) (nrS Dp W k).2 = true)
    · rw [if_pos hp, if_pos (hc.2 hp)]
      exact ⟨rfl, fun _ => ⟨d1, fin_le d2 fW hp.1⟩⟩
    · rw [if_neg hp, if_neg (fun h => hp (hc.1 h))]
      exact ⟨h1, h2⟩
end Go.Proofs.Ytogmcinaoemnpab
