
/- How two finite 32-bit numbers stand to one another: as their words tell; the greater and the lesser of two. -/
import Derived.Test.YtogmcinaoemnpabNegQ
import Derived.Test.YtogmcinaoemnpabAbsW
import Derived.Test.YtogmcinaoemnpabNeg
namespace Go.Proofs.Ytogmcinaoemnpab
open Go Go.RowKit

/-- What a rung stands for, in the least steps. -/
def vW (r : Nat) : Nat := if r < 8388608 then r else (8388608 + r % 8388608) * 2 ^ (r / 8388608 - 1)
theorem vW_lt {a b : Nat} (h : a < b) : vW a < vW b := by
  unfold vW
  by_cases ha : a < 8388608
  · rw [if_pos ha]
    by_cases hb : b < 8388608
    · rw [if_pos hb]; exact h
    · rw [if_neg hb]
      have := Nat.mul_le_mul (show 8388608 ≤ 8388608 + b % 8388608 by omega) (Nat.two_pow_pos (b / 8388608 - 1))
      omega
  · rw [if_neg ha, if_neg (by omega)]
    obtain ⟨E, hE⟩ : ∃ E, E = a / 8388608 := ⟨_, rfl⟩
    obtain ⟨F, hF⟩ : ∃ F, F = b / 8388608 := ⟨_, rfl⟩
    rw [← hE, ← hF]
    by_cases hEF : E = F
    · have hp := Nat.two_pow_pos (F - 1)
      rw [hEF]
      exact Nat.mul_lt_mul_of_pos_right (by omega) hp
    · have h1 : (8388608 + a % 8388608) * 2 ^ (E - 1) < 16777216 * 2 ^ (E - 1) := Nat.mul_lt_mul_of_pos_right (by omega) (Nat.two_pow_pos _)
      have h2 : 16777216 * 2 ^ (E - 1) = 8388608 * 2 ^ E := by
        have : 2 ^ E = 2 * 2 ^ (E - 1) := by rw [show E = (E - 1) + 1 by omega, Nat.pow_succ, show E - 1 + 1 - 1 = E - 1 by omega]; omega
        rw [this]; omega
      have h3 : 8388608 * 2 ^ E ≤ (8388608 + b % 8388608) * 2 ^ (F - 1) := Nat.mul_le_mul (by omega) (Nat.pow_le_pow_right (by omega) (by omega))
      omega
theorem vW_le {a b : Nat} (h : a ≤ b) : vW a ≤ vW b := by
  rcases Nat.lt_or_ge a b with h1 | h1
  · exact Nat.le_of_lt (vW_lt h1)
  · rw [show a = b by omega]; exact Nat.le_refl _
theorem read_vW (s : Bool) (r : Nat) (h : r < 2139095040) : ∃ (m : Nat) (e : Int), FloatKind.decode .f32 (Ieee.single.word s r) = .number s m e ∧ -149 ≤ e ∧ m * 2 ^ (e + 149).toNat = vW r := by
  rw [read_wordS s r (by omega)]
  unfold vW
  by_cases h1 : r < 8388608
  · rw [if_pos h1, if_pos h1]
    exact ⟨r, -149, rfl, by omega, by simp⟩
  · rw [if_neg h1, if_pos h, if_neg h1]
    refine ⟨_, _, rfl, by omega, ?_⟩
    rw [show (-149 + ((r / 8388608 - 1 : Nat) : Int) + 149).toNat = r / 8388608 - 1 by omega]
/-- The rung with its sign. -/
def sgR (s : Bool) (a : Nat) : Int := if s = true then -(a : Int) else a
theorem sgV_lt {s t : Bool} {a b : Nat} (h : sgR s a < sgR t b) : sgR s (vW a) < sgR t (vW b) := by
  have v0 : vW 0 = 0 := rfl
  unfold sgR at *
  cases s <;> cases t <;> simp only [Bool.false_eq_true, if_false, if_true] at *
  · have := vW_lt (show a < b by omega); omega
  · omega
  · by_cases ha : a = 0
    · subst ha
      have := vW_lt (show 0 < b by omega)
      omega
    · have := vW_lt (show 0 < a by omega)
      omega
  · have := vW_lt (show b < a by omega); omega
theorem sgV_eq {s t : Bool} {a b : Nat} (h : sgR s a = sgR t b) : sgR s (vW a) = sgR t (vW b) := by
  have v0 : vW 0 = 0 := rfl
  unfold sgR at *
  cases s <;> cases t <;> simp only [Bool.false_eq_true, if_false, if_true] at *
  · rw [show a = b by omega]
  · rw [show a = 0 by omega, show b = 0 by omega, v0]; rfl
  · rw [show a = 0 by omega, show b = 0 by omega, v0]; rfl
  · rw [show a = b by omega]
theorem cmp_scale {x y X Y K : Int} (hK : 0 < K) (hx : x * K = X) (hy : y * K = Y) : compare x y = compare X Y := by
  rcases Int.lt_trichotomy x y with h | h | h
  · have : X < Y := by rw [← hx, ← hy]; exact Int.mul_lt_mul_of_pos_right h hK
    rw [Int.compare_eq_lt.2 h, Int.compare_eq_lt.2 this]
  · have : X = Y := by rw [← hx, ← hy, h]
    rw [Int.compare_eq_eq.2 h, Int.compare_eq_eq.2 this]
  · have : Y < X := by rw [← hx, ← hy]; exact Int.mul_lt_mul_of_pos_right h hK
    rw [Int.compare_eq_gt.2 h, Int.compare_eq_gt.2 this]
theorem signed_scale (s : Bool) (m : Nat) (i b : Int) (h1 : b ≤ i) (h2 : -149 ≤ b) {V : Nat} (hV : m * 2 ^ (i + 149).toNat = V) : Ieee.signed s m (i - b).toNat * ((2 ^ (b + 149).toNat : Nat) : Int) = sgR s V := by
  have e : m * 2 ^ (i - b).toNat * 2 ^ (b + 149).toNat = V := by
    rw [Nat.mul_assoc, ← Nat.pow_add, show (i - b).toNat + (b + 149).toNat = (i + 149).toNat by omega, hV]
  have e' : ((m * 2 ^ (i - b).toNat : Nat) : Int) * ((2 ^ (b + 149).toNat : Nat) : Int) = (V : Int) := by rw [← e, ← Int.natCast_mul]
  unfold Ieee.signed sgR
  rw [Nat.shiftLeft_eq]
  cases s
  · rw [if_neg (by simp), if_neg (by simp), e']
  · rw [if_pos rfl, if_pos rfl, Int.neg_mul, e']
theorem ord_words (s t : Bool) (a b : Nat) (ha : a < 2139095040) (hb : b < 2139095040) : FloatKind.f32.format.order (Ieee.single.word s a) (Ieee.single.word t b) = some (compare (sgR s a) (sgR t b)) := by
  obtain ⟨m, i, h1, i1, v1⟩ := read_vW s a ha
  obtain ⟨n, j, h2, j1, v2⟩ := read_vW t b hb
  have h1' : FloatKind.f32.format.read (Ieee.single.word s a) = _ := h1
  have h2' : FloatKind.f32.format.read (Ieee.single.word t b) = _ := h2
  unfold Ieee.Format.order
  rw [h1', h2']
  simp only [Ieee.Datum.order]
  have hK : (0 : Int) < ((2 ^ (min i j + 149).toNat : Nat) : Int) := by exact_mod_cast Nat.two_pow_pos _
  rw [cmp_scale hK (signed_scale s m i (min i j) (by omega) (by omega) v1) (signed_scale t n j (min i j) (by omega) (by omega) v2)]
  congr 1
  rcases Int.lt_trichotomy (sgR s a) (sgR t b) with h | h | h
  · rw [Int.compare_eq_lt.2 h, Int.compare_eq_lt.2 (sgV_lt h)]
  · rw [Int.compare_eq_eq.2 h, Int.compare_eq_eq.2 (sgV_eq h)]
  · rw [Int.compare_eq_gt.2 h, Int.compare_eq_gt.2 (sgV_lt h)]
/-- A finite word is one of a sign and a rung. -/
theorem fin_word {x : Nat} (hx : x < 4294967296) (hf : isFin .f32 x = true) : ∃ s r, r < 2139095040 ∧ x = Ieee.single.word s r := by
  obtain ⟨s, r, hr, rfl⟩ := word_of x hx
  refine ⟨s, r, ?_, rfl⟩
  unfold isFin at hf
  rw [read_wordS s r hr] at hf
  by_cases h1 : r < 8388608
  · omega
  · rw [if_neg h1] at hf
    by_cases h2 : r < 2139095040
    · exact h2
    · rw [if_neg h2] at hf
      by_cases h3 : r = 2139095040
      · rw [if_pos h3] at hf; cases hf
      · rw [if_neg h3] at hf; cases hf
theorem word_fin (s : Bool) (r : Nat) (h : r < 2139095040) : isFin .f32 (Ieee.single.word s r) = true := by
  obtain ⟨m, e, h1, _⟩ := read_vW s r h
  unfold isFin; rw [h1]; rfl
theorem wordF (r : Nat) : Ieee.single.word false r = r := by unfold Ieee.Format.word; simp
theorem neg_wordR (s : Bool) (r : Nat) (h : r < 2147483648) : Op.negFloat .f32 (Ieee.single.word s r) = Ieee.single.word (!s) r := by
  have hsw : Ieee.single.signWeight = 2147483648 := rfl
  have e : ∀ b, Op.negFloat .f32 b = b ^^^ 2 ^ 31 := fun b => rfl
  rw [e]
  unfold Ieee.Format.word
  rw [hsw]
  cases s
  · simp only [Bool.false_eq_true, if_false, Bool.not_false, if_true]
    exact xor_low 31 r (by simpa using h)
  · simp only [Bool.not_true, Bool.false_eq_true, if_false, if_true]
    exact xor_high 31 r (by simpa using h)
theorem neg_read (s : Bool) (r : Nat) (h : r < 2139095040) : (FloatKind.f32.decode (Ieee.single.word s r)).neg = s := by
  obtain ⟨m, e, h1, _⟩ := read_vW s r h
  rw [h1]; rfl
theorem max2_eq (ts : Array TypeId) (t : TypeId) (x y : Nat) : Builtin.max_ ts t #[.float .f32 x, .float .f32 y] = Builtin.max2 (.float .f32 x) (.float .f32 y) := by
  show (do let z ← Builtin.max2 (.float .f32 x) (.float .f32 y); [].foldlM Builtin.max2 z) = _
  simp
theorem min2_eq (ts : Array TypeId) (t : TypeId) (x y : Nat) : Builtin.min_ ts t #[.float .f32 x, .float .f32 y] = Builtin.min2 (.float .f32 x) (.float .f32 y) := by
  show (do let z ← Builtin.min2 (.float .f32 x) (.float .f32 y); [].foldlM Builtin.min2 z) = _
  simp
/-- Whether the first of two is the lesser one; of two zeros, the first one if it has a sign. -/
def lessW (s : Bool) (a : Nat) (u : Bool) (b : Nat) : Bool := decide (sgR s a < sgR u b) || (decide (sgR s a = sgR u b) && s)
theorem lessW_lt {s u : Bool} {a b : Nat} (h : sgR s a < sgR u b) : lessW s a u b = true := by unfold lessW; rw [decide_eq_true h]; rfl
theorem lessW_eq {s u : Bool} {a b : Nat} (h : sgR s a = sgR u b) : lessW s a u b = s := by
  unfold lessW; rw [decide_eq_false (show ¬ sgR s a < sgR u b by omega), decide_eq_true h, Bool.false_or, Bool.true_and]
theorem lessW_gt {s u : Bool} {a b : Nat} (h : sgR u b < sgR s a) : lessW s a u b = false := by
  unfold lessW; rw [decide_eq_false (show ¬ sgR s a < sgR u b by omega), decide_eq_false (show ¬ sgR s a = sgR u b by omega)]; rfl
theorem lessW_le {s u : Bool} {a b : Nat} (h : lessW s a u b = true) : sgR s a ≤ sgR u b := by
  rcases Int.lt_or_le (sgR u b) (sgR s a) with h1 | h1
  · rw [lessW_gt h1] at h; cases h
  · exact h1
theorem lessW_ge {s u : Bool} {a b : Nat} (h : lessW s a u b = false) : sgR u b ≤ sgR s a := by
  rcases Int.lt_or_le (sgR s a) (sgR u b) with h1 | h1
  · rw [lessW_lt h1] at h; cases h
  · exact h1
/-- The greater of two finite numbers: one of them. -/
theorem run_max32 (P : Program) (ts : Array TypeId) (t : TypeId) (s u : Bool) (a b : Nat) (ha : a < 2139095040) (hb : b < 2139095040) (w : World) :
    (Builtin.max_ ts t #[.float .f32 (Ieee.single.word s a), .float .f32 (Ieee.single.word u b)]).run P w = .ok (.float .f32 (if lessW s a u b = true then Ieee.single.word u b else Ieee.single.word s a)) w := by
  rw [max2_eq]
  rcases Int.lt_trichotomy (sgR s a) (sgR u b) with h | h | h
  · rw [lessW_lt h, if_pos rfl]
    simp only [Builtin.max2, ord_words s u a b ha hb, Int.compare_eq_lt.2 h]
    rfl
  · rw [lessW_eq h]
    simp only [Builtin.max2, ord_words s u a b ha hb, Int.compare_eq_eq.2 h, neg_read s a ha]
    cases s <;> rfl
  · rw [lessW_gt h, if_neg (by simp)]
    simp only [Builtin.max2, ord_words s u a b ha hb, Int.compare_eq_gt.2 h]
    rfl
theorem run_min32 (P : Program) (ts : Array TypeId) (t : TypeId) (s u : Bool) (a b : Nat) (ha : a < 2139095040) (hb : b < 2139095040) (w : World) :
    (Builtin.min_ ts t #[.float .f32 (Ieee.single.word s a), .float .f32 (Ieee.single.word u b)]).run P w = .ok (.float .f32 (if lessW s a u b = true then Ieee.single.word s a else Ieee.single.word u b)) w := by
  rw [min2_eq]
  rcases Int.lt_trichotomy (sgR s a) (sgR u b) with h | h | h
  · rw [lessW_lt h, if_pos rfl]
    simp only [Builtin.min2, ord_words s u a b ha hb, Int.compare_eq_lt.2 h]
    rfl
  · rw [lessW_eq h]
    simp only [Builtin.min2, ord_words s u a b ha hb, Int.compare_eq_eq.2 h, neg_read s a ha]
    cases s <;> rfl
  · rw [lessW_gt h, if_neg (by simp)]
    simp only [Builtin.min2, ord_words s u a b ha hb, Int.compare_eq_gt.2 h]
    rfl
end Go.Proofs.Ytogmcinaoemnpab
