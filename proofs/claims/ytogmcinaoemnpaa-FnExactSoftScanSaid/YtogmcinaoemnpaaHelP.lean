
/- What is held up: as the program reckons it and as the model does, the same but for the sign of a zero; and 1 less a finite number is finite. -/
import Derived.Test.YtogmcinaoemnpaaCroP
namespace Go.Proofs.Ytogmcinaoemnpaa
open Go Go.RowKit

theorem dec_word (u : Nat) : ∃ s r, r < 2147483648 ∧ FloatKind.decode .f32 u = FloatKind.decode .f32 (Ieee.single.word s r) := by
  have hsw : Ieee.single.signWeight = 2147483648 := rfl
  refine ⟨u / 2147483648 % 2 == 1, u % 2147483648, by omega, ?_⟩
  obtain ⟨s, hs⟩ : ∃ s, s = (u / 2147483648 % 2 == 1) := ⟨_, rfl⟩
  obtain ⟨r, hr⟩ : ∃ r, r = u % 2147483648 := ⟨_, rfl⟩
  rw [← hs, ← hr]
  have hr2 : r < 2147483648 := by omega
  have h1 : (Ieee.single.word s r / 2147483648 % 2 == 1) = s := by
    unfold Ieee.Format.word
    rw [hsw]
    cases s
    · simp; omega
    · simp; omega
  have h2 : Ieee.single.word s r % 2147483648 = r := by
    unfold Ieee.Format.word
    rw [hsw]
    cases s
    · simp; omega
    · simp; omega
  show Ieee.single.read _ = Ieee.single.read _
  unfold Ieee.Format.read
  rw [hsw]
  dsimp only
  rw [h1, h2, ← hs, ← hr]
def res (o : Option Ieee.Datum) : Nat := (o.map Ieee.single.write).getD (qnan .f32)
theorem fadd (x y : Nat) : fbin .add .f32 x y = res ((FloatKind.decode .f32 x).sum (FloatKind.decode .f32 y)) := rfl
theorem fsub (x y : Nat) : fbin .sub .f32 x y = res ((FloatKind.decode .f32 x).sum (FloatKind.decode .f32 y).opposite) := rfl
theorem fmul (x y : Nat) : fbin .mul .f32 x y = res ((FloatKind.decode .f32 x).product (FloatKind.decode .f32 y)) := rfl
theorem fquo (x y : Nat) : fbin .quo .f32 x y = res ((FloatKind.decode .f32 x).quotient 25 (FloatKind.decode .f32 y)) := rfl
theorem dec_qnan : ∃ s t, FloatKind.decode .f32 (qnan .f32) = .nan s t := by
  cases h : FloatKind.decode .f32 (qnan .f32) with
  | nan s t => exact ⟨s, t, rfl⟩
  | infinity s => have : (FloatKind.decode .f32 (qnan .f32)).isNaN = true := by decide +kernel
                  rw [h] at this; cases this
  | number s m e => have : (FloatKind.decode .f32 (qnan .f32)).isNaN = true := by decide +kernel
                    rw [h] at this; cases this
theorem res_none : isFin .f32 (res none) = false := by
  show isFin .f32 (qnan .f32) = false
  decide +kernel
theorem res_num (s : Bool) (m : Nat) (e : Int) : res (some (.number s m e)) = Ieee.single.word s (rungN m e) := by
  show Ieee.single.nearest _ _ _ = _
  rw [nearest_word]
/-- What a number's word stands for. -/
theorem dec_num (s : Bool) (m : Nat) (e : Int) : (∃ m' e', FloatKind.decode .f32 (res (some (.number s m e))) = .number s m' e' ∧ (rungN m e ≠ 0 → m' ≠ 0)) ∨ FloatKind.decode .f32 (res (some (.number s m e))) = .infinity s := by
  have h : res (some (.number s m e)) = Ieee.single.word s (rungN m e) := by
    show Ieee.single.nearest _ _ _ = _
    rw [nearest_word]
  have hle := rungN_le m e
  rw [h, read_wordS s _ (by omega)]
  by_cases h1 : rungN m e < 8388608
  · rw [if_pos h1]; exact .inl ⟨_, _, rfl, fun h => h⟩
  · rw [if_neg h1]
    by_cases h2 : rungN m e < 2139095040
    · rw [if_pos h2]; exact .inl ⟨_, _, rfl, fun _ => by omega⟩
    · rw [if_neg h2, if_pos (by omega)]; exact .inr rfl
theorem dec_inf (s : Bool) : FloatKind.decode .f32 (res (some (.infinity s))) = .infinity s := by cases s <;> decide +kernel
def NN (x : Nat) : Prop := (∃ s t, FloatKind.decode .f32 x = .nan s t) ∨ FloatKind.decode .f32 x = .infinity false ∨ ∃ m e, FloatKind.decode .f32 x = .number false m e
theorem nn_none : NN (res none) := .inl dec_qnan
theorem nn_inf : NN (res (some (.infinity false))) := .inr (.inl (dec_inf _))
theorem nn_num (m : Nat) (e : Int) : NN (res (some (.number false m e))) := by
  rcases dec_num false m e with ⟨_, _, h, _⟩ | h
  · exact .inr (.inr ⟨_, _, h⟩)
  · exact .inr (.inl h)
theorem nn_sq (x : Nat) : NN (fbin .mul .f32 x x) := by
  rw [fmul]
  cases FloatKind.decode .f32 x with
  | nan s t => exact nn_none
  | infinity s => cases s <;> exact nn_inf
  | number s m e => cases s <;> exact nn_num _ _
theorem nn_mul {x y : Nat} (hx : NN x) (hy : NN y) : NN (fbin .mul .f32 x y) := by
  rw [fmul]
  rcases hx with ⟨s, t, h⟩ | h | ⟨m, e, h⟩ <;> rcases hy with ⟨s', t', h'⟩ | h' | ⟨m', e', h'⟩ <;> rw [h, h']
  · exact nn_none
  · exact nn_none
  · exact nn_none
  · exact nn_none
  · exact nn_inf
  · simp only [Ieee.Datum.product]
    split
    · exact nn_none
    · exact nn_inf
  · exact nn_none
  · simp only [Ieee.Datum.product]
    split
    · exact nn_none
    · exact nn_inf
  · exact nn_num _ _
theorem nn_quo {x y : Nat} (hx : NN x) (hy : NN y) : NN (fbin .quo .f32 x y) := by
  rw [fquo]
  rcases hx with ⟨s, t, h⟩ | h | ⟨m, e, h⟩ <;> rcases hy with ⟨s', t', h'⟩ | h' | ⟨m', e', h'⟩ <;> rw [h, h']
  · exact nn_none
  · exact nn_none
  · exact nn_none
  · exact nn_none
  · exact nn_none
  · exact nn_inf
  · exact nn_none
  · exact nn_num _ _
  · simp only [Ieee.Datum.quotient]
    split
    · split
      · exact nn_none
      · exact nn_inf
    · exact nn_num _ _
theorem sum_nn (m n : Nat) (i j : Int) : Ieee.Datum.sum (.number false m i) (.number false n j) = some (.number false (m * 2 ^ (i - min i j).toNat + n * 2 ^ (j - min i j).toNat) (min i j)) := by
  simp only [Ieee.Datum.sum, Ieee.signed, Bool.false_eq_true, if_false, Nat.shiftLeft_eq]
  have e : ((m * 2 ^ (i - min i j).toNat : Nat) : Int) + ((n * 2 ^ (j - min i j).toNat : Nat) : Int) = ((m * 2 ^ (i - min i j).toNat + n * 2 ^ (j - min i j).toNat : Nat) : Int) := by omega
  rw [e]
  generalize m * 2 ^ (i - min i j).toNat + n * 2 ^ (j - min i j).toNat = K
  have h2 : decide ((K : Int) < 0) = false := decide_eq_false (by omega)
  rw [h2]
  simp
/-- A sum of at least 1 is not a zero. -/
theorem rung_ne {m : Nat} {e : Int} (h : (1 : Rat) ≤ (m : Rat) * two e) : rungN m e ≠ 0 := by
  have hm : m ≠ 0 := fun h0 => by
    subst h0
    have : ((0 : Nat) : Rat) = 0 := rfl
    rw [this, Rat.zero_mul] at h
    exact absurd h (by decide)
  have hl : 0 < e + (m.log2 : Int) + 1 := by
    have h1 := mul_lt_two m
    have h2 := Rat.mul_lt_mul_of_pos_right h1 (two_pos e)
    rw [← two_add] at h2
    have h3 : two 0 < two ((m.log2 : Int) + 1 + e) := by rw [two_zero]; grind
    rcases Int.lt_or_le (0 : Int) ((m.log2 : Int) + 1 + e) with h | h
    · omega
    · exact absurd (two_mono h) (by grind)
  have h2 : 2 ^ m.log2 ≤ m := Nat.log2_self_le hm
  unfold rungN
  rw [if_neg hm]
  have hc : 1 ≤ Ieee.Toward.even.cut false (m <<< (e - max (e + m.log2 - 23) (-149)).toNat) (max (e + m.log2 - 23) (-149) - e).toNat := by
    apply cut_ge
    rw [Nat.one_mul, Nat.shiftLeft_eq]
    obtain ⟨d, hd⟩ : ∃ d, d = (max (e + (m.log2 : Int) - 23) (-149) - e).toNat := ⟨_, rfl⟩
    rw [← hd]
    have : 2 ^ d ≤ 2 ^ m.log2 := Nat.pow_le_pow_right (by decide) (by omega)
    exact Nat.le_trans this (Nat.le_trans h2 (Nat.le_mul_of_pos_right _ (Nat.two_pow_pos _)))
  omega
theorem one_dec : FloatKind.decode .f32 1065353216 = .number false 8388608 (-23) := by decide +kernel
/-- The program's whole: 1 and a square, where it is finite. -/
theorem wide_fin {a : Nat} (h : isFin .f32 (fbin .add .f32 1065353216 (fbin .mul .f32 a a)) = true) :
    (∃ m e, FloatKind.decode .f32 (fbin .add .f32 1065353216 (fbin .mul .f32 a a)) = .number false m e ∧ m ≠ 0) ∧ ∃ s m e, FloatKind.decode .f32 a = .number s m e := by
  have hn := nn_sq a
  constructor
  · obtain ⟨q, hq⟩ : ∃ q, q = fbin .mul .f32 a a := ⟨_, rfl⟩
    rw [← hq] at hn h ⊢
    rw [fadd, one_dec] at h ⊢
    rcases hn with ⟨s, t, h'⟩ | h' | ⟨m, e, h'⟩ <;> rw [h'] at h ⊢
    · rw [show Ieee.Datum.sum (.number false 8388608 (-23)) (.nan s t) = none from rfl, res_none] at h; cases h
    · rw [show Ieee.Datum.sum (.number false 8388608 (-23)) (.infinity false) = some (.infinity false) from rfl] at h
      unfold isFin at h
      rw [dec_inf] at h
      cases h
    · rw [sum_nn] at h ⊢
      rcases dec_num false (8388608 * 2 ^ (-23 - min (-23) e).toNat + m * 2 ^ (e - min (-23) e).toNat) (min (-23) e) with ⟨m', e', h1, h2⟩ | h1
      · refine ⟨m', e', h1, h2 (rung_ne ?_)⟩
        have e1 : two (-23) = two ((-23 - min (-23) e).toNat : Int) * two (min (-23) e) := by rw [← two_add]; congr 1; omega
        have e2 : (8388608 : Rat) * two (-23) = 1 := by decide +kernel
        rw [e1, two_nat] at e2
        have nn := Rat.mul_nonneg (natCast_nonneg (m * 2 ^ (e - min (-23) e).toNat)) (Rat.le_of_lt (two_pos (min (-23) e)))
        have e3 : ((8388608 * 2 ^ (-23 - min (-23) e).toNat + m * 2 ^ (e - min (-23) e).toNat : Nat) : Rat) = (8388608 : Rat) * ((2 ^ (-23 - min (-23) e).toNat : Nat) : Rat) + ((m * 2 ^ (e - min (-23) e).toNat : Nat) : Rat) := by norm_cast
        rw [e3]
        grind
      · exfalso
        unfold isFin at h
        rw [h1] at h
        cases h
  · rw [fadd, one_dec, fmul] at h
    cases hd : FloatKind.decode .f32 a with
    | nan s t =>
      rw [hd, show Ieee.Datum.product (.nan s t) (.nan s t) = none from rfl] at h
      obtain ⟨s', t', h'⟩ := dec_qnan
      have h'' : FloatKind.decode .f32 (res none) = .nan s' t' := h'
      rw [h'', show Ieee.Datum.sum (.number false 8388608 (-23)) (.nan s' t') = none from rfl, res_none] at h
      cases h
    | infinity s =>
      rw [hd, show Ieee.Datum.product (.infinity s) (.infinity s) = some (.infinity (s ^^ s)) from rfl, dec_inf, show Ieee.Datum.sum (.number false 8388608 (-23)) (.infinity (s ^^ s)) = some (.infinity (s ^^ s)) from rfl] at h
      unfold isFin at h
      rw [dec_inf] at h
      cases h
    | number s m e => exact ⟨s, m, e, rfl⟩
theorem quo_nan_l {x y : Nat} (h : ∃ s t, FloatKind.decode .f32 x = .nan s t) : isFin .f32 (fbin .quo .f32 x y) = false := by
  obtain ⟨s, t, h⟩ := h
  rw [fquo, h]
  exact res_none
theorem quo_nan_r {x y : Nat} (h : ∃ s t, FloatKind.decode .f32 y = .nan s t) : isFin .f32 (fbin .quo .f32 x y) = false := by
  obtain ⟨s, t, h⟩ := h
  rw [fquo, h]
  cases FloatKind.decode .f32 x <;> exact res_none
/-- Where the share is finite, so is the whole by which it is reckoned. -/
theorem share_fin {W b : Nat} (hW : NN W) (hb : NN b) (h : isFin .f32 (fbin .quo .f32 W (fbin .add .f32 W b)) = true) : isFin .f32 W = true := by
  rcases hW with hn | hi | ⟨m, e, hm⟩
  · rw [quo_nan_l hn] at h; cases h
  · exfalso
    rcases hb with ⟨s, t, h'⟩ | h' | ⟨m, e, h'⟩
    · have : fbin .add .f32 W b = res none := by rw [fadd, hi, h']; rfl
      rw [this, quo_nan_r (show ∃ s t, FloatKind.decode .f32 (res none) = .nan s t from dec_qnan)] at h
      cases h
    · have : fbin .add .f32 W b = res (some (.infinity false)) := by rw [fadd, hi, h']; rfl
      rw [this, fquo, dec_inf, hi] at h
      rw [show Ieee.Datum.quotient 25 (.infinity false) (.infinity false) = none from rfl, res_none] at h
      cases h
    · have : fbin .add .f32 W b = res (some (.infinity false)) := by rw [fadd, hi, h']; rfl
      rw [this, fquo, dec_inf, hi] at h
      rw [show Ieee.Datum.quotient 25 (.infinity false) (.infinity false) = none from rfl, res_none] at h
      cases h
  · unfold isFin
    rw [hm]
    rfl
theorem dec_fbin {op : BinOp} (hop : op = .sub ∨ op = .mul ∨ op = .quo) {u v : Nat} (h : FloatKind.decode .f32 u = FloatKind.decode .f32 v) (x : Nat) : fbin op .f32 x u = fbin op .f32 x v ∧ fbin op .f32 u x = fbin op .f32 v x := by
  rcases hop with rfl | rfl | rfl
  · rw [fsub, fsub, fsub, fsub, h]; exact ⟨rfl, rfl⟩
  · rw [fmul, fmul, fmul, fmul, h]; exact ⟨rfl, rfl⟩
  · rw [fquo, fquo, fquo, fquo, h]; exact ⟨rfl, rfl⟩
/-- Both ways to take a number by another from 0: finite together, and the same but for the sign of a zero. -/
theorem neg_any (u : Nat) {W n : Nat} {j : Int} (hW : FloatKind.decode .f32 W = .number false n j) (hn : n ≠ 0) :
    (isFin .f32 (fbin .quo .f32 (fbin .sub .f32 0 u) W) = false ∧ isFin .f32 (fbin .sub .f32 0 (fbin .quo .f32 u W)) = false) ∨ SameZ (fbin .quo .f32 (fbin .sub .f32 0 u) W) (fbin .sub .f32 0 (fbin .quo .f32 u W)) := by
  obtain ⟨s, r, hr, hd⟩ := dec_word u
  rw [(dec_fbin (op := .sub) (.inl rfl) hd 0).1, (dec_fbin (op := .quo) (.inr (.inr rfl)) hd W).2]
  by_cases h : r ≤ 2139095040
  · exact .inr (neg_quo s r h hW hn)
  · left
    have hw := read_wordS s r hr
    rw [if_neg (by omega), if_neg (by omega), if_neg (by omega)] at hw
    constructor
    · apply quo_nan_l
      rw [fsub, hw]
      exact dec_qnan
    · have : fbin .quo .f32 (Ieee.single.word s r) W = res none := by rw [fquo, hw]; rfl
      rw [this]
      obtain ⟨s', t', h'⟩ := dec_qnan
      have h'' : FloatKind.decode .f32 (res none) = .nan s' t' := h'
      rw [fsub, h'']
      cases FloatKind.decode .f32 0 <;> exact res_none
def heA (o q : Nat) : Nat := fbin .quo .f32 o q
def heB (r p q : Nat) : Nat := fbin .quo .f32 (fbin .mul .f32 r r) (fbin .mul .f32 p q)
def heW (o q : Nat) : Nat := fbin .add .f32 1065353216 (fbin .mul .f32 (heA o q) (heA o q))
def heZ (r o p q : Nat) : Nat := fbin .quo .f32 (heW o q) (fbin .add .f32 (heW o q) (heB r p q))
def heU (r o p q : Nat) : Nat := fbin .mul .f32 (fbin .quo .f32 r q) (heZ r o p q)
def heYi (r o p q : Nat) : Nat := fbin .quo .f32 (fbin .sub .f32 0 (heU r o p q)) (heW o q)
def heYs (r o p q : Nat) : Nat := fbin .sub .f32 0 (fbin .quo .f32 (heU r o p q) (heW o q))
def heXi (r o p q : Nat) : Nat := fbin .sub .f32 0 (fbin .mul .f32 (heA o q) (heYi r o p q))
def heXs (r o p q : Nat) : Nat := fbin .sub .f32 0 (fbin .mul .f32 (heA o q) (heYs r o p q))
theorem nn_p {p : Nat} (h : isP p = true) : NN p := by
  obtain ⟨m, e, h, _⟩ := isP_dec h
  exact .inr (.inr ⟨m, e, h⟩)
theorem he_same {r o p q : Nat} (hp : isP p = true) (hq : isP q = true) :
    (isFin .f32 (heXi r o p q) && isFin .f32 (heYi r o p q) && isFin .f32 (heZ r o p q)) = (isFin .f32 (heXs r o p q) && isFin .f32 (heYs r o p q) && isFin .f32 (heZ r o p q)) := by
  cases hz : isFin .f32 (heZ r o p q)
  · rw [Bool.and_false, Bool.and_false]
  · rw [Bool.and_true, Bool.and_true]
    have hnW : NN (heW o q) := by
      unfold heW
      rw [fadd, one_dec]
      have hn := nn_sq (heA o q)
      rcases hn with ⟨s, t, h'⟩ | h' | ⟨m, e, h'⟩ <;> rw [h']
      · exact nn_none
      · exact nn_inf
      · rw [sum_nn]; exact nn_num _ _
    have hW := share_fin hnW (nn_quo (nn_sq r) (nn_mul (nn_p hp) (nn_p hq))) hz
    obtain ⟨⟨n, j, hd, hn⟩, s, m, e, ha⟩ := wide_fin hW
    rcases neg_any (heU r o p q) (show FloatKind.decode .f32 (heW o q) = _ from hd) hn with ⟨h1, h2⟩ | h | ⟨h1, h2⟩
    · have h1' : isFin .f32 (heYi r o p q) = false := h1
      have h2' : isFin .f32 (heYs r o p q) = false := h2
      rw [h1', h2', Bool.and_false, Bool.and_false]
    · have h' : heYi r o p q = heYs r o p q := h
      unfold heXi heXs
      rw [h']
    · have h2' : heYs r o p q = 0 := h2
      have key : ∀ t, fbin .sub .f32 0 (fbin .mul .f32 (heA o q) (Ieee.single.word t 0)) = 0 := fun t => by
        have hz : FloatKind.decode .f32 (Ieee.single.word t 0) = .number t 0 (-149) := by rw [read_wordS t 0 (by omega), if_pos (by omega)]
        have : fbin .mul .f32 (heA o q) (Ieee.single.word t 0) = Ieee.single.word (s ^^ t) 0 := by
          rw [fmul, hz]
          have ha' : FloatKind.decode .f32 (heA o q) = _ := ha
          rw [ha', show Ieee.Datum.product (.number s m e) (.number t 0 (-149)) = some (.number (s ^^ t) (m * 0) (e + -149)) from rfl]
          rw [res_num, Nat.mul_zero]
          rfl
        rw [this, sub_zero _ _ (by omega), if_pos rfl]
      have hy : ∃ t, heYi r o p q = Ieee.single.word t 0 := by
        rcases h1 with h1 | h1
        · exact ⟨false, h1⟩
        · exact ⟨true, h1⟩
      obtain ⟨t, hy⟩ := hy
      have hxi : heXi r o p q = 0 := by unfold heXi; rw [hy]; exact key t
      have hxs : heXs r o p q = 0 := by unfold heXs; rw [h2']; exact key false
      rw [hxi, hxs, hy, h2']
      cases t <;> decide +kernel
theorem cut_half {n d N : Nat} (h : 2 * n < (2 * N + 1) * 2 ^ d) : Ieee.Toward.even.cut false n d ≤ N := by
  obtain ⟨q, r, hq⟩ := cut_gap n d
  obtain ⟨e, hn, hr⟩ := hq false
  rw [e]
  have hp := Nat.two_pow_pos d
  have hqN : q ≤ N := by
    by_cases hc : q ≤ N
    · exact hc
    · exfalso
      have h1 := Nat.mul_le_mul_right (2 ^ d) (show N + 1 ≤ q by omega)
      rw [Nat.add_mul] at h1 h
      have h2 : 2 * N * 2 ^ d = 2 * (N * 2 ^ d) := Nat.mul_assoc _ _ _
      omega
  by_cases hqe : q = N
  · subst hqe
    have h2 : 2 * q * 2 ^ d = 2 * (q * 2 ^ d) := Nat.mul_assoc _ _ _
    rw [Nat.add_mul] at h
    have h3 : ¬ 2 ^ d < 2 * r := by omega
    have h4 : ¬ 2 ^ d = 2 * r := by omega
    simp [h3, h4]
  · have : (decide (2 ^ d < 2 * r) || (decide (2 ^ d = 2 * r) && q % 2 == 1)).toNat ≤ 1 := Bool.toNat_le _
    omega
/-- What is less than the greatest number and half of its last place is finite. -/
theorem rung_fin {m : Nat} {e : Int} (h : (m : Rat) * two e < (33554431 : Rat) * two 103) : rungN m e < 2139095040 := by
  by_cases hm : m = 0
  · subst hm; unfold rungN; rw [if_pos rfl]; omega
  have hl : e + (m.log2 : Int) ≤ 127 := by
    rcases Int.lt_or_le 127 (e + (m.log2 : Int)) with h1 | h1
    · exfalso
      have h2 := Rat.mul_le_mul_of_nonneg_right (two_le_mul hm) (Rat.le_of_lt (two_pos e))
      rw [← two_add] at h2
      have h3 : two 128 ≤ two ((m.log2 : Int) + e) := two_mono (by omega)
      have h4 : (33554431 : Rat) * two 103 < two 128 := by decide +kernel
      grind
    · exact h1
  unfold rungN
  rw [if_neg hm]
  obtain ⟨p, hp⟩ : ∃ p, p = max (e + (m.log2 : Int) - 23) (-149) := ⟨_, rfl⟩
  rw [← hp]
  have hp1 : p ≤ 104 := by omega
  have hp2 : -149 ≤ p := by omega
  have hlt := Nat.lt_log2_self (n := m)
  have hc24 : Ieee.Toward.even.cut false (m <<< (e - p).toNat) (p - e).toNat ≤ 16777216 := by
    apply cut_le
    rw [Nat.shiftLeft_eq]
    rcases Int.le_total e p with h1 | h1
    · rw [show (e - p).toNat = 0 by omega, Nat.pow_zero, Nat.mul_one]
      have : m < 2 ^ (24 + (p - e).toNat) := Nat.lt_of_lt_of_le hlt (Nat.pow_le_pow_right (by decide) (by omega))
      rw [Nat.pow_add] at this
      exact Nat.le_of_lt this
    · rw [show (p - e).toNat = 0 by omega, Nat.pow_zero, Nat.mul_one]
      have h2 : m * 2 ^ (e - p).toNat < 2 ^ (m.log2 + 1) * 2 ^ (e - p).toNat := Nat.mul_lt_mul_of_pos_right hlt (Nat.two_pow_pos _)
      rw [← Nat.pow_add] at h2
      have h3 : 2 ^ (m.log2 + 1 + (e - p).toNat) ≤ 2 ^ 24 := Nat.pow_le_pow_right (by decide) (by omega)
      exact Nat.le_of_lt (Nat.lt_of_lt_of_le h2 h3)
  rcases Int.lt_or_le p 104 with h1 | h1
  · omega
  · have hp4 : p = 104 := by omega
    have hc23 : Ieee.Toward.even.cut false (m <<< (e - p).toNat) (p - e).toNat ≤ 16777215 := by
      apply cut_half
      rw [Nat.shiftLeft_eq]
      subst hp4
      have e1 : two e * two ((104 - e).toNat : Int) = two 104 * two ((e - 104).toNat : Int) := by rw [← two_add, ← two_add]; congr 1; omega
      have h2 := Rat.mul_lt_mul_of_pos_right h (two_pos ((104 - e).toNat : Int))
      have e2 : two 104 = 2 * two 103 := by decide +kernel
      have h3 : (m : Rat) * (two e * two ((104 - e).toNat : Int)) < (33554431 : Rat) * two ((104 - e).toNat : Int) * two 103 := by grind
      rw [e1, e2] at h3
      have h4 : (2 * (m : Rat) * two ((e - 104).toNat : Int)) * two 103 < ((33554431 : Rat) * two ((104 - e).toNat : Int)) * two 103 := by grind
      rw [Rat.mul_lt_mul_right (two_pos 103), two_nat, two_nat] at h4
      have h5 : ((2 * (m * 2 ^ (e - 104).toNat) : Nat) : Rat) < (((2 * 16777215 + 1) * 2 ^ (104 - e).toNat : Nat) : Rat) := by
        rw [show ((2 * (m * 2 ^ (e - 104).toNat) : Nat) : Rat) = 2 * (m : Rat) * ((2 ^ (e - 104).toNat : Nat) : Rat) by push_cast; grind, show (((2 * 16777215 + 1) * 2 ^ (104 - e).toNat : Nat) : Rat) = 33554431 * ((2 ^ (104 - e).toNat : Nat) : Rat) by norm_cast]
        exact h4
      exact_mod_cast h5
    omega
theorem num_isFin {s : Bool} {m : Nat} {e : Int} (h : (m : Rat) * two e < (33554431 : Rat) * two 103) : isFin .f32 (res (some (.number s m e))) = true := by
  have hw : res (some (.number s m e)) = Ieee.single.word s (rungN m e) := by
    show Ieee.single.nearest _ _ _ = _
    rw [nearest_word]
  have hr := rung_fin h
  unfold isFin
  rw [hw, read_wordS s _ (by omega)]
  by_cases h1 : rungN m e < 8388608
  · rw [if_pos h1]; rfl
  · rw [if_neg h1, if_pos hr]; rfl
/-- The greatest number that is finite. -/
theorem dec_le {x : Nat} {s : Bool} {m : Nat} {e : Int} (h : FloatKind.decode .f32 x = .number s m e) : (m : Rat) * two e ≤ (16777215 : Rat) * two 104 := by
  obtain ⟨t, r, hr, hd⟩ := dec_word x
  rw [h, read_wordS t r hr] at hd
  by_cases h1 : r < 8388608
  · rw [if_pos h1] at hd
    injection hd with a1 a2 a3
    rw [a2, a3]
    have h2 : (r : Rat) ≤ (8388608 : Rat) := by exact_mod_cast Nat.le_of_lt h1
    have h3 := Rat.mul_le_mul_of_nonneg_right h2 (Rat.le_of_lt (two_pos (-149)))
    have h4 : (8388608 : Rat) * two (-149) ≤ (16777215 : Rat) * two 104 := by decide +kernel
    exact Rat.le_trans h3 h4
  · rw [if_neg h1] at hd
    by_cases h2 : r < 2139095040
    · rw [if_pos h2] at hd
      injection hd with a1 a2 a3
      rw [a2, a3]
      have h3 : ((8388608 + r % 8388608 : Nat) : Rat) ≤ (16777215 : Rat) := by exact_mod_cast (by omega : 8388608 + r % 8388608 ≤ 16777215)
      have h4 : two (-149 + ((r / 8388608 - 1 : Nat) : Int)) ≤ two 104 := two_mono (by omega)
      have h5 := Rat.mul_le_mul_of_nonneg_right h3 (Rat.le_of_lt (two_pos (-149 + ((r / 8388608 - 1 : Nat) : Int))))
      have h6 := Rat.mul_le_mul_of_nonneg_left h4 (show (0 : Rat) ≤ 16777215 by decide)
      exact Rat.le_trans h5 h6
    · rw [if_neg h2] at hd
      split at hd <;> cases hd
theorem half_dec : FloatKind.decode .f32 1056964608 = .number false 8388608 (-24) := by decide +kernel
theorem one_less {z : Nat} (h : isFin .f32 z = true) : isFin .f32 (fbin .sub .f32 1065353216 z) = true := by
  obtain ⟨s, m, e, hd⟩ := fin_dec h
  have hl := dec_le hd
  rw [fsub, one_dec, hd]
  simp only [Ieee.Datum.opposite, Ieee.Datum.sum]
  apply num_isFin
  have hs := signed_abs false 8388608 (-23 - min (-23) e).toNat (!s) m (e - min (-23) e).toNat
  generalize (Ieee.signed false 8388608 (-23 - min (-23) e).toNat + Ieee.signed (!s) m (e - min (-23) e).toNat).natAbs = K at *
  have h1 : (K : Rat) ≤ (8388608 : Rat) * two ((-23 - min (-23) e).toNat : Int) + (m : Rat) * two ((e - min (-23) e).toNat : Int) := by
    rw [two_nat, two_nat]
    have : (K : Rat) ≤ ((8388608 * 2 ^ (-23 - min (-23) e).toNat + m * 2 ^ (e - min (-23) e).toNat : Nat) : Rat) := by exact_mod_cast hs
    have e' : ((8388608 * 2 ^ (-23 - min (-23) e).toNat + m * 2 ^ (e - min (-23) e).toNat : Nat) : Rat) = (8388608 : Rat) * ((2 ^ (-23 - min (-23) e).toNat : Nat) : Rat) + (m : Rat) * ((2 ^ (e - min (-23) e).toNat : Nat) : Rat) := by norm_cast
    rw [← e']; exact this
  have e1 : two (-23) = two ((-23 - min (-23) e).toNat : Int) * two (min (-23) e) := by rw [← two_add]; congr 1; omega
  have e2 : two e = two ((e - min (-23) e).toNat : Int) * two (min (-23) e) := by rw [← two_add]; congr 1; omega
  have e3 : (8388608 : Rat) * two (-23) = 1 := by decide +kernel
  rw [e2] at hl
  rw [e1] at e3
  have h2 := Rat.mul_le_mul_of_nonneg_right h1 (Rat.le_of_lt (two_pos (min (-23) e)))
  have h3 : (1 : Rat) + 16777215 * two 104 < 33554431 * two 103 := by decide +kernel
  grind
theorem half_less {z : Nat} (h : isFin .f32 z = true) : isFin .f32 (fbin .mul .f32 1056964608 (fbin .sub .f32 1065353216 z)) = true := by
  obtain ⟨s, m, e, hd⟩ := fin_dec (one_less h)
  have hl := dec_le hd
  rw [fmul, half_dec, hd]
  simp only [Ieee.Datum.product]
  apply num_isFin
  have e1 : ((8388608 * m : Nat) : Rat) = (8388608 : Rat) * (m : Rat) := by norm_cast
  have e2 : two (-24 + e) = two (-24) * two e := two_add _ _
  have e3 : (8388608 : Rat) * two (-24) = 1 / 2 := by decide +kernel
  have nn := Rat.mul_nonneg (natCast_nonneg m) (Rat.le_of_lt (two_pos e))
  have h3 : (16777215 : Rat) * two 104 < 33554431 * two 103 := by decide +kernel
  rw [e1, e2]
  have e4 : (8388608 : Rat) * (m : Rat) * (two (-24) * two e) = (8388608 * two (-24)) * ((m : Rat) * two e) := by grind
  rw [e4, e3]
  grind
end Go.Proofs.Ytogmcinaoemnpaa
