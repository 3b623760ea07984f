
import Derived.Test.YtmpcalpapkedhaaLat
import Derived.Test.YtmpcalpapkedhaaExF
import Derived.Test.YtmpcalpapkedhaaNf
import Derived.Test.YtmpcalpapkedhaaExpI
import Derived.Test.YtmpcalpapkedhaaNeg
import Derived.Deep.QuietTactic
import Derived.BigQuiet
namespace Go.Proofs.Ytmpcalpapkedhaa
open Go Go.ChangeShapes Go.WideShapes Go.ChangeAt Go.RowKit
/- How high lines are at a place, as words: the model's way and the program's way give the same but for the sign of a zero, and their sums are the same. -/

theorem num_as_word {x : Nat} (hx : x < 4294967296) (hn : isNaN .f32 x = false) : ∃ s r, r ≤ 2139095040 ∧ x = Ieee.single.word s r := by
  obtain ⟨s, r, h, rfl⟩ := word_of x hx
  exact ⟨s, r, nan_word h hn, rfl⟩
theorem add_def (x y : Nat) : fbin .add .f32 x y = (((FloatKind.f32.format.read x).sum (FloatKind.f32.format.read y)).map FloatKind.f32.format.write).getD (qnan .f32) := rfl
theorem add_zero_l (s : Bool) (r : Nat) (h : r ≤ 2139095040) : fbin .add .f32 0 (Ieee.single.word s r) = if r = 0 then 0 else Ieee.single.word s r := by
  have e : fbin .add .f32 0 (Ieee.single.word s r) = fbin .sub .f32 0 (Ieee.single.word (!s) r) := by
    show (((FloatKind.f32.format.read 0).sum (FloatKind.f32.format.read (Ieee.single.word s r))).map FloatKind.f32.format.write).getD (qnan .f32) = (((FloatKind.f32.format.read 0).sum (FloatKind.f32.format.read (Ieee.single.word (!s) r)).opposite).map FloatKind.f32.format.write).getD (qnan .f32)
    rw [opp_word s r h]
  rw [e, sub_zero (!s) r h, Bool.not_not]
theorem read_negz : FloatKind.f32.format.read 2147483648 = .number true 0 (-149) := by decide +kernel
theorem read_posz : FloatKind.f32.format.read 0 = .number false 0 (-149) := by decide +kernel
/-- A word that is no zero, as it reads. -/
theorem read_nz (t : Bool) (r : Nat) (h0 : r ≠ 0) (h : r ≤ 2139095040) : (FloatKind.f32.format.read (Ieee.single.word t r) = .infinity t) ∨ ∃ m e, FloatKind.f32.format.read (Ieee.single.word t r) = .number t m e ∧ m ≠ 0 ∧ -149 ≤ e := by
  by_cases h1 : r < 2139095040
  · obtain ⟨m, e, hr, hg⟩ := rung_read t r h1
    refine .inr ⟨m, e, hr, ?_, (read_single _ t m e hr).2.1⟩
    rintro rfl
    have : rungN 0 e = 0 := by unfold rungN; rw [if_pos rfl]
    omega
  · obtain rfl : r = 2139095040 := by omega
    exact .inl (read_inf t)
theorem add_negz (t : Bool) (r : Nat) (h0 : r ≠ 0) (h : r ≤ 2139095040) : fbin .add .f32 2147483648 (Ieee.single.word t r) = fbin .add .f32 0 (Ieee.single.word t r) := by
  rw [add_def, add_def, read_negz, read_posz]
  rcases read_nz t r h0 h with hr | ⟨m, e, hr, hm, _⟩
  · rw [hr]; rfl
  · rw [hr]
    have h2 := Nat.two_pow_pos (e - min (-149) e).toNat
    have h3 : m * 2 ^ (e - min (-149) e).toNat ≠ 0 := Nat.mul_ne_zero hm (by omega)
    simp only [Ieee.Datum.sum, Ieee.signed, Nat.shiftLeft_eq]
    obtain ⟨T, hT⟩ : ∃ T, T = m * 2 ^ (e - min (-149) e).toNat := ⟨_, rfl⟩
    rw [← hT] at h3 ⊢
    cases t <;> simp [h3]
theorem add_comm32 (x y : Nat) : fbin .add .f32 x y = fbin .add .f32 y x := by
  have h : ∀ a b : Ieee.Datum, a.sum b = b.sum a := by
    intro a b
    cases a <;> cases b <;> simp only [Ieee.Datum.sum]
    case infinity.infinity s t => cases s <;> cases t <;> rfl
    case number.number s m e t n f => rw [Int.min_comm, Int.add_comm, Bool.and_comm]
  rw [add_def, add_def, h]
theorem rungN_pos {T : Nat} {b : Int} (hT : T ≠ 0) (hb : -149 ≤ b) : rungN T b ≠ 0 := by
  unfold rungN
  rw [if_neg hT]
  obtain ⟨p, hp⟩ : ∃ p, p = max (b + (T.log2 : Int) - 23) (-149) := ⟨_, rfl⟩
  rw [← hp]
  have hc : 1 ≤ Ieee.Toward.even.cut false (T <<< (b - p).toNat) (p - b).toNat := by
    by_cases h1 : p ≤ b
    · rw [show (p - b).toNat = 0 by omega, cut_zero, Nat.shiftLeft_eq]
      have := Nat.two_pow_pos (b - p).toNat
      exact Nat.mul_pos (by omega) this
    · rw [show (b - p).toNat = 0 by omega, Nat.shiftLeft_zero]
      apply cut_ge
      rw [Nat.one_mul]
      have h2 : p = b + (T.log2 : Int) - 23 := by omega
      have h3 : (p - b).toNat ≤ T.log2 := by omega
      exact Nat.le_trans (Nat.pow_le_pow_right (by omega) h3) (Nat.log2_self_le hT)
  omega
/-- What is not -0 stays so in a sum. -/
theorem add_nz {x y : Nat} (hx : x < 4294967296) (hy : y < 4294967296) (h : x ≠ 2147483648) : fbin .add .f32 x y ≠ 2147483648 := by
  cases nx : isNaN .f32 x
  rotate_left
  · have : fbin .add .f32 x y = qnan .f32 := by simp [fbin, floatBits_left nx]
    rw [this]; decide
  cases ny : isNaN .f32 y
  rotate_left
  · have : fbin .add .f32 x y = qnan .f32 := by simp [fbin, floatBits_right ny]
    rw [this]; decide
  obtain ⟨s, r, hr, rfl⟩ := num_as_word hx nx
  obtain ⟨t, q, hq, rfl⟩ := num_as_word hy ny
  have wz : ∀ (b : Bool) (z : Nat), z ≠ 0 → z ≤ 2139095040 → Ieee.single.word b z ≠ 2147483648 := by
    intro b z hz hle
    have hsw : Ieee.single.signWeight = 2147483648 := rfl
    unfold Ieee.Format.word
    rw [hsw]
    cases b <;> simp <;> omega
  by_cases h0 : r = 0
  · subst h0
    have hs : s = false := by
      cases s
      · rfl
      · exact absurd rfl h
    subst hs
    have e := add_zero_l t q hq
    rw [show Ieee.single.word false 0 = 0 from rfl, e]
    by_cases q0 : q = 0
    · rw [if_pos q0]; decide
    · rw [if_neg q0]; exact wz t q q0 hq
  · by_cases q0 : q = 0
    · subst q0
      rw [add_comm32]
      have e : fbin .add .f32 (Ieee.single.word t 0) (Ieee.single.word s r) = Ieee.single.word s r := by
        cases t
        · rw [show Ieee.single.word false 0 = 0 from rfl, add_zero_l s r hr, if_neg h0]
        · rw [show Ieee.single.word true 0 = 2147483648 from rfl, add_negz s r h0 hr, add_zero_l s r hr, if_neg h0]
      rw [e]
      exact wz s r h0 hr
    · rw [add_def]
      rcases read_nz s r h0 hr with ha | ⟨m, i, ha, hm, hi⟩
      · rcases read_nz t q q0 hq with hb | ⟨n, j, hb, hn, hj⟩
        · rw [ha, hb]
          cases s <;> cases t <;> decide +kernel
        · rw [ha, hb]
          show FloatKind.f32.format.write (.infinity s) ≠ _
          cases s <;> decide +kernel
      · rcases read_nz t q q0 hq with hb | ⟨n, j, hb, hn, hj⟩
        · rw [ha, hb]
          show FloatKind.f32.format.write (.infinity t) ≠ _
          cases t <;> decide +kernel
        · rw [ha, hb]
          obtain ⟨b, hbb⟩ : ∃ b, b = min i j := ⟨_, rfl⟩
          have hb149 : -149 ≤ b := by omega
          simp only [Ieee.Datum.sum, ← hbb, Ieee.signed, Nat.shiftLeft_eq, Option.map_some, Option.getD_some]
          have p1 := Nat.two_pow_pos (i - b).toNat
          have p2 := Nat.two_pow_pos (j - b).toNat
          have m1 : m * 2 ^ (i - b).toNat ≠ 0 := Nat.mul_ne_zero hm (by omega)
          have m2 : n * 2 ^ (j - b).toNat ≠ 0 := Nat.mul_ne_zero hn (by omega)
          obtain ⟨A, hA⟩ : ∃ A, A = m * 2 ^ (i - b).toNat := ⟨_, rfl⟩
          obtain ⟨B, hB⟩ : ∃ B, B = n * 2 ^ (j - b).toNat := ⟨_, rfl⟩
          rw [← hA] at m1
          rw [← hB] at m2
          rw [← hA, ← hB]
          clear hA hB
          have hw : ∀ (g : Bool) (T : Nat), FloatKind.f32.format.write (.number g T b) = Ieee.single.word g (rungN T b) := fun g T => nearest_word g T b
          rw [hw]
          have key : ∀ (g : Bool) (z : Int), (z = 0 → g = false) → Ieee.single.word g (rungN z.natAbs b) ≠ 2147483648 := by
            intro g z hz
            by_cases e : z = 0
            · rw [hz e, e]
              have : rungN (0 : Int).natAbs b = 0 := by rw [Int.natAbs_zero]; unfold rungN; rw [if_pos rfl]
              rw [this]; decide
            · exact wz g _ (rungN_pos (by omega) hb149) (rungN_le _ _)
          apply key
          intro e
          rw [if_pos e]
          cases s <;> cases t
          · exfalso
            simp only [Bool.false_eq_true, if_false] at e
            omega
          · rfl
          · rfl
          · exfalso
            simp only [if_true] at e
            omega
/-- A zero of either sign adds the same to what is not -0. -/
theorem add_z {x : Nat} (hx : x < 4294967296) (h : x ≠ 2147483648) : fbin .add .f32 x 2147483648 = fbin .add .f32 x 0 := by
  cases nx : isNaN .f32 x
  rotate_left
  · have e : ∀ y, fbin .add .f32 x y = qnan .f32 := fun y => by simp [fbin, floatBits_left nx]
    rw [e, e]
  obtain ⟨s, r, hr, rfl⟩ := num_as_word hx nx
  by_cases h0 : r = 0
  · subst h0
    have hs : s = false := by
      cases s
      · rfl
      · exact absurd rfl h
    subst hs
    decide +kernel
  · rw [add_comm32, add_comm32 _ 0, add_negz s r h0 hr]
/-- The same, or both a zero. -/
def ZEq (a b : Nat) : Prop := a = b ∨ ((a = 0 ∨ a = 2147483648) ∧ (b = 0 ∨ b = 2147483648))
theorem add_zeq {x a b : Nat} (hx : x < 4294967296) (h : x ≠ 2147483648) (hz : ZEq a b) : fbin .add .f32 x a = fbin .add .f32 x b := by
  rcases hz with rfl | ⟨ha, hb⟩
  · rfl
  · rcases ha with rfl | rfl <;> rcases hb with rfl | rfl
    · rfl
    · rw [add_z hx h]
    · rw [add_z hx h]
    · rfl
theorem ZEq.fin {a b : Nat} (h : ZEq a b) : isFin .f32 a = isFin .f32 b := by
  have e : isFin .f32 2147483648 = isFin .f32 0 := by decide +kernel
  rcases h with rfl | ⟨ha, hb⟩
  · rfl
  · rcases ha with rfl | rfl <;> rcases hb with rfl | rfl <;> first | rfl | exact e | exact e.symm
/-- The sum of numbers from +0 on. -/
def sumV (v : Nat → Nat) : Nat → Nat
  | 0 => 0
  | k + 1 => fbin .add .f32 (sumV v k) (v k)
theorem sumV_lt (v : Nat → Nat) : ∀ k, sumV v k < 4294967296 := by
  intro k
  cases k with
  | zero => show (0 : Nat) < 4294967296; decide
  | succ k => exact fbin_lt _ _ _
theorem sumV_nz (v : Nat → Nat) (hv : ∀ k, v k < 4294967296) : ∀ k, sumV v k ≠ 2147483648 := by
  intro k
  induction k with
  | zero => show (0 : Nat) ≠ 2147483648; decide
  | succ k ih => exact add_nz (sumV_lt v k) (hv k) ih
theorem sumV_zeq {v u : Nat → Nat} (hv : ∀ k, v k < 4294967296) : ∀ n, (∀ k, k < n → ZEq (v k) (u k)) → sumV u n = sumV v n := by
  intro n
  induction n with
  | zero => intro _; rfl
  | succ n ih =>
    intro h
    show fbin .add .f32 (sumV u n) (u n) = fbin .add .f32 (sumV v n) (v n)
    rw [ih (fun k hk => h k (by omega)), add_zeq (sumV_lt v n) (sumV_nz v hv n) (h n (by omega))]
theorem sumV_nf {v : Nat → Nat} {j : Nat} (h : isFin .f32 (v j) = false) : ∀ n, j < n → isFin .f32 (sumV v n) = false := by
  intro n
  induction n with
  | zero => intro h; omega
  | succ n ih =>
    intro hj
    by_cases e : j = n
    · subst e; exact nf_add_r h
    · exact nf_add_l (ih (by omega))

/- How high one line is at a place: as the model tells it. -/

def lnU (l : Ln) (x : Nat) : Nat := fbin .quo .f32 (fbin .sub .f32 x l.p) l.d
def lnQ (l : Ln) (x : Nat) : Nat := fbin .mul .f32 (lnU l x) (lnU l x)
def lnB (l : Ln) (x : Nat) : Nat := fbin .mul .f32 l.h (expF (fbin .sub .f32 0 (lnQ l x)))
def lnH (l : Ln) (x : Nat) : Nat := fbin .quo .f32 l.h (fbin .add .f32 1065353216 (lnQ l x))
def gtO (a : Nat) : Bool := FloatKind.f32.format.order a 1065353216 == some .gt
def roofW (h a : Nat) : Nat := if gtO a = true then 0 else fbin .mul .f32 h (fbin .sub .f32 1065353216 a)
def lnR (l : Ln) (x : Nat) : Nat := roofW l.h (lnU l x % 2147483648)
def lnM (l : Ln) (x : Nat) : Nat := if l.k = 0 then lnB l x else if l.k = 1 then lnH l x else if l.k = 2 then fbin .mul .f32 1056964608 (fbin .add .f32 (lnB l x) (lnH l x)) else lnR l x
def lnI (l : Ln) (x : Nat) : Nat := if l.k = 0 then lnB l x else if l.k = 1 then lnH l x else if l.k = 2 then fbin .quo .f32 (fbin .add .f32 (fbin .add .f32 0 (lnB l x)) (lnH l x)) 1073741824 else lnR l x
theorem ln_facts {l : Ln} {x : Nat} (hl : okLn l = true) (hx : isFin .f32 x = true) :
    isNaN .f32 (fbin .sub .f32 x l.p) = false ∧ isNaN .f32 (lnU l x) = false ∧ isNaN .f32 (lnQ l x) = false ∧ NegX (fbin .sub .f32 0 (lnQ l x)) ∧ isNaN .f32 (lnB l x) = false ∧ isNaN .f32 (fbin .add .f32 1065353216 (lnQ l x)) = false ∧ isNaN .f32 (lnH l x) = false := by
  obtain ⟨h1, h2, h3, _, _⟩ := okLin_at hl
  have a1 : isNaN .f32 (fbin .sub .f32 x l.p) = false := nan_sub (num_fin hx) h1
  have a2 : isNaN .f32 (lnU l x) = false := nan_quo_pos a1 (pos_read h3)
  have a3 : isNaN .f32 (lnQ l x) = false := by
    obtain ⟨q, hq, e⟩ := squ_word a2
    unfold lnQ
    rw [e]
    exact num_word hq
  have a4 := neg_sq a2
  refine ⟨a1, a2, a3, a4, nan_mul h2 (bd_fin (expF_bd a4)), ?_, nan_hill h2 a2⟩
  obtain ⟨q, _, hq, e⟩ := one_sq a2
  show isNaN .f32 (fbin .add .f32 1065353216 (fbin .mul .f32 (lnU l x) (lnU l x))) = false
  rw [e]
  exact num_word hq
/-- Half of both: the two ways differ in the sign of a zero at most. -/
theorem half_zeq {B H : Nat} (hB : B < 4294967296) (hH : H < 4294967296) (nB : isNaN .f32 B = false) (nH : isNaN .f32 H = false) :
    ZEq (fbin .mul .f32 1056964608 (fbin .add .f32 B H)) (fbin .quo .f32 (fbin .add .f32 (fbin .add .f32 0 B) H) 1073741824) := by
  rw [half_eq]
  obtain ⟨s, r, hr, rfl⟩ := num_as_word hB nB
  obtain ⟨t, q, hq, rfl⟩ := num_as_word hH nH
  rw [add_zero_l s r hr]
  by_cases h0 : r = 0
  · subst h0
    rw [if_pos rfl]
    cases s
    · exact .inl rfl
    · rw [show Ieee.single.word true 0 = 2147483648 from rfl]
      by_cases q0 : q = 0
      · subst q0
        right
        cases t <;> exact ⟨by decide +kernel, by decide +kernel⟩
      · rw [add_negz t q q0 hq]
        exact .inl rfl
  · rw [if_neg h0]
    exact .inl rfl
theorem ln_zeq {l : Ln} {x : Nat} (hl : okLn l = true) (hx : isFin .f32 x = true) : ZEq (lnM l x) (lnI l x) := by
  obtain ⟨_, _, _, _, n5, _, n7⟩ := ln_facts hl hx
  unfold lnM lnI
  split
  · exact .inl rfl
  · split
    · exact .inl rfl
    · split
      · exact half_zeq (fbin_lt _ _ _) (fbin_lt _ _ _) n5 n7
      · exact .inl rfl
theorem word_mod (s : Bool) (r : Nat) (h : r < 2147483648) : Ieee.single.word s r % 2147483648 = r := by
  have hsw : Ieee.single.signWeight = 2147483648 := rfl
  unfold Ieee.Format.word
  rw [hsw]
  cases s <;> simp <;> omega
theorem neg_word (s : Bool) (r : Nat) (h : r < 2147483648) : Op.negFloat .f32 (Ieee.single.word s r) = Ieee.single.word (!s) r := by
  have hsw : Ieee.single.signWeight = 2147483648 := rfl
  have e : ∀ b, Op.negFloat .f32 b = b ^^^ 2 ^ 31 := fun b => rfl
  rw [e]
  unfold Ieee.Format.word
  rw [hsw]
  cases s
  · simp only [Bool.false_eq_true, if_false, Bool.not_false, if_true]
    exact xor_low 31 r (by simpa using h)
  · simp only [Bool.not_true, Bool.false_eq_true, if_false, if_true]
    exact xor_high 31 r (by simpa using h)
/-- What comparing a number and its opposite tells. -/
theorem ord_pm (r : Nat) (h0 : r ≠ 0) (h : r ≤ 2139095040) : FloatKind.f32.format.order (Ieee.single.word false r) (Ieee.single.word true r) = some .gt ∧ FloatKind.f32.format.order (Ieee.single.word true r) (Ieee.single.word false r) = some .lt := by
  have hf : FloatKind.f32.format.read (Ieee.single.word false r) = _ := read_wordS false r (by omega)
  have ht : FloatKind.f32.format.read (Ieee.single.word true r) = _ := read_wordS true r (by omega)
  unfold Ieee.Format.order
  rw [hf, ht]
  by_cases h1 : r < 8388608
  · rw [if_pos h1, if_pos h1]
    simp only [Ieee.Datum.order, Ieee.signed, Int.sub_self, Int.min_self, Int.toNat_zero, Nat.shiftLeft_zero]
    constructor
    · congr 1; rw [Int.compare_eq_gt]; simp; omega
    · congr 1; rw [Int.compare_eq_lt]; simp; omega
  · rw [if_neg h1, if_neg h1]
    by_cases h2 : r < 2139095040
    · rw [if_pos h2, if_pos h2]
      simp only [Ieee.Datum.order, Ieee.signed, Int.sub_self, Int.min_self, Int.toNat_zero, Nat.shiftLeft_zero]
      constructor
      · congr 1; rw [Int.compare_eq_gt]; simp; omega
      · congr 1; rw [Int.compare_eq_lt]; simp; omega
    · rw [if_neg h2, if_pos (by omega), if_neg h2, if_pos (by omega)]
      exact ⟨rfl, rfl⟩
theorem ord_lt0 (s : Bool) (r : Nat) (h : r ≤ 2139095040) : (FloatKind.f32.format.order (Ieee.single.word s r) 0 == some .lt) = (s && decide (r ≠ 0)) := by
  by_cases h0 : r = 0
  · subst h0; cases s <;> decide +kernel
  · rw [decide_eq_true h0, Bool.and_true]
    unfold Ieee.Format.order
    rw [read_posz]
    rcases read_nz s r h0 h with hr | ⟨m, e, hr, hm, _⟩
    · rw [hr]; cases s <;> rfl
    · rw [hr]
      simp only [Ieee.Datum.order, Ieee.signed, Nat.shiftLeft_eq]
      have p1 := Nat.two_pow_pos (e - min e (-149)).toNat
      have m1 : m * 2 ^ (e - min e (-149)).toNat ≠ 0 := Nat.mul_ne_zero hm (by omega)
      obtain ⟨A, hA⟩ : ∃ A, A = m * 2 ^ (e - min e (-149)).toNat := ⟨_, rfl⟩
      rw [← hA] at m1 ⊢
      clear hA
      cases s
      · have : compare (A : Int) 0 = .gt := by rw [Int.compare_eq_gt]; omega
        simp [this]
      · have : compare (-(A : Int)) 0 = .lt := by rw [Int.compare_eq_lt]; omega
        simp [this]
/-- The model's absolute value, and what is made of it. -/
theorem roof_model {U h : Nat} (hU : U < 4294967296) (nU : isNaN .f32 U = false) :
    roofW h (if (FloatKind.f32.format.order U 0 == some .lt) = true then Op.negFloat .f32 U else U) = roofW h (U % 2147483648) := by
  obtain ⟨s, r, hr, rfl⟩ := num_as_word hU nU
  rw [ord_lt0 s r hr, word_mod s r (by omega), neg_word s r (by omega)]
  have wf : Ieee.single.word false r = r := by unfold Ieee.Format.word; simp
  by_cases h0 : r = 0
  · subst h0
    cases s
    · rfl
    · rw [if_neg (by simp), show Ieee.single.word true 0 = 2147483648 from rfl]
      unfold roofW
      rw [show gtO 2147483648 = gtO 0 by decide +kernel, show fbin .sub .f32 1065353216 2147483648 = fbin .sub .f32 1065353216 0 by decide +kernel]
  · cases s
    · rw [if_neg (by simp), wf]
    · rw [if_pos (by simp [h0]), show (!true) = false from rfl, wf]
theorem max_abs {U : Nat} (hU : U < 4294967296) (nU : isNaN .f32 U = false) (ts : Array TypeId) (t : TypeId) (w : World) :
    (Builtin.max_ ts t #[.float .f32 U, .float .f32 (Op.negFloat .f32 U)]).run Try.prog w = .ok (.float .f32 (U % 2147483648)) w := by
  obtain ⟨s, r, hr, rfl⟩ := num_as_word hU nU
  rw [word_mod s r (by omega), neg_word s r (by omega)]
  have wf : Ieee.single.word false r = r := by unfold Ieee.Format.word; simp
  have key : (Builtin.max2 (.float .f32 (Ieee.single.word s r)) (.float .f32 (Ieee.single.word (!s) r))).run Try.prog w = .ok (.float .f32 r) w := by
    by_cases h0 : r = 0
    · subst h0
      cases s
      · have h1 : FloatKind.f32.format.order (Ieee.single.word false 0) (Ieee.single.word (!false) 0) = some .eq := by decide +kernel
        have h2 : (FloatKind.f32.decode (Ieee.single.word false 0)).neg = false := by decide +kernel
        simp only [Builtin.max2, h1, h2]
        rfl
      · have h1 : FloatKind.f32.format.order (Ieee.single.word true 0) (Ieee.single.word (!true) 0) = some .eq := by decide +kernel
        have h2 : (FloatKind.f32.decode (Ieee.single.word true 0)).neg = true := by decide +kernel
        simp only [Builtin.max2, h1, h2]
        rfl
    · obtain ⟨o1, o2⟩ := ord_pm r h0 hr
      rw [wf] at o1 o2
      cases s
      · simp only [Builtin.max2, Bool.not_false, o1, wf]
        rfl
      · simp only [Builtin.max2, Bool.not_true, o2, wf]
        rfl
  have e : Builtin.max_ ts t #[.float .f32 (Ieee.single.word s r), .float .f32 (Ieee.single.word (!s) r)] = Builtin.max2 (.float .f32 (Ieee.single.word s r)) (.float .f32 (Ieee.single.word (!s) r)) := by
    show (do let z ← Builtin.max2 (.float .f32 (Ieee.single.word s r)) (.float .f32 (Ieee.single.word (!s) r)); [].foldlM Builtin.max2 z) = _
    simp
  rw [e]
  exact key

/- How high one line is at a place: as the model tells it. -/

def FltP (R : Nat) (w : World) (e : Ending) (w' : World) : Prop := ∃ s m, e = .returned (.float .f32 (pick .f32 R s)) ∧ w' = w.drewN m
theorem quiet_q {P : Program} {f : FuncId} {args : Array Value} {w : World} {m n : Nat} {v : Value} (h : Calls P f args (w.drewN (m + n)) fun e w' => e = .returned v ∧ ∃ q, w' = (w.drewN (m + n)).drewN q) : Calls P f args (w.drewN (m + n)) fun e w'' => e = .returned v ∧ ∃ k, w'' = w.drewN (m + k) :=
  h.mono fun _ _ ⟨he, q, hq⟩ => ⟨he, n + q, by rw [hq, World.drewN_drewN, Nat.add_assoc]⟩
theorem negX_nan {x : Nat} (h : NegX x) : isNaN .f32 x = false := negX_num h
set_option maxRecDepth 100000 in
set_option maxHeartbeats 3200000 in
theorem l05At_any (g o : Nat) (l : Ln) (x : Nat) (w : World) (h : LnIn w g o l) (hl : okLn l = true) (hx : isFin .f32 x = true) (R : Nat) (hR : Hid (R = lnM l x)) :
    Calls Try.prog 187 #[.pointer (some ⟨g, o, none⟩), .float .f32 x] w (FltP R w) := by
  obtain ⟨n1, n2, n3, n4, n5, n6, n7⟩ := ln_facts hl hx
  obtain ⟨_, _, _, k0, k3⟩ := okLin_at hl
  obtain ⟨p, hh, d, k⟩ := l
  obtain ⟨c0, c1, c2, c3⟩ := h
  dsimp only at c0 c1 c2 c3 k0 k3
  obtain ⟨A, hA⟩ : ∃ A, fbin .sub .f32 x p = A := ⟨_, rfl⟩
  obtain ⟨U, hU⟩ : ∃ U, fbin .quo .f32 A d = U := ⟨_, rfl⟩
  obtain ⟨Q, hQ⟩ : ∃ Q, fbin .mul .f32 U U = Q := ⟨_, rfl⟩
  have eU : lnU ⟨p, hh, d, k⟩ x = U := by unfold lnU; rw [hA, hU]
  have eQ : lnQ ⟨p, hh, d, k⟩ x = Q := by unfold lnQ; rw [eU, hQ]
  rw [eQ] at n3 n4 n6
  rw [eU] at n2
  dsimp only at n1
  rw [hA] at n1
  have q1 := fun t => run_numop (op := .sub) rfl t _ _ _ hA n1
  have q2 := fun t => run_numop (op := .quo) rfl t _ _ _ hU n2
  have pQ := fun s => pick_num (s := s) n3
  have hUlt : U < 4294967296 := by rw [← hU]; exact fbin_lt _ _ _
  obtain ⟨N, hN⟩ : ∃ N, fbin .sub .f32 0 Q = N := ⟨_, rfl⟩
  rw [hN] at n4
  obtain ⟨E, hE⟩ : ∃ E, E = expF N := ⟨_, rfl⟩
  obtain ⟨B, hB⟩ : ∃ B, fbin .mul .f32 hh E = B := ⟨_, rfl⟩
  obtain ⟨J, hJ⟩ : ∃ J, fbin .add .f32 1065353216 Q = J := ⟨_, rfl⟩
  obtain ⟨H, hH⟩ : ∃ H, fbin .quo .f32 hh J = H := ⟨_, rfl⟩
  have eB : lnB ⟨p, hh, d, k⟩ x = B := by unfold lnB; rw [eQ, hN, ← hE, hB]
  have eH : lnH ⟨p, hh, d, k⟩ x = H := by unfold lnH; rw [eQ, hJ, hH]
  rw [eB] at n5
  rw [eH] at n7
  rw [hJ] at n6
  have q3 := fun t => run_numop (op := .sub) rfl t _ _ _ hN (negX_nan n4)
  have q4 := fun t => run_numop (op := .mul) rfl t _ _ _ hB n5
  have pJ := fun s => pick_num (s := s) n6
  have pH := fun s => pick_num (s := s) n7
  have HE := Lib.hid (show ∀ w, Calls Try.prog 225 #[.float .f32 N] w (fun e w' => e = .returned (.float .f32 E) ∧ ∃ n, w' = w.drewN n) from fun w => specExp_any N n4 E (Lib.hid hE) w)
  rcases (by omega : k = 0 ∨ k = 1 ∨ k = 2 ∨ k = 3) with rfl | rfl | rfl | rfl
  · have HR := Lib.hid (show ∀ m, FltP R w (.returned (.float .f32 B)) (w.drewN m) from fun m => ⟨0, m, by rw [hR.out, lnM, if_pos rfl, eB, pick_num n5], rfl⟩)
    clear n1 n2 n3 n4 n5 n6 n7 hA hU hN hE hB hJ hH eU eQ eB eH hR hUlt k0 k3 hl hx
    go_enter Try.func187, Try.ntmps187
    go_wp2_with fail
    go_quiet (fail)
    go_wp2_with ((with_reducible refine wpL_fbin ?_); refine ⟨_, _, _, rfl, rfl, rfl, fun s n => ?_⟩)
    go_quiet ((go_at_call 225; exact quiet_q (HE.out _)))
    go_wp2
    go_ret
    exact HR.out _
  · have HR := Lib.hid (show ∀ m, FltP R w (.returned (.float .f32 H)) (w.drewN m) from fun m => ⟨0, m, by rw [hR.out, lnM, if_neg (by simp), if_pos rfl, eH, pick_num n7], rfl⟩)
    clear n1 n2 n3 n4 n5 n6 n7 hA hU hN hE hB q3 q4 eU eQ eB eH hR hUlt k0 k3 hl hx
    go_enter Try.func187, Try.ntmps187
    go_wp2_with fail
    go_quiet (fail)
    go_wp2_with ((with_reducible refine wpL_fbin ?_); refine ⟨_, _, _, rfl, rfl, rfl, fun s n => ?_⟩)
    go_ret
    exact HR.out _
  · obtain ⟨S, hS⟩ : ∃ S, fbin .add .f32 B H = S := ⟨_, rfl⟩
    obtain ⟨T, hT⟩ : ∃ T, fbin .mul .f32 1056964608 S = T := ⟨_, rfl⟩
    have HR := Lib.hid (show ∀ s m, FltP R w (.returned (.float .f32 (pick .f32 T s))) (w.drewN m) from fun s m => ⟨s, m, by rw [hR.out, lnM, if_neg (by simp), if_neg (by simp), if_pos rfl, eB, eH, hS, hT], rfl⟩)
    have hp := fun op => fbin_pick_r op .f32
    clear n1 n2 n3 n4 n5 n6 n7 hA hU hN hE hB eU eQ eB eH hR hUlt k0 k3 hl hx
    go_enter Try.func187, Try.ntmps187
    go_wp2_with fail
    go_quiet (fail)
    go_wp2_with ((with_reducible refine wpL_fbin ?_); refine ⟨_, _, _, rfl, rfl, rfl, fun s n => ?_⟩)
    go_quiet ((go_at_call 225; exact quiet_q (HE.out _)))
    go_wp2_with ((with_reducible refine wpL_fbin ?_); refine ⟨_, _, _, rfl, rfl, rfl, fun s n => ?_⟩)
    go_ret
    exact HR.out _ _
  · obtain ⟨V, hV⟩ : ∃ V, V = if (FloatKind.f32.format.order U 0 == some .lt) = true then Op.negFloat .f32 U else U := ⟨_, rfl⟩
    have hRV : R = roofW hh V := by
      rw [hR.out, lnM, if_neg (by simp), if_neg (by simp), if_neg (by simp), lnR, eU, ← roof_model hUlt n2, ← hV]
    clear n1 n2 n3 n4 n5 n6 n7 hA hU hN hE hB hJ hH q3 q4 pJ pH HE eU eQ eB eH hR hUlt k0 k3 hl hx
    cases g : gtO V
    · have hg : (FloatKind.f32.format.order V 1065353216 == some .gt) = false := g
      have hp := fun op => fbin_pick_r op .f32
      obtain ⟨S, hS⟩ : ∃ S, fbin .sub .f32 1065353216 V = S := ⟨_, rfl⟩
      obtain ⟨T, hT⟩ : ∃ T, fbin .mul .f32 hh S = T := ⟨_, rfl⟩
      have HR := Lib.hid (show ∀ s m, FltP R w (.returned (.float .f32 (pick .f32 T s))) (w.drewN m) from fun s m => ⟨s, m, by rw [hRV, roofW, g, if_neg (by simp), hS, hT], rfl⟩)
      clear hRV g
      cases c : (FloatKind.f32.format.order U 0 == some .lt)
      · rw [c, if_neg (by simp)] at hV
        subst hV
        go_enter Try.func187, Try.ntmps187
        go_wp2_with fail
        go_quiet (fail)
        go_wp2_with ((with_reducible refine wpL_fbin ?_); refine ⟨_, _, _, rfl, rfl, rfl, fun s n => ?_⟩)
        go_ret
        exact HR.out _ _
      · rw [c, if_pos rfl] at hV
        have hV' := hV.symm
        clear hV
        go_enter Try.func187, Try.ntmps187
        go_wp2_with fail
        go_quiet (fail)
        go_wp2_with (first | ((with_reducible refine wpL_fbin ?_); refine ⟨_, _, _, rfl, rfl, rfl, fun s n => ?_⟩) | ((with_reducible refine wpL_fneg ?_); refine ⟨_, _, rfl, ?_⟩))
        go_ret
        exact HR.out _ _
    · have hg : (FloatKind.f32.format.order V 1065353216 == some .gt) = true := g
      have HR := Lib.hid (show ∀ m, FltP R w (.returned (.float .f32 0)) (w.drewN m) from fun m => ⟨0, m, by rw [hRV, roofW, g, if_pos rfl, pick_num (by decide +kernel)], rfl⟩)
      clear hRV g
      cases c : (FloatKind.f32.format.order U 0 == some .lt)
      · rw [c, if_neg (by simp)] at hV
        subst hV
        go_enter Try.func187, Try.ntmps187
        go_wp2_with fail
        go_quiet (fail)
        go_wp2_with ((with_reducible refine wpL_fbin ?_); refine ⟨_, _, _, rfl, rfl, rfl, fun s n => ?_⟩)
        go_ret
        exact HR.out _
      · rw [c, if_pos rfl] at hV
        have hV' := hV.symm
        clear hV
        go_enter Try.func187, Try.ntmps187
        go_wp2_with fail
        go_quiet (fail)
        go_wp2_with (first | ((with_reducible refine wpL_fbin ?_); refine ⟨_, _, _, rfl, rfl, rfl, fun s n => ?_⟩) | ((with_reducible refine wpL_fneg ?_); refine ⟨_, _, rfl, ?_⟩))
        go_ret
        exact HR.out _

end Go.Proofs.Ytmpcalpapkedhaa
