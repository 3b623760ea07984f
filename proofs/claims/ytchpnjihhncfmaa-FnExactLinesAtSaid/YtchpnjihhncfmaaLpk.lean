/- How high one line is at a place: as the model tells it. -/
import Derived.Test.YtchpnjihhncfmaaLpm
import Derived.Test.YtchpnjihhncfmaaExpI
import Derived.Test.YtchpnjihhncfmaaNeg
import Derived.Deep.QuietTactic
import Derived.BigQuiet
namespace Go.Proofs.Ytchpnjihhncfmaa
open Go Go.ChangeShapes Go.WideShapes Go.ChangeAt Go.RowKit

def lnU (l : Ln) (x : Nat) : Nat := fbin .quo .f32 (fbin .sub .f32 x l.p) l.d
def lnQ (l : Ln) (x : Nat) : Nat := fbin .mul .f32 (lnU l x) (lnU l x)
def lnB (l : Ln) (x : Nat) : Nat := fbin .mul .f32 l.h (expF (fbin .sub .f32 0 (lnQ l x)))
def lnH (l : Ln) (x : Nat) : Nat := fbin .quo .f32 l.h (fbin .add .f32 1065353216 (lnQ l x))
def gtO (a : Nat) : Bool := FloatKind.f32.format.order a 1065353216 == some .gt
def roofW (h a : Nat) : Nat := if gtO a = true then 0 else fbin .mul .f32 h (fbin .sub .f32 1065353216 a)
def lnR (l : Ln) (x : Nat) : Nat := roofW l.h (lnU l x % 2147483648)
def lnM (l : Ln) (x : Nat) : Nat := if l.k = 0 then lnB l x else if l.k = 1 then lnH l x else if l.k = 2 then fbin .mul .f32 1056964608 (fbin .add .f32 (lnB l x) (lnH l x)) else lnR l x
def lnI (l : Ln) (x : Nat) : Nat := if l.k = 0 then lnB l x else if l.k = 1 then lnH l x else if l.k = 2 then fbin .quo .f32 (fbin .add .f32 (fbin .add .f32 0 (lnB l x)) (lnH l x)) 1073741824 else lnR l x
theorem ln_facts {l : Ln} {x : Nat} (hl : okLn l = true) (hx : isFin .f32 x = true) :
    isNaN .f32 (fbin .sub .f32 x l.p) = false ∧ isNaN .f32 (lnU l x) = false ∧ isNaN .f32 (lnQ l x) = false ∧ NegX (fbin .sub .f32 0 (lnQ l x)) ∧ isNaN .f32 (lnB l x) = false ∧ isNaN .f32 (fbin .add .f32 1065353216 (lnQ l x)) = false ∧ isNaN .f32 (lnH l x) = false := by
  obtain ⟨h1, h2, h3, _, _⟩ := okLin_at hl
  have a1 : isNaN .f32 (fbin .sub .f32 x l.p) = false := nan_sub (num_fin hx) h1
  have a2 : isNaN .f32 (lnU l x) = false := nan_quo_pos a1 (pos_read h3)
  have a3 : isNaN .f32 (lnQ l x) = false := by
    obtain ⟨q, hq, e⟩ := squ_word a2
    unfold lnQ
    rw [e]
    exact num_word hq
  have a4 := neg_sq a2
  refine ⟨a1, a2, a3, a4, nan_mul h2 (bd_fin (expF_bd a4)), ?_, nan_hill h2 a2⟩
  obtain ⟨q, _, hq, e⟩ := one_sq a2
  show isNaN .f32 (fbin .add .f32 1065353216 (fbin .mul .f32 (lnU l x) (lnU l x))) = false
  rw [e]
  exact num_word hq
/-- Half of both: the two ways differ in the sign of a zero at most. -/
theorem half_zeq {B H : Nat} (hB : B < 4294967296) (hH : H < 4294967296) (nB : isNaN .f32 B = false) (nH : isNaN .f32 H = false) :
    ZEq (fbin .mul .f32 1056964608 (fbin .add .f32 B H)) (fbin .quo .f32 (fbin .add .f32 (fbin .add .f32 0 B) H) 1073741824) := by
  rw [half_eq]
  obtain ⟨s, r, hr, rfl⟩ := num_as_word hB nB
  obtain ⟨t, q, hq, rfl⟩ := num_as_word hH nH
  rw [add_zero_l s r hr]
  by_cases h0 : r = 0
  · subst h0
    rw [if_pos rfl]
    cases s
    · exact .inl rfl
    · rw [show Ieee.single.word true 0 = 2147483648 from rfl]
      by_cases q0 : q = 0
      · subst q0
        right
        cases t <;> exact ⟨by decide +kernel, by decide +kernel⟩
      · rw [add_negz t q q0 hq]
        exact .inl rfl
  · rw [if_neg h0]
    exact .inl rfl
theorem ln_zeq {l : Ln} {x : Nat} (hl : okLn l = true) (hx : isFin .f32 x = true) : ZEq (lnM l x) (lnI l x) := by
  obtain ⟨_, _, _, _, n5, _, n7⟩ := ln_facts hl hx
  unfold lnM lnI
  split
  · exact .inl rfl
  · split
    · exact .inl rfl
    · split
      · exact half_zeq (fbin_lt _ _ _) (fbin_lt _ _ _) n5 n7
      · exact .inl rfl
theorem word_mod (s : Bool) (r : Nat) (h : r < 2147483648) : Ieee.single.word s r % 2147483648 = r := by
  have hsw : Ieee.single.signWeight = 2147483648 := rfl
  unfold Ieee.Format.word
  rw [hsw]
  cases s <;> simp <;> omega
theorem neg_word (s : Bool) (r : Nat) (h : r < 2147483648) : Op.negFloat .f32 (Ieee.single.word s r) = Ieee.single.word (!s) r := by
  have hsw : Ieee.single.signWeight = 2147483648 := rfl
  have e : ∀ b, Op.negFloat .f32 b = b ^^^ 2 ^ 31 := fun b => rfl
  rw [e]
  unfold Ieee.Format.word
  rw [hsw]
  cases s
  · simp only [Bool.false_eq_true, if_false, Bool.not_false, if_true]
    exact xor_low 31 r (by simpa using h)
  · simp only [Bool.not_true, Bool.false_eq_true, if_false, if_true]
    exact xor_high 31 r (by simpa using h)
/-- What comparing a number and its opposite tells. -/
theorem ord_pm (r : Nat) (h0 : r ≠ 0) (h : r ≤ 2139095040) : FloatKind.f32.format.order (Ieee.single.word false r) (Ieee.single.word true r) = some .gt ∧ FloatKind.f32.format.order (Ieee.single.word true r) (Ieee.single.word false r) = some .lt := by
  have hf : FloatKind.f32.format.read (Ieee.single.word false r) = _ := read_wordS false r (by omega)
  have ht : FloatKind.f32.format.read (Ieee.single.word true r) = _ := read_wordS true r (by omega)
  unfold Ieee.Format.order
  rw [hf, ht]
  by_cases h1 : r < 8388608
  · rw [if_pos h1, if_pos h1]
    simp only [Ieee.Datum.order, Ieee.signed, Int.sub_self, Int.min_self, Int.toNat_zero, Nat.shiftLeft_zero]
    constructor
    · congr 1; rw [Int.compare_eq_gt]; simp; omega
    · congr 1; rw [Int.compare_eq_lt]; simp; omega
  · rw [if_neg h1, if_neg h1]
    by_cases h2 : r < 2139095040
    · rw [if_pos h2, if_pos h2]
      simp only [Ieee.Datum.order, Ieee.signed, Int.sub_self, Int.min_self, Int.toNat_zero, Nat.shiftLeft_zero]
      constructor
      · congr 1; rw [Int.compare_eq_gt]; simp; omega
      · congr 1; rw [Int.compare_eq_lt]; simp; omega
    · rw [if_neg h2, if_pos (by omega), if_neg h2, if_pos (by omega)]
      exact ⟨rfl, rfl⟩
theorem ord_lt0 (s : Bool) (r : Nat) (h : r ≤ 2139095040) : (FloatKind.f32.format.order (Ieee.single.word s r) 0 == some .lt) = (s && decide (r ≠ 0)) := by
  by_cases h0 : r = 0
  · subst h0; cases s <;> decide +kernel
  · rw [decide_eq_true h0, Bool.and_true]
    unfold Ieee.Format.order
    rw [read_posz]
    rcases read_nz s r h0 h with hr | ⟨m, e, hr, hm, _⟩
    · rw [hr]; cases s <;> rfl
    · rw [hr]
      simp only [Ieee.Datum.order, Ieee.signed, Nat.shiftLeft_eq]
      have p1 := Nat.two_pow_pos (e - min e (-149)).toNat
      have m1 : m * 2 ^ (e - min e (-149)).toNat ≠ 0 := Nat.mul_ne_zero hm (by omega)
      obtain ⟨A, hA⟩ : ∃ A, A = m * 2 ^ (e - min e (-149)).toNat := ⟨_, rfl⟩
      rw [← hA] at m1 ⊢
      clear hA
      cases s
      · have : compare (A : Int) 0 = .gt := by rw [Int.compare_eq_gt]; omega
        simp [this]
      · have : compare (-(A : Int)) 0 = .lt := by rw [Int.compare_eq_lt]; omega
        simp [this]
/-- The model's absolute value, and what is made of it. -/
theorem roof_model {U h : Nat} (hU : U < 4294967296) (nU : isNaN .f32 U = false) :
    roofW h (if (FloatKind.f32.format.order U 0 == some .lt) = true then Op.negFloat .f32 U else U) = roofW h (U % 2147483648) := by
  obtain ⟨s, r, hr, rfl⟩ := num_as_word hU nU
  rw [ord_lt0 s r hr, word_mod s r (by omega), neg_word s r (by omega)]
  have wf : Ieee.single.word false r = r := by unfold Ieee.Format.word; simp
  by_cases h0 : r = 0
  · subst h0
    cases s
    · rfl
    · rw [if_neg (by simp), show Ieee.single.word true 0 = 2147483648 from rfl]
      unfold roofW
      rw [show gtO 2147483648 = gtO 0 by decide +kernel, show fbin .sub .f32 1065353216 2147483648 = fbin .sub .f32 1065353216 0 by decide +kernel]
  · cases s
    · rw [if_neg (by simp), wf]
    · rw [if_pos (by simp [h0]), show (!true) = false from rfl, wf]
theorem max_abs {U : Nat} (hU : U < 4294967296) (nU : isNaN .f32 U = false) (ts : Array TypeId) (t : TypeId) (w : World) :
    (Builtin.max_ ts t #[.float .f32 U, .float .f32 (Op.negFloat .f32 U)]).run Try.prog w = .ok (.float .f32 (U % 2147483648)) w := by
  obtain ⟨s, r, hr, rfl⟩ := num_as_word hU nU
  rw [word_mod s r (by omega), neg_word s r (by omega)]
  have wf : Ieee.single.word false r = r := by unfold Ieee.Format.word; simp
  have key : (Builtin.max2 (.float .f32 (Ieee.single.word s r)) (.float .f32 (Ieee.single.word (!s) r))).run Try.prog w = .ok (.float .f32 r) w := by
    by_cases h0 : r = 0
    · subst h0
      cases s
      · have h1 : FloatKind.f32.format.order (Ieee.single.word false 0) (Ieee.single.word (!false) 0) = some .eq := by decide +kernel
        have h2 : (FloatKind.f32.decode (Ieee.single.word false 0)).neg = false := by decide +kernel
        simp only [Builtin.max2, h1, h2]
        rfl
      · have h1 : FloatKind.f32.format.order (Ieee.single.word true 0) (Ieee.single.word (!true) 0) = some .eq := by decide +kernel
        have h2 : (FloatKind.f32.decode (Ieee.single.word true 0)).neg = true := by decide +kernel
        simp only [Builtin.max2, h1, h2]
        rfl
    · obtain ⟨o1, o2⟩ := ord_pm r h0 hr
      rw [wf] at o1 o2
      cases s
      · simp only [Builtin.max2, Bool.not_false, o1, wf]
        rfl
      · simp only [Builtin.max2, Bool.not_true, o2, wf]
        rfl
  have e : Builtin.max_ ts t #[.float .f32 (Ieee.single.word s r), .float .f32 (Ieee.single.word (!s) r)] = Builtin.max2 (.float .f32 (Ieee.single.word s r)) (.float .f32 (Ieee.single.word (!s) r)) := by
    show (do let z ← Builtin.max2 (.float .f32 (Ieee.single.word s r)) (.float .f32 (Ieee.single.word (!s) r)); [].foldlM Builtin.max2 z) = _
    simp
  rw [e]
  exact key
end Go.Proofs.Ytchpnjihhncfmaa
