/- The rounds of a base: as the model takes the halves, and as the program does; they are the same but for the signs of zeros, and a list's difference does not see them. -/
import Derived.Test.YtehlflldnihamaaZsm
import Derived.Test.YtehlflldnihamaaOrW
import Derived.Test.YtehlflldnihamaaRo
import Derived.Test.YtehlflldnihamaaFinL
import Derived.Test.YtehlflldnihamaaOut
import Derived.Test.YtehlflldnihamaaLes
import Derived.Test.YtehlflldnihamaaGeA
namespace Go.Proofs.Ytehlflldnihamaa
open Go Go.ChangeShapes Go.WideShapes Go.ChangeAt Go.RowKit

def lo (a b : Nat) : Bool := FloatKind.f32.format.order a b == some .lt
def PB (x : Nat) : Prop := x < 4294967296 ∧ isNaN .f32 x = false ∧ x ≠ 2139095040
theorem isZ_zero : (0 : Nat) = Ieee.single.word false 0 := by decide +kernel
theorem word_i (op : BinOp) (x y : Nat) : fbin op .f32 x y < 4294967296 := by
  have := fbin_wf op .f32 x y
  simpa [Lit.wf] using this
theorem read_PB {x : Nat} (h : PB x) : FloatKind.f32.format.read x = .infinity true ∨ ∃ s m e, FloatKind.f32.format.read x = .number s m e := by
  rcases num_read h.2.1 with ⟨s, h1⟩ | ⟨s, m, e, h1⟩
  · cases s
    · exfalso
      obtain ⟨s, r, hr, e⟩ := word_of x h.1
      have hw := read_wordS s r hr
      have h1' : FloatKind.decode .f32 x = .infinity false := h1
      rw [← e, h1'] at hw
      split at hw
      · cases hw
      · split at hw
        · cases hw
        · split at hw
          · rename_i h3
            injection hw with hs
            subst h3
            rw [← hs] at e
            exact h.2.2 (by rw [e]; decide +kernel)
          · cases hw
    · exact .inl h1
  · exact .inr ⟨s, m, e, h1⟩
theorem num_addP {a b : Nat} (ha : PB a) (hb : PB b) : isNaN .f32 (fbin .add .f32 a b) = false := by
  apply some_num
  show (((FloatKind.f32.format.read a).sum (FloatKind.f32.format.read b)).map FloatKind.f32.format.write).isSome = true
  rcases read_PB ha with h1 | ⟨s, m, e, h1⟩ <;> rcases read_PB hb with h2 | ⟨t, n, f, h2⟩ <;> rw [h1, h2] <;> rfl
theorem lo_left {h b : Nat} (e : lo h b = true) : isNaN .f32 h = false ∧ h ≠ 2139095040 := by
  unfold lo at e
  rw [beq_iff_eq] at e
  have e' : (FloatKind.f32.format.read h).order (FloatKind.f32.format.read b) = some .lt := e
  constructor
  · show (FloatKind.f32.format.read h).isNaN = false
    cases hr : FloatKind.f32.format.read h with
    | nan s t => rw [hr] at e'; cases hb : FloatKind.f32.format.read b <;> rw [hb] at e' <;> cases e'
    | infinity s => rfl
    | number s m i => rfl
  · rintro rfl
    have hi : FloatKind.f32.format.read 2139095040 = .infinity false := by decide +kernel
    rw [hi] at e'
    cases hb : FloatKind.f32.format.read b with
    | nan s t => rw [hb] at e'; cases e'
    | infinity s => rw [hb] at e'; cases s <;> cases e'
    | number s m i => rw [hb] at e'; cases e'
theorem lo_pos {h b : Nat} (hh : h < 4294967296) (hb : b < 4294967296) (e : lo h b = true) (p : lo 0 h = true) : lo 0 b = true := by
  unfold lo at *
  rw [beq_iff_eq] at *
  have e' : (FloatKind.f32.format.read h).order (FloatKind.f32.format.read b) = some .lt := e
  have p' : (FloatKind.f32.format.read 0).order (FloatKind.f32.format.read h) = some .lt := p
  show (FloatKind.f32.format.read 0).order (FloatKind.f32.format.read b) = some .lt
  have r0 : FloatKind.f32.format.read 0 = .number false 0 (-149) := zero_dec
  cases hr : FloatKind.f32.format.read h with
  | nan s t => rw [hr, r0] at p'; cases p'
  | infinity s =>
    rw [hr] at e' p'
    cases s
    · cases hq : FloatKind.f32.format.read b with
      | nan s t => rw [hq] at e'; cases e'
      | infinity s => rw [hq] at e'; cases s <;> cases e'
      | number s m i => rw [hq] at e'; cases e'
    · rw [r0] at p'; cases p'
  | number s m i =>
    cases hq : FloatKind.f32.format.read b with
    | nan s t => rw [hr, hq] at e'; cases e'
    | infinity s =>
      rw [hr, hq] at e'
      cases s
      · rw [r0]; rfl
      · cases e'
    | number t n j =>
      obtain ⟨s1, a, ha, e1⟩ := fin_word hh (show isFin .f32 h = true by
        have hd : FloatKind.decode .f32 h = .number s m i := hr
        unfold isFin; rw [hd]; rfl)
      obtain ⟨s2, c, hc, e2⟩ := fin_word hb (show isFin .f32 b = true by
        have hd : FloatKind.decode .f32 b = .number t n j := hq
        unfold isFin; rw [hd]; rfl)
      have o1 := ord_words s1 s2 a c ha hc
      have o2 := ord_words false s1 0 a (by omega) ha
      have o3 := ord_words false s2 0 c (by omega) hc
      rw [← e1, ← e2, e] at o1
      rw [← isZ_zero, ← e1, p] at o2
      rw [← isZ_zero, ← e2] at o3
      have c1 := Int.compare_eq_lt.1 (Option.some.inj o1).symm
      have c2 := Int.compare_eq_lt.1 (Option.some.inj o2).symm
      rw [← hq]
      show FloatKind.f32.format.order 0 b = some .lt
      rw [o3, Int.compare_eq_lt.2 (by omega)]
def midS (a b : Nat) : Nat := fbin .quo .f32 (fbin .add .f32 a b) 1073741824
def midI (a b : Nat) : Nat := fbin .quo .f32 (fbin .add .f32 (fbin .add .f32 0 a) b) 1073741824
/-- The base of a list of n numbers behind t rounds. -/
def basR (mid : Nat → Nat → Nat) (X : Nat → Nat) (n : Nat) : Nat → Nat → Nat
  | 0 => X
  | t + 1 => fun i => if (1 ≤ i ∧ i + 1 < n) ∧ lo (mid (basR mid X n t (i - 1)) (basR mid X n t (i + 1))) (basR mid X n t i) = true then mid (basR mid X n t (i - 1)) (basR mid X n t (i + 1)) else basR mid X n t i
def BI (l b b' : Nat) : Prop := PB b ∧ PB b' ∧ eqz b b' ∧ ((l = 0 ∨ l = 2147483648) → b = b' ∧ lo 0 b = false)
theorem mid_word (a b : Nat) : midS a b < 4294967296 ∧ midI a b < 4294967296 := ⟨word_i _ _ _, word_i _ _ _⟩
theorem BI_mid {l k a a' b b' : Nat} (h : BI l a a') (g : BI k b b') : eqz (midS a b) (midI a' b') := eqz_mid h.1.1 g.1.1 h.2.1.1 h.1.2.1 g.1.2.1 h.2.1.2.1 h.2.2.1 g.2.2.1
theorem BI_lo {l b b' h h' : Nat} (g : BI l b b') (e : eqz h h') : lo h b = lo h' b' := by
  unfold lo
  rw [eqz_order e g.2.2.1]
theorem BI_new {l b b' h h' : Nat} (g : BI l b b') (e : eqz h h') (w : h < 4294967296) (w' : h' < 4294967296) (c : lo h b = true) : BI l h h' := by
  have c' : lo h' b' = true := by rw [← BI_lo g e, c]
  refine ⟨⟨w, lo_left c⟩, ⟨w', lo_left c'⟩, e, fun hl => ?_⟩
  obtain ⟨h1, h2⟩ := g.2.2.2 hl
  have hz : ¬ (h = 0 ∨ h = 2147483648) := fun hz => by
    have : lo h b = lo 0 b := by unfold lo; rw [eqz_order (show eqz h 0 from .inr ⟨hz, .inl rfl⟩) (eqz_refl b)]
    rw [this, h2] at c
    cases c
  constructor
  · rcases e with e | ⟨e, _⟩
    · exact e
    · exact absurd e hz
  · cases hp : lo 0 h
    · rfl
    · rw [lo_pos w g.1.1 c hp] at h2
      cases h2
theorem basR_BI {X : Nat → Nat} {n : Nat} (hw : ∀ i, i < n → X i < 4294967296) (hf : finL X n = true) : ∀ t i, i < n → BI (X i) (basR midS X n t i) (basR midI X n t i) := by
  intro t
  induction t with
  | zero =>
    intro i hi
    have h1 := finL_at hf i hi
    have hp : PB (X i) := ⟨hw i hi, num_fin h1, fun e => by rw [e] at h1; revert h1; decide +kernel⟩
    refine ⟨hp, hp, eqz_refl _, fun h => ⟨rfl, ?_⟩⟩
    show lo 0 (X i) = false
    rcases h with h | h <;> rw [h] <;> decide +kernel
  | succ t ih =>
    intro i hi
    have h0 := ih i hi
    by_cases hin : 1 ≤ i ∧ i + 1 < n
    · have e := BI_mid (ih (i - 1) (by omega)) (ih (i + 1) (by omega))
      have hlo := BI_lo h0 e
      show BI (X i) (if _ then _ else _) (if _ then _ else _)
      cases hc : lo (midS (basR midS X n t (i - 1)) (basR midS X n t (i + 1))) (basR midS X n t i)
      · rw [hc] at hlo
        rw [if_neg (by simp), if_neg (by rw [← hlo]; simp)]
        exact h0
      · rw [hc] at hlo
        rw [if_pos ⟨hin, rfl⟩, if_pos ⟨hin, hlo.symm⟩]
        exact BI_new h0 e (mid_word _ _).1 (mid_word _ _).2 hc
    · show BI (X i) (if _ then _ else _) (if _ then _ else _)
      rw [if_neg fun h => hin h.1, if_neg fun h => hin h.1]
      exact h0
theorem eqz_fin {a b : Nat} (h : eqz a b) : isFin .f32 a = isFin .f32 b := by
  rcases h with rfl | ⟨h1, h2⟩
  · rfl
  · rcases h1 with rfl | rfl <;> rcases h2 with rfl | rfl <;> decide +kernel
theorem basR_fin {X : Nat → Nat} {n : Nat} (hw : ∀ i, i < n → X i < 4294967296) (hf : finL X n = true) (t : Nat) : finL (basR midI X n t) n = finL (basR midS X n t) n := by
  cases h : finL (basR midS X n t) n
  · cases g : finL (basR midI X n t) n
    · rfl
    · have : finL (basR midS X n t) n = true := finL_yes fun i hi => by rw [eqz_fin (basR_BI hw hf t i hi).2.2.1]; exact finL_at g i hi
      rw [this] at h
      cases h
  · exact finL_yes fun i hi => by rw [← eqz_fin (basR_BI hw hf t i hi).2.2.1]; exact finL_at h i hi
theorem basR_les {X : Nat → Nat} {n : Nat} (hw : ∀ i, i < n → X i < 4294967296) (hf : finL X n = true) (t : Nat) : ∀ i, i < n → lesR X (basR midI X n t) i = lesR X (basR midS X n t) i := fun i hi => by
  have h := basR_BI hw hf t i hi
  by_cases hz : X i = 0 ∨ X i = 2147483648
  · rw [lesR, lesR, (h.2.2.2 hz).1]
  · exact (sub_eqz (hw i hi) (num_fin (finL_at hf i hi)) hz h.2.2.1).symm
end Go.Proofs.Ytehlflldnihamaa
