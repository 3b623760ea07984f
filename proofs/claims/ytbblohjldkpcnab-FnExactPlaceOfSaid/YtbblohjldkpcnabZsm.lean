
/- A number and a zero of either sign: the sum is the number. -/
import Derived.Test.YtbblohjldkpcnabNegQ
namespace Go.Proofs.Ytbblohjldkpcnab
open Go

theorem add_zl (z s : Bool) (r : Nat) (h0 : r ≠ 0) (h : r ≤ 2139095040) : fbin .add .f32 (Ieee.single.word z 0) (Ieee.single.word s r) = Ieee.single.word s r := by
  have hz : Ieee.single.read (Ieee.single.word z 0) = .number z 0 (-149) := by cases z <;> decide +kernel
  have hw := read_wordS s r (by omega)
  have hw' : Ieee.single.read (Ieee.single.word s r) = _ := hw
  have hfb : fbin .add .f32 (Ieee.single.word z 0) (Ieee.single.word s r) = (((Ieee.Datum.number z 0 (-149)).sum (Ieee.single.read (Ieee.single.word s r))).map Ieee.single.write).getD (qnan .f32) := by
    rw [← hz]; rfl
  rw [hfb, hw']
  clear hfb hw hw' hz
  by_cases h1 : r < 8388608
  · rw [if_pos h1]
    have e : (Ieee.Datum.number z 0 (-149)).sum (Ieee.Datum.number s r (-149)) = some (.number s r (-149)) := by
      simp only [Ieee.Datum.sum, Ieee.signed]
      cases s <;> cases z <;> simp <;> omega
    rw [e]
    show Ieee.single.nearest _ _ _ = _
    rw [nearest_word, rung_sub r h0 h1]
  · rw [if_neg h1]
    by_cases h2 : r < 2139095040
    · rw [if_pos h2]
      obtain ⟨E, hE⟩ : ∃ E, E = r / 8388608 := ⟨_, rfl⟩
      obtain ⟨f, hf⟩ : ∃ f, f = r % 8388608 := ⟨_, rfl⟩
      rw [← hE, ← hf]
      have hr : r = E * 8388608 + f := by omega
      have hE1 : 1 ≤ E := by omega
      have hE2 : E < 255 := by omega
      have hf2 : f < 8388608 := by omega
      have e : (Ieee.Datum.number z 0 (-149)).sum (Ieee.Datum.number s (8388608 + f) (-149 + ((E - 1 : Nat) : Int))) = some (.number s ((8388608 + f) * 2 ^ (E - 1)) (-149)) := by
        have hp := Nat.two_pow_pos (E - 1)
        have hpos : 0 < (8388608 + f) * 2 ^ (E - 1) := Nat.mul_pos (by omega) hp
        have m1 : min (-149) (-149 + ((E - 1 : Nat) : Int)) = -149 := by omega
        have m2 : (-149 + ((E - 1 : Nat) : Int) - -149).toNat = E - 1 := by omega
        simp only [Ieee.Datum.sum, m1, m2, Ieee.signed, Nat.shiftLeft_eq]
        generalize (8388608 + f) * 2 ^ (E - 1) = M at *
        cases s <;> cases z <;> simp <;> omega
      rw [e]
      show Ieee.single.nearest _ _ _ = _
      rw [nearest_word, rung_norm E f hE1 hE2 hf2, ← hr]
    · have h3 : r = 2139095040 := by omega
      subst h3
      cases s <;> cases z <;> decide +kernel
theorem add_zr (z s : Bool) (r : Nat) (h0 : r ≠ 0) (h : r ≤ 2139095040) : fbin .add .f32 (Ieee.single.word s r) (Ieee.single.word z 0) = Ieee.single.word s r := by
  have hz : Ieee.single.read (Ieee.single.word z 0) = .number z 0 (-149) := by cases z <;> decide +kernel
  have hw := read_wordS s r (by omega)
  have hw' : Ieee.single.read (Ieee.single.word s r) = _ := hw
  have hfb : fbin .add .f32 (Ieee.single.word s r) (Ieee.single.word z 0) = (((Ieee.single.read (Ieee.single.word s r)).sum (Ieee.Datum.number z 0 (-149))).map Ieee.single.write).getD (qnan .f32) := by
    rw [← hz]; rfl
  rw [hfb, hw']
  clear hfb hw hw' hz
  by_cases h1 : r < 8388608
  · rw [if_pos h1]
    have e : (Ieee.Datum.number s r (-149)).sum (Ieee.Datum.number z 0 (-149)) = some (.number s r (-149)) := by
      simp only [Ieee.Datum.sum, Ieee.signed]
      cases s <;> cases z <;> simp <;> omega
    rw [e]
    show Ieee.single.nearest _ _ _ = _
    rw [nearest_word, rung_sub r h0 h1]
  · rw [if_neg h1]
    by_cases h2 : r < 2139095040
    · rw [if_pos h2]
      obtain ⟨E, hE⟩ : ∃ E, E = r / 8388608 := ⟨_, rfl⟩
      obtain ⟨f, hf⟩ : ∃ f, f = r % 8388608 := ⟨_, rfl⟩
      rw [← hE, ← hf]
      have hr : r = E * 8388608 + f := by omega
      have hE1 : 1 ≤ E := by omega
      have hE2 : E < 255 := by omega
      have hf2 : f < 8388608 := by omega
      have e : (Ieee.Datum.number s (8388608 + f) (-149 + ((E - 1 : Nat) : Int))).sum (Ieee.Datum.number z 0 (-149)) = some (.number s ((8388608 + f) * 2 ^ (E - 1)) (-149)) := by
        have hp := Nat.two_pow_pos (E - 1)
        have hpos : 0 < (8388608 + f) * 2 ^ (E - 1) := Nat.mul_pos (by omega) hp
        have m1 : min (-149 + ((E - 1 : Nat) : Int)) (-149) = -149 := by omega
        have m2 : (-149 + ((E - 1 : Nat) : Int) - -149).toNat = E - 1 := by omega
        simp only [Ieee.Datum.sum, m1, m2, Ieee.signed, Nat.shiftLeft_eq]
        generalize (8388608 + f) * 2 ^ (E - 1) = M at *
        cases s <;> cases z <;> simp <;> omega
      rw [e]
      show Ieee.single.nearest _ _ _ = _
      rw [nearest_word, rung_norm E f hE1 hE2 hf2, ← hr]
    · have h3 : r = 2139095040 := by omega
      subst h3
      cases s <;> cases z <;> decide +kernel
/-- The same, or both a zero. -/
def eqz (x y : Nat) : Prop := x = y ∨ ((x = 0 ∨ x = 2147483648) ∧ (y = 0 ∨ y = 2147483648))
theorem eqz_refl (x : Nat) : eqz x x := .inl rfl
theorem word_zero (z : Bool) : Ieee.single.word z 0 = if z = true then 2147483648 else 0 := by cases z <;> decide +kernel
theorem zero_word {x : Nat} (h : x = 0 ∨ x = 2147483648) : ∃ z, x = Ieee.single.word z 0 := by
  rcases h with rfl | rfl
  · exact ⟨false, by decide +kernel⟩
  · exact ⟨true, by decide +kernel⟩
theorem word_num {s : Bool} {r : Nat} (h : r < 2147483648) (hn : isNaN .f32 (Ieee.single.word s r) = false) : r ≤ 2139095040 := by
  by_cases h1 : r ≤ 2139095040
  · exact h1
  · exfalso
    have hw := read_wordS s r h
    rw [if_neg (by omega), if_neg (by omega)] at hw
    unfold isNaN at hn
    rw [hw] at hn
    split at hn <;> first | (cases hn; done) | simp_all
/-- Sums of numbers that are the same but for a zero's sign are the same but for a zero's sign. -/
theorem eqz_add {a b a' b' : Nat} (ha : a < 4294967296) (hb : b < 4294967296) (na : isNaN .f32 a = false) (nb : isNaN .f32 b = false) (h : eqz a a') (g : eqz b b') : eqz (fbin .add .f32 a b) (fbin .add .f32 a' b') := by
  rcases h with rfl | ⟨h1, h2⟩
  · rcases g with rfl | ⟨g1, g2⟩
    · exact .inl rfl
    · obtain ⟨s, r, hr, e⟩ := word_of a ha
      by_cases h0 : r = 0
      · subst h0
        have : a = 0 ∨ a = 2147483648 := by rw [e, word_zero]; cases s <;> simp
        rcases this with rfl | rfl <;> rcases g1 with rfl | rfl <;> rcases g2 with rfl | rfl <;> unfold eqz <;> decide +kernel
      · rw [e] at na
        have hle := word_num hr na
        obtain ⟨z, rfl⟩ := zero_word g1
        obtain ⟨z', rfl⟩ := zero_word g2
        rw [e, add_zr z s r h0 hle, add_zr z' s r h0 hle]
        exact .inl rfl
  · obtain ⟨s, r, hr, e⟩ := word_of b hb
    by_cases h0 : r = 0
    · subst h0
      have hb0 : b = 0 ∨ b = 2147483648 := by rw [e, word_zero]; cases s <;> simp
      have hb1 : b' = 0 ∨ b' = 2147483648 := by
        rcases g with rfl | ⟨_, g2⟩
        · exact hb0
        · exact g2
      rcases hb0 with rfl | rfl <;> rcases hb1 with rfl | rfl <;> rcases h1 with rfl | rfl <;> rcases h2 with rfl | rfl <;> unfold eqz <;> decide +kernel
    · have hbb : b = b' := by
        rcases g with e' | ⟨g1, _⟩
        · exact e'
        · exfalso
          obtain ⟨z, hz⟩ := zero_word g1
          rw [hz] at e
          have := congrArg (fun x => x % 2147483648) e
          rcases g1 with rfl | rfl
          · have hc : Ieee.single.word s r % 2147483648 = r := by
              have hsw : Ieee.single.signWeight = 2147483648 := rfl
              cases s <;> simp [Ieee.Format.word, hsw] <;> omega
            rw [← e, ← hz] at hc; omega
          · have hc : Ieee.single.word s r % 2147483648 = r := by
              have hsw : Ieee.single.signWeight = 2147483648 := rfl
              cases s <;> simp [Ieee.Format.word, hsw] <;> omega
            rw [← e, ← hz] at hc; omega
      subst hbb
      rw [e] at nb
      have hle := word_num hr nb
      obtain ⟨z, rfl⟩ := zero_word h1
      obtain ⟨z', rfl⟩ := zero_word h2
      rw [e, add_zl z s r h0 hle, add_zl z' s r h0 hle]
      exact .inl rfl
theorem eqz_half {a b : Nat} (h : eqz a b) : eqz (fbin .quo .f32 a 1073741824) (fbin .quo .f32 b 1073741824) := by
  rcases h with rfl | ⟨h1, h2⟩
  · exact .inl rfl
  · rcases h1 with rfl | rfl <;> rcases h2 with rfl | rfl <;> unfold eqz <;> decide +kernel
theorem read_p : Ieee.single.read 0 = .number false 0 (-149) := zero_dec
theorem read_n : Ieee.single.read 2147483648 = .number true 0 (-149) := by decide +kernel
theorem datum_zl (d : Ieee.Datum) : Ieee.Datum.order (.number true 0 (-149)) d = Ieee.Datum.order (.number false 0 (-149)) d := by
  cases d <;> first | rfl | simp [Ieee.Datum.order, Ieee.signed]
theorem datum_zr (d : Ieee.Datum) : Ieee.Datum.order d (.number true 0 (-149)) = Ieee.Datum.order d (.number false 0 (-149)) := by
  cases d <;> first | rfl | simp [Ieee.Datum.order, Ieee.signed]
theorem eqz_order {a b c d : Nat} (h : eqz a b) (g : eqz c d) : FloatKind.f32.format.order a c = FloatKind.f32.format.order b d := by
  have hl : FloatKind.f32.format.order a c = FloatKind.f32.format.order b c := by
    show (Ieee.single.read a).order (Ieee.single.read c) = (Ieee.single.read b).order (Ieee.single.read c)
    rcases h with rfl | ⟨h1, h2⟩
    · rfl
    · rcases h1 with rfl | rfl <;> rcases h2 with rfl | rfl <;> simp only [read_p, read_n, datum_zl]
  have hr : FloatKind.f32.format.order b c = FloatKind.f32.format.order b d := by
    show (Ieee.single.read b).order (Ieee.single.read c) = (Ieee.single.read b).order (Ieee.single.read d)
    rcases g with rfl | ⟨h1, h2⟩
    · rfl
    · rcases h1 with rfl | rfl <;> rcases h2 with rfl | rfl <;> simp only [read_p, read_n, datum_zr]
  rw [hl, hr]
/-- 0 before a sum is not seen but for a zero's sign. -/
theorem eqz_zero {a : Nat} (ha : a < 4294967296) (na : isNaN .f32 a = false) : eqz a (fbin .add .f32 0 a) := by
  obtain ⟨s, r, hr, e⟩ := word_of a ha
  by_cases h0 : r = 0
  · subst h0
    have : a = 0 ∨ a = 2147483648 := by rw [e, word_zero]; cases s <;> simp
    rcases this with rfl | rfl <;> unfold eqz <;> decide +kernel
  · rw [e] at na
    have hz : (0 : Nat) = Ieee.single.word false 0 := by decide +kernel
    refine .inl ?_
    rw [e]
    conv => rhs; rw [hz, add_zl false s r h0 (word_num hr na)]
/-- The half of a sum, as the model tells it and as the program does. -/
theorem eqz_mid {a b a' b' : Nat} (ha : a < 4294967296) (hb : b < 4294967296) (ha' : a' < 4294967296) (na : isNaN .f32 a = false) (nb : isNaN .f32 b = false) (na' : isNaN .f32 a' = false) (h : eqz a a') (g : eqz b b') :
    eqz (fbin .quo .f32 (fbin .add .f32 a b) 1073741824) (fbin .quo .f32 (fbin .add .f32 (fbin .add .f32 0 a') b') 1073741824) := by
  refine eqz_half (eqz_add ha hb na nb ?_ g)
  have h1 := eqz_zero ha' na'
  rcases h with rfl | ⟨p, q⟩
  · exact h1
  · rcases h1 with e | ⟨_, e⟩
    · rw [← e]; exact .inr ⟨p, q⟩
    · exact .inr ⟨p, e⟩
/-- A number that is not 0 does not see the sign of a zero that is taken from it. -/
theorem sub_eqz {x b b' : Nat} (hx : x < 4294967296) (nx : isNaN .f32 x = false) (h0 : ¬ (x = 0 ∨ x = 2147483648)) (h : eqz b b') : fbin .sub .f32 x b = fbin .sub .f32 x b' := by
  rcases h with rfl | ⟨h1, h2⟩
  · rfl
  · obtain ⟨s, r, hr, e⟩ := word_of x hx
    have hr0 : r ≠ 0 := fun e0 => h0 (by rw [e, e0, word_zero]; cases s <;> simp)
    rw [e] at nx
    have hle := word_num hr nx
    have key : ∀ z, fbin .sub .f32 x (Ieee.single.word z 0) = x := fun z => by
      have ho : (Ieee.single.read (Ieee.single.word z 0)).opposite = Ieee.single.read (Ieee.single.word (!z) 0) := by cases z <;> decide +kernel
      have : fbin .sub .f32 x (Ieee.single.word z 0) = fbin .add .f32 x (Ieee.single.word (!z) 0) := by
        show (((Ieee.single.read x).sum (Ieee.single.read (Ieee.single.word z 0)).opposite).map Ieee.single.write).getD _ = _
        rw [ho]; rfl
      rw [this, e, add_zr (!z) s r hr0 hle]
    obtain ⟨z, rfl⟩ := zero_word h1
    obtain ⟨z', rfl⟩ := zero_word h2
    rw [key z, key z']
end Go.Proofs.Ytbblohjldkpcnab
