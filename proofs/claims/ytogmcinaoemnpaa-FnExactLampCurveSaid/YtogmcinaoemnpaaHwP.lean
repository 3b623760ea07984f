
/- One times a number, and the opposite of one times it, taken away: 32-bit numbers. -/
import Derived.Test.YtogmcinaoemnpaaHalf
namespace Go.Proofs.Ytogmcinaoemnpaa
open Go Go.RowKit

theorem rung_read (s : Bool) (r : Nat) (h : r < 2139095040) : ∃ m e, FloatKind.f32.format.read (Ieee.single.word s r) = .number s m e ∧ rungN m e = r := by
  have hw := read_wordS s r (by omega)
  have hw' : FloatKind.f32.format.read (Ieee.single.word s r) = _ := hw
  rw [hw']
  by_cases h1 : r < 8388608
  · rw [if_pos h1]
    refine ⟨_, _, rfl, ?_⟩
    by_cases h0 : r = 0
    · subst h0; rfl
    · exact rung_sub r h0 h1
  · rw [if_neg h1, if_pos h]
    refine ⟨_, _, rfl, ?_⟩
    obtain ⟨E, hE⟩ : ∃ E, E = r / 8388608 := ⟨_, rfl⟩
    obtain ⟨f, hf⟩ : ∃ f, f = r % 8388608 := ⟨_, rfl⟩
    rw [← hE, ← hf]
    have hd := Nat.div_add_mod r 8388608
    have hfl : f < 8388608 := by rw [hf]; exact Nat.mod_lt _ (by omega)
    have hn := rung_norm E f (by omega) (by omega) hfl
    have hs := rung_scale (8388608 + f) (-149 + ((E - 1 : Nat) : Int)) (E - 1)
    rw [show -149 + ((E - 1 : Nat) : Int) - ((E - 1 : Nat) : Int) = -149 by omega, hn] at hs
    omega
theorem read_one : FloatKind.f32.format.read 1065353216 = .number false 8388608 (-23) := by decide +kernel
theorem read_mone : FloatKind.f32.format.read 3212836864 = .number true 8388608 (-23) := by decide +kernel
theorem read_inf (s : Bool) : FloatKind.f32.format.read (Ieee.single.word s 2139095040) = .infinity s := by cases s <;> decide +kernel
theorem nan_word {s : Bool} {r : Nat} (h : r < 2147483648) (hn : isNaN .f32 (Ieee.single.word s r) = false) : r ≤ 2139095040 := by
  unfold isNaN at hn
  rw [read_wordS s r h] at hn
  by_cases h1 : r < 8388608
  · omega
  · by_cases h2 : r < 2139095040
    · omega
    · by_cases h3 : r = 2139095040
      · omega
      · rw [if_neg h1, if_neg h2, if_neg h3] at hn
        cases hn
theorem mul_unit (t : Bool) (c : Nat) (hc : FloatKind.f32.format.read c = .number t 8388608 (-23)) (s : Bool) (r : Nat) (h : r ≤ 2139095040) : fbin .mul .f32 c (Ieee.single.word s r) = Ieee.single.word (t ^^ s) r := by
  show ((Ieee.Datum.product (FloatKind.f32.format.read c) (FloatKind.f32.format.read (Ieee.single.word s r))).map FloatKind.f32.format.write).getD _ = _
  rw [hc]
  by_cases hr : r < 2139095040
  · obtain ⟨m, e, h1, h2⟩ := rung_read s r hr
    rw [h1]
    show FloatKind.f32.format.write (.number (t ^^ s) (8388608 * m) (-23 + e)) = _
    rw [write_num, show 8388608 * m = m * 2 ^ 23 from Nat.mul_comm _ _, show -23 + e = e - ((23 : Nat) : Int) by omega, rung_scale, h2]
  · obtain rfl : r = 2139095040 := by omega
    rw [read_inf]
    cases t <;> cases s <;> decide +kernel
theorem fbin_lt (op : BinOp) (x y : Nat) : fbin op .f32 x y < 4294967296 := by
  have := fbin_wf op .f32 x y
  simpa [Lit.wf] using this
theorem fbin_canon (op : BinOp) (x y : Nat) : isNaN .f32 (fbin op .f32 x y) = true → fbin op .f32 x y = qnan .f32 := by
  intro h
  unfold fbin at h ⊢
  cases hb : floatBits op .f32 x y with
  | none => rfl
  | some r =>
    rw [hb] at h
    have := floatBits_num hb
    simp only [Option.getD_some] at h
    rw [this] at h; cases h
theorem fbin_nan_r {op : BinOp} {x y : Nat} (h : isNaN .f32 y = true) : fbin op .f32 x y = qnan .f32 := by
  unfold fbin; rw [floatBits_right h]; rfl
/-- One times D. -/
theorem mul_one32 {D : Nat} (hD : D < 4294967296) (hc : isNaN .f32 D = true → D = qnan .f32) : fbin .mul .f32 1065353216 D = D := by
  cases hn : isNaN .f32 D
  · obtain ⟨s, r, h1, h2⟩ := word_of D hD
    subst h2
    have := nan_word h1 hn
    rw [mul_unit false _ read_one s r this]
    cases s <;> rfl
  · rw [fbin_nan_r hn, hc hn]
theorem opp_word (s : Bool) (r : Nat) (h : r ≤ 2139095040) : (FloatKind.f32.format.read (Ieee.single.word (!s) r)).opposite = FloatKind.f32.format.read (Ieee.single.word s r) := by
  by_cases hr : r < 2139095040
  · have h1 := read_wordS s r (by omega)
    have h2 := read_wordS (!s) r (by omega)
    have h1' : FloatKind.f32.format.read (Ieee.single.word s r) = _ := h1
    have h2' : FloatKind.f32.format.read (Ieee.single.word (!s) r) = _ := h2
    rw [h1', h2']
    by_cases c1 : r < 8388608
    · rw [if_pos c1, if_pos c1]; cases s <;> rfl
    · rw [if_neg c1, if_neg c1, if_pos hr, if_pos hr]; cases s <;> rfl
  · obtain rfl : r = 2139095040 := by omega
    rw [read_inf, read_inf]; cases s <;> rfl
/-- Less the opposite of D. -/
theorem sub_opp {D x : Nat} (hD : D < 4294967296) : fbin .sub .f32 x (fbin .mul .f32 3212836864 D) = fbin .add .f32 x D := by
  cases hn : isNaN .f32 D
  · obtain ⟨s, r, h1, h2⟩ := word_of D hD
    subst h2
    have h3 := nan_word h1 hn
    rw [mul_unit true _ read_mone s r h3]
    have e : (true ^^ s) = !s := by cases s <;> rfl
    rw [e]
    show (((FloatKind.f32.format.read x).sum (FloatKind.f32.format.read (Ieee.single.word (!s) r)).opposite).map FloatKind.f32.format.write).getD _ = (((FloatKind.f32.format.read x).sum (FloatKind.f32.format.read (Ieee.single.word s r))).map FloatKind.f32.format.write).getD _
    rw [opp_word s r h3]
  · rw [fbin_nan_r hn, fbin_nan_r (show isNaN .f32 (qnan .f32) = true from isNaN_qnan _), fbin_nan_r hn]
end Go.Proofs.Ytogmcinaoemnpaa
