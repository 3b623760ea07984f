
/- A 32-bit number made a 64-bit one stays what it is, and stands to 0 as it did. -/
import Derived.Test.YtogmcinaoemnpaaSinP
namespace Go.Proofs.Ytogmcinaoemnpaa
open Go Go.RowKit

theorem widen_val {x : Nat} {s : Bool} {m : Nat} {e : Int} (hd : FloatKind.decode .f32 x = .number s m e) : ∃ m' e', FloatKind.decode .f64 (fconv .f32 x .f64) = .number s m' e' ∧ (m' : Rat) * two e' = (m : Rat) * two e := by
  have hn : isNaN .f32 x = false := by simp [isNaN, hd, Ieee.Datum.isNaN]
  have hf : fconv .f32 x .f64 = FloatKind.encode .f64 (.number s m e) := by simp [fconv, hn, hd]
  rw [hf]
  obtain ⟨h1, h2, h3⟩ := read_single x s m e hd
  by_cases hm : m = 0
  · subst hm
    refine ⟨0, -1074, ?_, ?_⟩
    · have : FloatKind.encode .f64 (.number s 0 e) = Ieee.double.word s 0 := nearest_zero Ieee.double s e
      rw [this]
      cases s <;> decide +kernel
    · have h0 : ((0 : Nat) : Rat) = 0 := rfl
      rw [h0, Rat.zero_mul, Rat.zero_mul]
  · have hl : m.log2 < 24 := (Nat.log2_lt hm).2 h1
    refine ⟨_, _, widen_word hm h1 h2 h3, ?_⟩
    rw [Nat.shiftLeft_eq, natCast_mul, ← two_nat, Rat.mul_assoc, ← two_add]
    congr 2
    omega
theorem dec0_32 : FloatKind.decode .f32 0 = .number false 0 (-149) := by decide +kernel
theorem dec0_64 : FloatKind.decode .f64 0 = .number false 0 (-1074) := by decide +kernel
theorem order_widen {x : Nat} {s : Bool} {m : Nat} {e : Int} (hd : FloatKind.decode .f32 x = .number s m e) : FloatKind.f64.format.order (fconv .f32 x .f64) 0 = FloatKind.f32.format.order x 0 := by
  obtain ⟨m', e', hd', hv⟩ := widen_val hd
  obtain ⟨a1, a2, a3⟩ := order_val hd dec0_32
  obtain ⟨b1, b2, b3⟩ := order_val hd' dec0_64
  have z1 : sval false 0 (-149) = 0 := by decide +kernel
  have z2 : sval false 0 (-1074) = 0 := by decide +kernel
  have hs : sval s m' e' = sval s m e := by
    unfold sval
    cases s
    · simp only [Bool.false_eq_true, if_false]; exact hv
    · simp only [if_true]
      have p : ∀ (q : Nat) (e : Int), -(q : Rat) * two e = -((q : Rat) * two e) := fun q e => by grind
      rw [p, p, hv]
  rw [z1] at a1 a2 a3
  rw [z2, hs] at b1 b2 b3
  by_cases c1 : sval s m e < 0
  · rw [a1 c1, b1 c1]
  · by_cases c2 : sval s m e = 0
    · rw [a2 c2, b2 c2]
    · have c3 : 0 < sval s m e := by grind
      rw [a3 c3, b3 c3]
end Go.Proofs.Ytogmcinaoemnpaa
