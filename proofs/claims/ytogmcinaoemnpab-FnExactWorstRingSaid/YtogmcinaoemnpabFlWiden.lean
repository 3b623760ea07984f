
/- float64 of a float32 loses nothing: what it reads as; and it is never asked of the tape but for a not-a-number. -/
import Derived.Test.YtogmcinaoemnpabFl
namespace Go.Proofs.Ytogmcinaoemnpab
open Go Go.RowKit

theorem cut_zero (neg : Bool) (n : Nat) : Ieee.Toward.even.cut neg n 0 = n := by
  unfold Ieee.Toward.cut
  simp only [Nat.zero_min, Nat.shiftLeft_zero, Nat.div_one, Nat.mod_one]
  simp
/-- A number of at most 53 digits, none of them below the least place, keeps all its digits. -/
theorem nearest_wide {neg : Bool} {m : Nat} {e : Int} (hm : m ≠ 0) (h53 : m < 2 ^ 53) (hlo : -1022 ≤ e + m.log2) (hhi : e + m.log2 ≤ 1023) :
    Ieee.double.nearest neg m e = Ieee.double.word neg ((e + m.log2 + 1022).toNat * 2 ^ 52 + m <<< (52 - m.log2)) ∧
    2 ^ 52 ≤ m <<< (52 - m.log2) ∧ m <<< (52 - m.log2) < 2 ^ 53 := by
  have hl : m.log2 < 53 := (Nat.log2_lt hm).2 h53
  have h1 : 2 ^ m.log2 ≤ m := Nat.log2_self_le hm
  have h2 : m < 2 ^ (m.log2 + 1) := Nat.lt_log2_self
  have ha : 2 ^ 52 ≤ m <<< (52 - m.log2) := by
    rw [Nat.shiftLeft_eq]
    have hp : 2 ^ m.log2 * 2 ^ (52 - m.log2) = 2 ^ 52 := by rw [← Nat.pow_add, Nat.add_sub_cancel' (by omega)]
    rw [← hp]
    exact Nat.mul_le_mul_right _ h1
  have hb : m <<< (52 - m.log2) < 2 ^ 53 := by
    rw [Nat.shiftLeft_eq]
    have hp : 2 ^ (m.log2 + 1) * 2 ^ (52 - m.log2) = 2 ^ 53 := by rw [← Nat.pow_add]; exact congrArg (2 ^ ·) (by omega)
    rw [← hp]
    exact Nat.mul_lt_mul_of_pos_right h2 (Nat.two_pow_pos _)
  refine ⟨?_, ha, hb⟩
  have hlp : Ieee.double.leastPlace = -1074 := by decide
  have hfb : Ieee.double.fractionBits = 52 := rfl
  have hbin : Ieee.double.binade = 2 ^ 52 := rfl
  have hinf : Ieee.double.infRung = 2047 * 2 ^ 52 := rfl
  unfold Ieee.Format.nearest
  rw [if_neg hm]
  dsimp only
  rw [hlp, hfb, hbin, hinf]
  have hmax : max (e + (m.log2 : Int) - (52 : Nat)) (-1074) = e + (m.log2 : Int) - 52 := by omega
  rw [hmax]
  have e1 : (e - (e + (m.log2 : Int) - 52)).toNat = 52 - m.log2 := by omega
  have e2 : ((e + (m.log2 : Int) - 52) - e).toNat = 0 := by omega
  have e3 : ((e + (m.log2 : Int) - 52) - (-1074)).toNat = (e + m.log2 + 1022).toNat := by omega
  rw [e1, e2, e3, cut_zero]
  have hL : (e + (m.log2 : Int) + 1022).toNat ≤ 2045 := by omega
  clear hmax e1 e2 e3 hlp hfb hbin hinf h1 h2
  generalize m <<< (52 - m.log2) = K at *
  generalize (e + (m.log2 : Int) + 1022).toNat = L at *
  simp only [Nat.reducePow] at *
  exact congrArg _ (Nat.min_eq_left (by omega))
/-- What such a word reads as. -/
theorem read_wide {neg : Bool} {m : Nat} {e : Int} (hm : m ≠ 0) (h53 : m < 2 ^ 53) (hlo : -1022 ≤ e + m.log2) (hhi : e + m.log2 ≤ 1023) :
    Ieee.double.read (Ieee.double.nearest neg m e) = .number neg (m <<< (52 - m.log2)) (e + m.log2 - 52) := by
  obtain ⟨h0, ha, hb⟩ := nearest_wide (neg := neg) hm h53 hlo hhi
  rw [h0]
  generalize m <<< (52 - m.log2) = K at *
  obtain ⟨L, hL⟩ : ∃ L : Nat, (e + m.log2 + 1022) = (L : Int) := ⟨(e + m.log2 + 1022).toNat, by omega⟩
  have hL2 : L ≤ 2045 := by omega
  have hLe : e + m.log2 - 52 = (L : Int) - 1074 := by omega
  rw [hLe, hL, Int.toNat_natCast]
  clear hLe hL hlo hhi h0
  have hsw : Ieee.double.signWeight = 9223372036854775808 := rfl
  have hbin : Ieee.double.binade = 4503599627370496 := rfl
  have hinf : Ieee.double.infRung = 9218868437227405312 := rfl
  have hlp : Ieee.double.leastPlace = -1074 := by decide
  simp only [Nat.reducePow] at ha hb
  have hw : Ieee.double.word neg (L * 2 ^ 52 + K) = (if neg then 9223372036854775808 else 0) + (L * 4503599627370496 + K) := by
    unfold Ieee.Format.word; rw [hsw]; cases neg <;> simp
  rw [hw]
  have hr : ((if neg then 9223372036854775808 else 0) + (L * 4503599627370496 + K)) % 9223372036854775808 = L * 4503599627370496 + K := by
    cases neg <;> simp <;> omega
  have hd : ((if neg then 9223372036854775808 else 0) + (L * 4503599627370496 + K)) / 9223372036854775808 % 2 = (if neg then 1 else 0) := by
    cases neg <;> simp <;> omega
  unfold Ieee.Format.read
  rw [hsw, hr, hd, hbin, hinf, hlp]
  dsimp only
  rw [if_neg (by omega), if_pos (by omega)]
  have hx : (L * 4503599627370496 + K) % 4503599627370496 = K - 4503599627370496 := by omega
  have hy : (L * 4503599627370496 + K) / 4503599627370496 = L + 1 := by omega
  have k1 : 4503599627370496 + (K - 4503599627370496) = K := by omega
  have k2 : (-1074 : Int) + ((L + 1 - 1 : Nat) : Int) = L - 1074 := by omega
  rw [hx, hy, k1, k2]
  cases neg <;> rfl
theorem read_single (b : Nat) (s : Bool) (m : Nat) (e : Int) (h : Ieee.single.read b = .number s m e) : m < 2 ^ 24 ∧ -149 ≤ e ∧ e ≤ 104 := by
  have hsw : Ieee.single.signWeight = 2147483648 := rfl
  have hbin : Ieee.single.binade = 8388608 := rfl
  have hinf : Ieee.single.infRung = 2139095040 := rfl
  have hlp : Ieee.single.leastPlace = -149 := by decide
  unfold Ieee.Format.read at h
  rw [hsw, hbin, hinf, hlp] at h
  dsimp only at h
  have hlt : b % 2147483648 < 2147483648 := Nat.mod_lt _ (by omega)
  generalize b % 2147483648 = r at *
  split at h
  · cases h; omega
  · split at h
    · injection h with h1 h2 h3
      subst h2
      have : r % 8388608 < 8388608 := Nat.mod_lt _ (by omega)
      have : r / 8388608 < 255 := by omega
      subst h3
      omega
    · split at h <;> cases h
theorem widen_word {s : Bool} {m : Nat} {e : Int} (hm : m ≠ 0) (h24 : m < 2 ^ 24) (hlo : -149 ≤ e) (hhi : e ≤ 104) :
    Ieee.double.read (Ieee.double.nearest s m e) = .number s (m <<< (52 - m.log2)) (e + m.log2 - 52) := by
  have hl : m.log2 < 24 := (Nat.log2_lt hm).2 h24
  exact read_wide hm (Nat.lt_trans h24 (by decide)) (by omega) (by omega)
theorem nearest_zero (f : Ieee.Format) (s : Bool) (e : Int) : f.nearest s 0 e = f.word s 0 := by unfold Ieee.Format.nearest; rw [if_pos rfl]
theorem convOk_widen (b : Nat) : convOk .f32 b .f64 := by
  cases hr : FloatKind.decode .f32 b with
  | nan s t => exact .inl (by simp [isNaN, hr, Ieee.Datum.isNaN])
  | infinity s => exact .inr (.inl (by simp [hr, Ieee.Datum.isInfinity]))
  | number s m e =>
    refine .inr (.inr ?_)
    obtain ⟨h1, h2, h3⟩ := read_single b s m e hr
    rw [hr]
    show (Ieee.double.read (Ieee.double.nearest s m e)).isInfinity = false
    by_cases hm : m = 0
    · subst hm; rw [nearest_zero]; cases s <;> decide +kernel
    · rw [widen_word hm h1 h2 h3]; rfl
theorem canon_fconv (s : FloatKind) (b : Nat) (d : FloatKind) : canon d (fconv s b d) = fconv s b d := by
  cases h : isNaN s b
  · rw [canon_num (by rw [isNaN_fconv, h])]
  · simp [fconv, h, canon_qnan]
theorem canon_fbin (op : BinOp) (k : FloatKind) (x y : Nat) : canon k (fbin op k x y) = fbin op k x y := by
  unfold fbin
  cases h : floatBits op k x y with
  | none => simp [canon_qnan]
  | some r => simp [canon_num (floatBits_num h)]
theorem order_self {k : FloatKind} {x : Nat} (h : isNaN k x = false) : k.format.order x x = some .eq := by
  unfold Ieee.Format.order
  unfold isNaN FloatKind.decode at h
  cases hr : k.format.read x with
  | nan => simp [hr, Ieee.Datum.isNaN] at h
  | infinity s => cases s <;> rfl
  | number s m e => simp [Ieee.Datum.order]
theorem fcmp_neq_self (k : FloatKind) (x : Nat) : fcmp .neq k x x = isNaN k x := by
  cases h : isNaN k x
  · simp [fcmp, order_self h]
  · simp [fcmp, order_left h]
theorem fcmp_eql_self (k : FloatKind) (x : Nat) : fcmp .eql k x x = !isNaN k x := by
  cases h : isNaN k x
  · simp [fcmp, order_self h]
  · simp [fcmp, order_left h]
end Go.Proofs.Ytogmcinaoemnpab
