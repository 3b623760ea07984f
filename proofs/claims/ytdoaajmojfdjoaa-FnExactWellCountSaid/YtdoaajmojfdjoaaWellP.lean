/- How many levels a well has, as plain mathematics: the quotient is a number that is not negative, or infinite; the least integer that is not below it. -/
import Derived.Test.YtdoaajmojfdjoaaRoot
import Derived.Test.YtdoaajmojfdjoaaSinP
import Derived.Test.YtdoaajmojfdjoaaAngP
import Derived.Test.YtdoaajmojfdjoaaChecked
namespace Go.Proofs.Ytdoaajmojfdjoaa
open Go Go.RowKit

/-- A number with the sign +, or +Inf. -/
def NN (k : FloatKind) (x : Nat) : Prop := (∃ m e, k.decode x = .number false m e) ∨ k.decode x = .infinity false
theorem NN.num {k : FloatKind} {x : Nat} (h : NN k x) : isNaN k x = false := by
  rcases h with ⟨m, e, h⟩ | h <;> simp [isNaN, h, Ieee.Datum.isNaN]
theorem nn_word (k : FloatKind) {r : Nat} (h : r ≤ k.format.infRung) : NN k (k.format.word false r) := by
  have hl : r < k.format.signWeight := Nat.lt_of_le_of_lt h k.format.infRung_lt
  have e1 : k.format.word false r = r := rfl
  have d1 : r / k.format.signWeight = 0 := Nat.div_eq_of_lt hl
  have m1 : r % k.format.signWeight = r := Nat.mod_eq_of_lt hl
  unfold NN FloatKind.decode
  rw [e1]
  unfold Ieee.Format.read
  rw [d1, m1]
  dsimp only
  split
  · exact .inl ⟨_, _, rfl⟩
  · split
    · exact .inl ⟨_, _, rfl⟩
    · split
      · exact .inr rfl
      · omega
theorem nn_encode (k : FloatKind) (m : Nat) (e : Int) : NN k (k.encode (.number false m e)) := by
  show NN k (k.format.nearest false m e)
  unfold Ieee.Format.nearest
  dsimp only
  split
  · exact nn_word k (Nat.zero_le _)
  · exact nn_word k (Nat.min_le_right _ _)
theorem nn_inf (k : FloatKind) : NN k (k.encode (.infinity false)) := nn_word k (Nat.le_refl _)
theorem nn_mul {k : FloatKind} {x y m : Nat} {e : Int} (hx : k.decode x = .number false m e) (hm : m ≠ 0) (hy : NN k y) : NN k (fbin .mul k x y) := by
  have hx' : k.format.read x = _ := hx
  rcases hy with ⟨n, j, h⟩ | h
  · have hy' : k.format.read y = _ := h
    have hb : floatBits .mul k x y = some (k.encode (.number false (m * n) (e + j))) := by simp [floatBits, Ieee.Format.mul, hx', hy', Ieee.Datum.product, FloatKind.encode]
    have hf : fbin .mul k x y = k.encode (.number false (m * n) (e + j)) := by simp [fbin, hb]
    rw [hf]; exact nn_encode ..
  · have hy' : k.format.read y = _ := h
    have hb : floatBits .mul k x y = some (k.encode (.infinity false)) := by simp [floatBits, Ieee.Format.mul, hx', hy', Ieee.Datum.product, FloatKind.encode, hm]
    have hf : fbin .mul k x y = k.encode (.infinity false) := by simp [fbin, hb]
    rw [hf]; exact nn_inf k
theorem nn_quo {k : FloatKind} {x y n : Nat} {j : Int} (hx : NN k x) (hy : k.decode y = .number false n j) (hn : n ≠ 0) : NN k (fbin .quo k x y) := by
  have hy' : k.format.read y = _ := hy
  rcases hx with ⟨m, e, h⟩ | h
  · have hx' : k.format.read x = _ := h
    obtain ⟨a, b, hb⟩ : ∃ a b, floatBits .quo k x y = some (k.encode (.number false a b)) := by
      simp only [floatBits, Ieee.Format.div, hx', hy', Ieee.Datum.quotient, hn, if_false, Option.map_some]
      exact ⟨_, _, rfl⟩
    have hf : fbin .quo k x y = k.encode (.number false a b) := by simp [fbin, hb]
    rw [hf]; exact nn_encode ..
  · have hx' : k.format.read x = _ := h
    have hb : floatBits .quo k x y = some (k.encode (.infinity false)) := by simp [floatBits, Ieee.Format.div, hx', hy', Ieee.Datum.quotient, FloatKind.encode]
    have hf : fbin .quo k x y = k.encode (.infinity false) := by simp [fbin, hb]
    rw [hf]; exact nn_inf k
theorem nn_root {x m : Nat} {e : Int} (hd : FloatKind.decode .f32 x = .number false m e) : NN .f32 (fconv .f64 (fsqrt (fconv .f32 x .f64)) .f32) := by
  obtain ⟨m', e', hd', _⟩ := widen_val hd
  have hr : Ieee.double.read (fconv .f32 x .f64) = _ := hd'
  have h64 : NN .f64 (fsqrt (fconv .f32 x .f64)) := by
    obtain ⟨a, b, hb⟩ : ∃ a b, Ieee.double.sqrt (fconv .f32 x .f64) = some (FloatKind.encode .f64 (.number false a b)) := by
      simp only [Ieee.Format.sqrt, hr, Ieee.Datum.root]
      by_cases hm : m' = 0
      · simp only [hm, if_true, Option.map_some]; exact ⟨_, _, rfl⟩
      · simp only [hm, if_false, Bool.false_eq_true, Option.map_some]; exact ⟨_, _, rfl⟩
    have hf : fsqrt (fconv .f32 x .f64) = FloatKind.encode .f64 (.number false a b) := by simp [fsqrt, hb]
    rw [hf]; exact nn_encode ..
  generalize fsqrt (fconv .f32 x .f64) = Z at *
  have hf : fconv .f64 Z .f32 = FloatKind.encode .f32 (FloatKind.decode .f64 Z) := by simp [fconv, h64.num]
  rw [hf]
  rcases h64 with ⟨a, b, h⟩ | h
  · rw [h]; exact nn_encode ..
  · rw [h]; exact nn_inf _
theorem dec0_32' : FloatKind.decode .f32 0 = .number false 0 (-149) := by decide +kernel
/-- A finite number that is greater than 0. -/
theorem pos_of {x : Nat} (hf : isFin .f32 x = true) (h : (FloatKind.f32.format.order x 0 == some .gt) = true) : ∃ m e, FloatKind.decode .f32 x = .number false m e ∧ m ≠ 0 := by
  cases hd : FloatKind.decode .f32 x with
  | nan => simp [isFin, hd, Ieee.Datum.isNaN] at hf
  | infinity s => simp [isFin, hd, Ieee.Datum.isInfinity] at hf
  | number s m e =>
    obtain ⟨o1, o2, o3⟩ := order_val hd dec0_32'
    have z1 : sval false 0 (-149) = 0 := by decide +kernel
    rw [z1] at o1 o2 o3
    have hpos : 0 < sval s m e := by
      by_cases c1 : sval s m e < 0
      · rw [o1 c1] at h; cases h
      · by_cases c2 : sval s m e = 0
        · rw [o2 c2] at h; cases h
        · grind
    have hz : 0 ≤ (m : Rat) * two e := Rat.mul_nonneg (natCast_nonneg m) (Rat.le_of_lt (two_pos e))
    cases s with
    | true => exfalso; unfold sval at hpos; simp only [if_true] at hpos; grind
    | false =>
      refine ⟨m, e, rfl, ?_⟩
      rintro rfl
      unfold sval at hpos
      have h0 : ((0 : Nat) : Rat) = 0 := rfl
      simp only [Bool.false_eq_true, if_false, h0, Rat.zero_mul] at hpos
      exact absurd hpos (by decide)
theorem cut_up (n d : Nat) : Ieee.Toward.up.cut false n d = n / 2 ^ d + if n % 2 ^ d = 0 then 0 else 1 := by
  have key : ∀ r : Nat, (!false && r != 0).toNat = if r = 0 then 0 else 1 := by intro r; by_cases h : r = 0 <;> simp [h]
  unfold Ieee.Toward.cut
  dsimp only
  rw [key]
  by_cases h : d ≤ n.log2 + 2
  · rw [Nat.min_eq_left h, Nat.shiftLeft_eq, Nat.one_mul]
  · rw [Nat.min_eq_right (by omega), Nat.shiftLeft_eq, Nat.one_mul]
    have hlt : n < 2 ^ (n.log2 + 1) := Nat.lt_log2_self
    have h1 : 2 ^ (n.log2 + 1) ≤ 2 ^ (n.log2 + 2) := Nat.pow_le_pow_right (by omega) (by omega)
    have h2 : 2 ^ (n.log2 + 1) ≤ 2 ^ d := Nat.pow_le_pow_right (by omega) (by omega)
    rw [Nat.div_eq_of_lt (by omega), Nat.div_eq_of_lt (by omega), Nat.mod_eq_of_lt (by omega), Nat.mod_eq_of_lt (by omega)]
/-- The whole part of a number, and what is left over. -/
def wq (m : Nat) (e : Int) : Nat := (m <<< e.toNat) / 2 ^ (-e).toNat
def wr (m : Nat) (e : Int) : Nat := (m <<< e.toNat) % 2 ^ (-e).toNat
theorem wq_val (m : Nat) (e : Int) : (wq m e : Rat) ≤ (m : Rat) * two e ∧ (m : Rat) * two e < (wq m e : Rat) + 1 ∧ (wr m e = 0 ↔ (m : Rat) * two e = (wq m e : Rat)) := by
  obtain ⟨q, hq⟩ : ∃ q, q = wq m e := ⟨_, rfl⟩
  obtain ⟨r, hr⟩ : ∃ r, r = wr m e := ⟨_, rfl⟩
  rw [← hq, ← hr]
  unfold wq at hq
  unfold wr at hr
  have e0 : two e * two ((-e).toNat : Int) = two (e.toNat : Int) := by rw [← two_add]; congr 1; omega
  have pd := two_pos ((-e).toNat : Int)
  have hm : m * 2 ^ e.toNat = q * 2 ^ (-e).toNat + r := by
    rw [hq, hr, Nat.shiftLeft_eq, Nat.mul_comm (m * 2 ^ e.toNat / _)]
    exact (Nat.div_add_mod _ _).symm
  have hlt : r < 2 ^ (-e).toNat := by rw [hr]; exact Nat.mod_lt _ (Nat.two_pow_pos _)
  have hR : (m : Rat) * two e * two ((-e).toNat : Int) = (q : Rat) * two ((-e).toNat : Int) + (r : Rat) := by
    rw [Rat.mul_assoc, e0, two_nat, two_nat]; exact_mod_cast hm
  have hlt' : (r : Rat) < two ((-e).toNat : Int) := by rw [two_nat]; exact_mod_cast hlt
  have hr0 : (0 : Rat) ≤ (r : Rat) := natCast_nonneg r
  generalize two ((-e).toNat : Int) = D at *
  generalize (m : Rat) * two e = V at *
  refine ⟨?_, ?_, ?_, ?_⟩
  · exact Rat.le_of_mul_le_mul_right (by rw [hR]; grind) pd
  · exact Rat.lt_of_mul_lt_mul_right (by rw [hR]; grind) (Rat.le_of_lt pd)
  · intro h
    have h0 : (r : Rat) = 0 := by rw [h]; rfl
    rw [h0] at hR
    have : (V - q) * D = 0 := by grind
    rcases Rat.mul_eq_zero.1 this with h1 | h1
    · grind
    · exfalso; rw [h1] at pd; exact absurd pd (by decide)
  · intro h
    rw [h] at hR
    have : (r : Rat) = 0 := by grind
    exact_mod_cast this
theorem wq_uniq {m n : Nat} {e j : Int} (h : (m : Rat) * two e = (n : Rat) * two j) : wq m e = wq n j ∧ (wr m e = 0 ↔ wr n j = 0) := by
  obtain ⟨a1, a2, a3⟩ := wq_val m e
  obtain ⟨b1, b2, b3⟩ := wq_val n j
  have h1 : wq m e = wq n j := by
    have c1 : (wq m e : Rat) < (wq n j : Rat) + 1 := by grind
    have c2 : (wq n j : Rat) < (wq m e : Rat) + 1 := by grind
    have d1 : wq m e < wq n j + 1 := by exact_mod_cast c1
    have d2 : wq n j < wq m e + 1 := by exact_mod_cast c2
    omega
  refine ⟨h1, ?_⟩
  rw [a3, b3, h, h1]
theorem whole_int {k : FloatKind} {x m : Nat} {e : Int} (hd : k.decode x = .number false m e) (h : wq m e ≤ 1000000) : floatToIntVal k x .i64 = some (wq m e : Int) := by
  have hi : (k.decode x).toInt .zero = some (Ieee.signed false (Ieee.Toward.zero.cut false (m <<< e.toNat) (-e).toNat) 0) := by rw [hd]; rfl
  rw [zcut, signed_at_zero] at hi
  simp only [Bool.false_eq_true, if_false] at hi
  unfold floatToIntVal
  rw [hi]
  dsimp only
  have hmin : IntKind.i64.min = -9223372036854775808 := rfl
  have hmax : IntKind.i64.max = 9223372036854775807 := rfl
  rw [hmin, hmax]
  change (if -9223372036854775808 ≤ ((wq m e : Nat) : Int) ∧ ((wq m e : Nat) : Int) ≤ 9223372036854775807 then some ((wq m e : Nat) : Int) else none) = _
  rw [if_pos (by omega)]
theorem tab64 : ∀ K, K < 1002 → floatToIntVal .f64 (FloatKind.encode .f64 (.number false K 0)) .i64 = some (K : Int) := by decide +kernel
def isNat32 (N : Nat) : Bool := match FloatKind.decode .f32 (floatOfInt .f32 (N : Int)) with
  | .number s a b => !s && decide (b ≤ 0) && decide (a = N * 2 ^ (-b).toNat)
  | _ => false
theorem tab32 : ∀ N, N < 1001 → isNat32 N = true := by decide +kernel
theorem nat32 {N : Nat} (h : N < 1001) : ∃ a b, FloatKind.decode .f32 (floatOfInt .f32 (N : Int)) = .number false a b ∧ (a : Rat) * two b = (N : Rat) := by
  have ht := tab32 N h
  unfold isNat32 at ht
  cases hd : FloatKind.decode .f32 (floatOfInt .f32 (N : Int)) with
  | nan s t => rw [hd] at ht; cases ht
  | infinity s => rw [hd] at ht; cases ht
  | number s a b =>
    rw [hd] at ht
    simp only [Bool.and_eq_true, Bool.not_eq_true', decide_eq_true_eq] at ht
    obtain ⟨⟨rfl, hb⟩, ha⟩ := ht
    refine ⟨a, b, rfl, ?_⟩
    rw [ha, natCast_mul, ← two_nat, Rat.mul_assoc, ← two_add]
    have : (((-b).toNat : Int) + b) = 0 := by omega
    rw [this, two_zero, Rat.mul_one]
theorem sval_pos (m : Nat) (e : Int) : sval false m e = (m : Rat) * two e := by simp [sval]
theorem eq_test {x m : Nat} {e : Int} (hd : FloatKind.decode .f32 x = .number false m e) (h : wq m e < 1001) :
    (FloatKind.f32.format.order (floatOfInt .f32 (wq m e : Int)) x == some .eq) = decide (wr m e = 0) := by
  obtain ⟨a, b, hN, hv⟩ := nat32 h
  obtain ⟨o1, o2, o3⟩ := order_val hN hd
  rw [sval_pos, sval_pos, hv] at o1 o2 o3
  obtain ⟨v1, v2, v3⟩ := wq_val m e
  by_cases hr : wr m e = 0
  · rw [o2 (v3.1 hr).symm]; simp [hr]
  · have : (wq m e : Rat) < (m : Rat) * two e := by
      by_cases hc : (m : Rat) * two e = (wq m e : Rat)
      · exact absurd (v3.2 hc) hr
      · grind
    rw [o1 this]; simp [hr]
/-- The whole part, upwards. -/
def ceilW (y : Nat) : Nat := FloatKind.encode .f64 ((FloatKind.decode .f64 y).integral .up)
theorem ceil_int {x m : Nat} {e : Int} (hd : FloatKind.decode .f32 x = .number false m e) (h : wq m e < 1001) :
    floatToIntVal .f64 (ceilW (fconv .f32 x .f64)) .i64 = some ((wq m e + if wr m e = 0 then 0 else 1 : Nat) : Int) := by
  obtain ⟨m', e', hd', hv⟩ := widen_val hd
  obtain ⟨u1, u2⟩ := wq_uniq hv
  have hc : ceilW (fconv .f32 x .f64) = FloatKind.encode .f64 (.number false (wq m e + if wr m e = 0 then 0 else 1) 0) := by
    unfold ceilW
    rw [hd']
    show FloatKind.encode .f64 (.number false (Ieee.Toward.up.cut false (m' <<< e'.toNat) (-e').toNat) 0) = _
    rw [cut_up]
    show FloatKind.encode .f64 (.number false (wq m' e' + if wr m' e' = 0 then 0 else 1) 0) = _
    rw [u1]
    by_cases hr : wr m e = 0
    · rw [if_pos hr, if_pos (u2.2 hr)]
    · rw [if_neg hr, if_neg (fun h => hr (u2.1 h))]
  rw [hc]
  exact tab64 _ (by split <;> omega)
theorem run_ceil {y m : Nat} {s : Bool} {e : Int} (hd : FloatKind.decode .f64 y = .number s m e) (w : World) : (callFunc 95 #[.float .f64 y]).run Try.prog w = .ok (.value (.float .f64 (ceilW y))) w := by
  have h2 : (callFunc 95 #[.float .f64 y]).run Try.prog w = (Extern.MathFloor.toIntegral "math.archCeil" .up #[.float .f64 y] >>= fun v => pure (Next.value v)).run Try.prog w := by kernel_rfl
  rw [h2, Sem.run_bind]
  have h3 : (Extern.MathFloor.toIntegral "math.archCeil" .up #[.float .f64 y]).run Try.prog w = .ok (.float .f64 (ceilW y)) w := by
    obtain ⟨N, hN⟩ : ∃ N : Bool → Nat → Sem Value, Extern.MathFloor.toIntegral "math.archCeil" .up #[.float .f64 y] = (match FloatKind.decode .f64 y with | .nan s t => N s t | d => pure (.float .f64 (FloatKind.encode .f64 (d.integral .up)))) := ⟨_, rfl⟩
    rw [hN]
    unfold ceilW
    rw [hd]
    rfl
  rw [h3]
  rfl
/-- 1000. -/
theorem dec1000 : FloatKind.decode .f32 1148846080 = .number false 16384000 (-14) := by decide +kernel
theorem le_1000 {x m : Nat} {e : Int} (hd : FloatKind.decode .f32 x = .number false m e) (h : (FloatKind.f32.format.order x 1148846080 == some .gt) = false) : wq m e < 1001 := by
  obtain ⟨o1, o2, o3⟩ := order_val hd dec1000
  have z : sval false 16384000 (-14) = 1000 := by decide +kernel
  rw [z, sval_pos] at o3
  have hle : (m : Rat) * two e ≤ 1000 := by
    by_cases hc : 1000 < (m : Rat) * two e
    · rw [o3 hc] at h; cases h
    · grind
  have h1 := (wq_val m e).1
  have h2 : (wq m e : Rat) ≤ ((1000 : Nat) : Rat) := by
    have : ((1000 : Nat) : Rat) = 1000 := rfl
    rw [this]; grind
  have : wq m e ≤ 1000 := by exact_mod_cast h2
  omega
theorem leq_of {k : FloatKind} {x y : Nat} (hx : isNaN k x = false) (hy : isNaN k y = false) : (k.format.order x y == some .lt || k.format.order x y == some .eq) = !(k.format.order x y == some .gt) := by
  have : k.format.order x y ≠ none := by
    unfold Ieee.Format.order
    unfold isNaN FloatKind.decode at hx hy
    cases h1 : k.format.read x <;> cases h2 : k.format.read y <;> simp_all [Ieee.Datum.isNaN, Ieee.Datum.order]
  cases ho : k.format.order x y with
  | none => exact absurd ho this
  | some o => cases o <;> rfl
end Go.Proofs.Ytdoaajmojfdjoaa
