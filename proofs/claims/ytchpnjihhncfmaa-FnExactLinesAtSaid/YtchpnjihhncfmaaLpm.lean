/- How high lines are at a place, as words: the model's way and the program's way give the same but for the sign of a zero, and their sums are the same. -/
import Derived.Test.YtchpnjihhncfmaaLat
import Derived.Test.YtchpnjihhncfmaaExF
import Derived.Test.YtchpnjihhncfmaaNf
namespace Go.Proofs.Ytchpnjihhncfmaa
open Go Go.ChangeShapes Go.WideShapes Go.ChangeAt Go.RowKit

theorem num_as_word {x : Nat} (hx : x < 4294967296) (hn : isNaN .f32 x = false) : ∃ s r, r ≤ 2139095040 ∧ x = Ieee.single.word s r := by
  obtain ⟨s, r, h, rfl⟩ := word_of x hx
  exact ⟨s, r, nan_word h hn, rfl⟩
theorem add_def (x y : Nat) : fbin .add .f32 x y = (((FloatKind.f32.format.read x).sum (FloatKind.f32.format.read y)).map FloatKind.f32.format.write).getD (qnan .f32) := rfl
theorem add_zero_l (s : Bool) (r : Nat) (h : r ≤ 2139095040) : fbin .add .f32 0 (Ieee.single.word s r) = if r = 0 then 0 else Ieee.single.word s r := by
  have e : fbin .add .f32 0 (Ieee.single.word s r) = fbin .sub .f32 0 (Ieee.single.word (!s) r) := by
    show (((FloatKind.f32.format.read 0).sum (FloatKind.f32.format.read (Ieee.single.word s r))).map FloatKind.f32.format.write).getD (qnan .f32) = (((FloatKind.f32.format.read 0).sum (FloatKind.f32.format.read (Ieee.single.word (!s) r)).opposite).map FloatKind.f32.format.write).getD (qnan .f32)
    rw [opp_word s r h]
  rw [e, sub_zero (!s) r h, Bool.not_not]
theorem read_negz : FloatKind.f32.format.read 2147483648 = .number true 0 (-149) := by decide +kernel
theorem read_posz : FloatKind.f32.format.read 0 = .number false 0 (-149) := by decide +kernel
/-- A word that is no zero, as it reads. -/
theorem read_nz (t : Bool) (r : Nat) (h0 : r ≠ 0) (h : r ≤ 2139095040) : (FloatKind.f32.format.read (Ieee.single.word t r) = .infinity t) ∨ ∃ m e, FloatKind.f32.format.read (Ieee.single.word t r) = .number t m e ∧ m ≠ 0 ∧ -149 ≤ e := by
  by_cases h1 : r < 2139095040
  · obtain ⟨m, e, hr, hg⟩ := rung_read t r h1
    refine .inr ⟨m, e, hr, ?_, (read_single _ t m e hr).2.1⟩
    rintro rfl
    have : rungN 0 e = 0 := by unfold rungN; rw [if_pos rfl]
    omega
  · obtain rfl : r = 2139095040 := by omega
    exact .inl (read_inf t)
theorem add_negz (t : Bool) (r : Nat) (h0 : r ≠ 0) (h : r ≤ 2139095040) : fbin .add .f32 2147483648 (Ieee.single.word t r) = fbin .add .f32 0 (Ieee.single.word t r) := by
  rw [add_def, add_def, read_negz, read_posz]
  rcases read_nz t r h0 h with hr | ⟨m, e, hr, hm, _⟩
  · rw [hr]; rfl
  · rw [hr]
    have h2 := Nat.two_pow_pos (e - min (-149) e).toNat
    have h3 : m * 2 ^ (e - min (-149) e).toNat ≠ 0 := Nat.mul_ne_zero hm (by omega)
    simp only [Ieee.Datum.sum, Ieee.signed, Nat.shiftLeft_eq]
    obtain ⟨T, hT⟩ : ∃ T, T = m * 2 ^ (e - min (-149) e).toNat := ⟨_, rfl⟩
    rw [← hT] at h3 ⊢
    cases t <;> simp [h3]
theorem add_comm32 (x y : Nat) : fbin .add .f32 x y = fbin .add .f32 y x := by
  have h : ∀ a b : Ieee.Datum, a.sum b = b.sum a := by
    intro a b
    cases a <;> cases b <;> simp only [Ieee.Datum.sum]
    case infinity.infinity s t => cases s <;> cases t <;> rfl
    case number.number s m e t n f => rw [Int.min_comm, Int.add_comm, Bool.and_comm]
  rw [add_def, add_def, h]
theorem rungN_pos {T : Nat} {b : Int} (hT : T ≠ 0) (hb : -149 ≤ b) : rungN T b ≠ 0 := by
  unfold rungN
  rw [if_neg hT]
  obtain ⟨p, hp⟩ : ∃ p, p = max (b + (T.log2 : Int) - 23) (-149) := ⟨_, rfl⟩
  rw [← hp]
  have hc : 1 ≤ Ieee.Toward.even.cut false (T <<< (b - p).toNat) (p - b).toNat := by
    by_cases h1 : p ≤ b
    · rw [show (p - b).toNat = 0 by omega, cut_zero, Nat.shiftLeft_eq]
      have := Nat.two_pow_pos (b - p).toNat
      exact Nat.mul_pos (by omega) this
    · rw [show (b - p).toNat = 0 by omega, Nat.shiftLeft_zero]
      apply cut_ge
      rw [Nat.one_mul]
      have h2 : p = b + (T.log2 : Int) - 23 := by omega
      have h3 : (p - b).toNat ≤ T.log2 := by omega
      exact Nat.le_trans (Nat.pow_le_pow_right (by omega) h3) (Nat.log2_self_le hT)
  omega
/-- What is not -0 stays so in a sum. -/
theorem add_nz {x y : Nat} (hx : x < 4294967296) (hy : y < 4294967296) (h : x ≠ 2147483648) : fbin .add .f32 x y ≠ 2147483648 := by
  cases nx : isNaN .f32 x
  rotate_left
  · have : fbin .add .f32 x y = qnan .f32 := by simp [fbin, floatBits_left nx]
    rw [this]; decide
  cases ny : isNaN .f32 y
  rotate_left
  · have : fbin .add .f32 x y = qnan .f32 := by simp [fbin, floatBits_right ny]
    rw [this]; decide
  obtain ⟨s, r, hr, rfl⟩ := num_as_word hx nx
  obtain ⟨t, q, hq, rfl⟩ := num_as_word hy ny
  have wz : ∀ (b : Bool) (z : Nat), z ≠ 0 → z ≤ 2139095040 → Ieee.single.word b z ≠ 2147483648 := by
    intro b z hz hle
    have hsw : Ieee.single.signWeight = 2147483648 := rfl
    unfold Ieee.Format.word
    rw [hsw]
    cases b <;> simp <;> omega
  by_cases h0 : r = 0
  · subst h0
    have hs : s = false := by
      cases s
      · rfl
      · exact absurd rfl h
    subst hs
    have e := add_zero_l t q hq
    rw [show Ieee.single.word false 0 = 0 from rfl, e]
    by_cases q0 : q = 0
    · rw [if_pos q0]; decide
    · rw [if_neg q0]; exact wz t q q0 hq
  · by_cases q0 : q = 0
    · subst q0
      rw [add_comm32]
      have e : fbin .add .f32 (Ieee.single.word t 0) (Ieee.single.word s r) = Ieee.single.word s r := by
        cases t
        · rw [show Ieee.single.word false 0 = 0 from rfl, add_zero_l s r hr, if_neg h0]
        · rw [show Ieee.single.word true 0 = 2147483648 from rfl, add_negz s r h0 hr, add_zero_l s r hr, if_neg h0]
      rw [e]
      exact wz s r h0 hr
    · rw [add_def]
      rcases read_nz s r h0 hr with ha | ⟨m, i, ha, hm, hi⟩
      · rcases read_nz t q q0 hq with hb | ⟨n, j, hb, hn, hj⟩
        · rw [ha, hb]
          cases s <;> cases t <;> decide +kernel
        · rw [ha, hb]
          show FloatKind.f32.format.write (.infinity s) ≠ _
          cases s <;> decide +kernel
      · rcases read_nz t q q0 hq with hb | ⟨n, j, hb, hn, hj⟩
        · rw [ha, hb]
          show FloatKind.f32.format.write (.infinity t) ≠ _
          cases t <;> decide +kernel
        · rw [ha, hb]
          obtain ⟨b, hbb⟩ : ∃ b, b = min i j := ⟨_, rfl⟩
          have hb149 : -149 ≤ b := by omega
          simp only [Ieee.Datum.sum, ← hbb, Ieee.signed, Nat.shiftLeft_eq, Option.map_some, Option.getD_some]
          have p1 := Nat.two_pow_pos (i - b).toNat
          have p2 := Nat.two_pow_pos (j - b).toNat
          have m1 : m * 2 ^ (i - b).toNat ≠ 0 := Nat.mul_ne_zero hm (by omega)
          have m2 : n * 2 ^ (j - b).toNat ≠ 0 := Nat.mul_ne_zero hn (by omega)
          obtain ⟨A, hA⟩ : ∃ A, A = m * 2 ^ (i - b).toNat := ⟨_, rfl⟩
          obtain ⟨B, hB⟩ : ∃ B, B = n * 2 ^ (j - b).toNat := ⟨_, rfl⟩
          rw [← hA] at m1
          rw [← hB] at m2
          rw [← hA, ← hB]
          clear hA hB
          have hw : ∀ (g : Bool) (T : Nat), FloatKind.f32.format.write (.number g T b) = Ieee.single.word g (rungN T b) := fun g T => nearest_word g T b
          rw [hw]
          have key : ∀ (g : Bool) (z : Int), (z = 0 → g = false) → Ieee.single.word g (rungN z.natAbs b) ≠ 2147483648 := by
            intro g z hz
            by_cases e : z = 0
            · rw [hz e, e]
              have : rungN (0 : Int).natAbs b = 0 := by rw [Int.natAbs_zero]; unfold rungN; rw [if_pos rfl]
              rw [this]; decide
            · exact wz g _ (rungN_pos (by omega) hb149) (rungN_le _ _)
          apply key
          intro e
          rw [if_pos e]
          cases s <;> cases t
          · exfalso
            simp only [Bool.false_eq_true, if_false] at e
            omega
          · rfl
          · rfl
          · exfalso
            simp only [if_true] at e
            omega
/-- A zero of either sign adds the same to what is not -0. -/
theorem add_z {x : Nat} (hx : x < 4294967296) (h : x ≠ 2147483648) : fbin .add .f32 x 2147483648 = fbin .add .f32 x 0 := by
  cases nx : isNaN .f32 x
  rotate_left
  · have e : ∀ y, fbin .add .f32 x y = qnan .f32 := fun y => by simp [fbin, floatBits_left nx]
    rw [e, e]
  obtain ⟨s, r, hr, rfl⟩ := num_as_word hx nx
  by_cases h0 : r = 0
  · subst h0
    have hs : s = false := by
      cases s
      · rfl
      · exact absurd rfl h
    subst hs
    decide +kernel
  · rw [add_comm32, add_comm32 _ 0, add_negz s r h0 hr]
/-- The same, or both a zero. -/
def ZEq (a b : Nat) : Prop := a = b ∨ ((a = 0 ∨ a = 2147483648) ∧ (b = 0 ∨ b = 2147483648))
theorem add_zeq {x a b : Nat} (hx : x < 4294967296) (h : x ≠ 2147483648) (hz : ZEq a b) : fbin .add .f32 x a = fbin .add .f32 x b := by
  rcases hz with rfl | ⟨ha, hb⟩
  · rfl
  · rcases ha with rfl | rfl <;> rcases hb with rfl | rfl
    · rfl
    · rw [add_z hx h]
    · rw [add_z hx h]
    · rfl
theorem ZEq.fin {a b : Nat} (h : ZEq a b) : isFin .f32 a = isFin .f32 b := by
  have e : isFin .f32 2147483648 = isFin .f32 0 := by decide +kernel
  rcases h with rfl | ⟨ha, hb⟩
  · rfl
  · rcases ha with rfl | rfl <;> rcases hb with rfl | rfl <;> first | rfl | exact e | exact e.symm
/-- The sum of numbers from +0 on. -/
def sumV (v : Nat → Nat) : Nat → Nat
  | 0 => 0
  | k + 1 => fbin .add .f32 (sumV v k) (v k)
theorem sumV_lt (v : Nat → Nat) : ∀ k, sumV v k < 4294967296 := by
  intro k
  cases k with
  | zero => show (0 : Nat) < 4294967296; decide
  | succ k => exact fbin_lt _ _ _
theorem sumV_nz (v : Nat → Nat) (hv : ∀ k, v k < 4294967296) : ∀ k, sumV v k ≠ 2147483648 := by
  intro k
  induction k with
  | zero => show (0 : Nat) ≠ 2147483648; decide
  | succ k ih => exact add_nz (sumV_lt v k) (hv k) ih
theorem sumV_zeq {v u : Nat → Nat} (hv : ∀ k, v k < 4294967296) : ∀ n, (∀ k, k < n → ZEq (v k) (u k)) → sumV u n = sumV v n := by
  intro n
  induction n with
  | zero => intro _; rfl
  | succ n ih =>
    intro h
    show fbin .add .f32 (sumV u n) (u n) = fbin .add .f32 (sumV v n) (v n)
    rw [ih (fun k hk => h k (by omega)), add_zeq (sumV_lt v n) (sumV_nz v hv n) (h n (by omega))]
theorem sumV_nf {v : Nat → Nat} {j : Nat} (h : isFin .f32 (v j) = false) : ∀ n, j < n → isFin .f32 (sumV v n) = false := by
  intro n
  induction n with
  | zero => intro h; omega
  | succ n ih =>
    intro hj
    by_cases e : j = n
    · subst e; exact nf_add_r h
    · exact nf_add_l (ih (by omega))
end Go.Proofs.Ytchpnjihhncfmaa
