/- The program flushes every number as the model does. -/
import Derived.Test.YthpdiknpfpejladIsSubn
import Derived.Test.YthpdiknpfpejladRowKit
namespace Go.Proofs.Ythpdiknpfpejlad
open Go Go.ChangeShapes Go.WideShapes Go.ChangeAt Go.RowKit
theorem run_f32bits (x : Nat) (w : World) : (callFunc 59 #[.float .f32 x]).run Try.prog w = .ok (.value (.int .u32 x)) w := by kernel_rfl
theorem run_f64bits (x : Nat) (w : World) : (callFunc 49 #[.float .f64 x]).run Try.prog w = .ok (.value (.int .u64 x)) w := by kernel_rfl
theorem run_f64from (x : Int) (w : World) : (callFunc 48 #[.int .u64 x]).run Try.prog w = .ok (.value (.float .f64 x.toNat)) w := by kernel_rfl
theorem run_f32from (x : Int) (w : World) : (callFunc 60 #[.int .u32 x]).run Try.prog w = .ok (.value (.float .f32 x.toNat)) w := by kernel_rfl
def flushF (x : Nat) : Nat := if subn x = true then x / 2147483648 * 2147483648 else x
theorem and_top (x n : Nat) (hx : x < 2 ^ (n + 1)) : x &&& 2 ^ n = x / 2 ^ n * 2 ^ n := by
  have h : x / 2 ^ n * 2 ^ n = (x >>> n) <<< n := by rw [Nat.shiftLeft_eq, Nat.shiftRight_eq_div_pow]
  rw [h]
  apply Nat.eq_of_testBit_eq
  intro i
  rw [Nat.testBit_and, Nat.testBit_shiftLeft, Nat.testBit_shiftRight, Nat.testBit_two_pow]
  by_cases hi : n = i
  · subst hi; simp
  · by_cases h2 : n ≤ i
    · have e : n + (i - n) = i := by omega
      have : x.testBit i = false := Nat.testBit_lt_two_pow (Nat.lt_of_lt_of_le hx (Nat.pow_le_pow_right (by omega) (by omega)))
      simp [hi, e, this]
    · simp [hi, h2]
theorem i64_sign (x : Nat) (hx : x < 4294967296) : bits .and .i64 (x : Int) 2147483648 = ((x / 2147483648 * 2147483648 : Nat) : Int) := by
  have h := i64_and_nat x 2147483648 (by omega) (by omega)
  have e := and_top x 31 (by simpa using hx)
  simp only [Nat.reducePow] at e
  rw [e] at h
  exact h
theorem u64_sign (x : Nat) (hx : x < 18446744073709551616) : bits .and .u64 (x : Int) 9223372036854775808 = ((x / 9223372036854775808 * 9223372036854775808 : Nat) : Int) := by
  have key : (BitVec.ofInt 64 (x : Int) &&& BitVec.ofInt 64 (9223372036854775808 : Int)).toNat = x / 9223372036854775808 * 9223372036854775808 := by
    rw [BitVec.toNat_and, BitVec.toNat_ofInt, BitVec.toNat_ofInt]
    have h1 : ((x : Int) % ((2 ^ 64 : Nat) : Int)).toNat = x := by simp only [Nat.reducePow]; omega
    have h2 : ((9223372036854775808 : Int) % ((2 ^ 64 : Nat) : Int)).toNat = 2 ^ 63 := by decide +kernel
    have e := and_top x 63 (by simpa using hx)
    rw [h1, h2, e]
  show IntKind.u64.wrap ((BitVec.ofInt 64 (x : Int) &&& BitVec.ofInt 64 (9223372036854775808 : Int)).toNat : Nat) = _
  rw [key, IntKind.wrap_u64]
  omega
theorem run_zero_bits : bits .andNot .u64 0 9223372036854775808 = 0 := by decide +kernel
theorem sign_widen (x : Nat) (hx : x < 4294967296) (h : isNaN .f32 x = false) : fconv .f32 x .f64 / 9223372036854775808 = x / 2147483648 := by
  have hs : x / 2147483648 % 2 = x / 2147483648 := Nat.mod_eq_of_lt (by omega)
  have hb : x / 2147483648 = 0 ∨ x / 2147483648 = 1 := by omega
  have hw : ∀ (neg : Bool) (r : Nat), r < Ieee.double.signWeight → Ieee.double.word neg r / 9223372036854775808 = if neg then 1 else 0 := by
    intro neg r hr
    have hsw : Ieee.double.signWeight = 9223372036854775808 := rfl
    unfold Ieee.Format.word
    rw [hsw] at hr ⊢
    cases neg
    · simp; omega
    · simp; omega
  have hn : ∀ (d : Ieee.Datum), d.isNaN = false → Ieee.double.write d / 9223372036854775808 = if d.neg then 1 else 0 := by
    intro d hd
    cases d with
    | nan => cases hd
    | infinity s => exact hw s _ Ieee.double.infRung_lt
    | number s m e =>
      unfold Ieee.Format.write Ieee.Format.nearest
      dsimp only
      split
      · exact hw s 0 (Nat.two_pow_pos _)
      · exact hw s _ (Nat.lt_of_le_of_lt (Nat.min_le_right ..) Ieee.double.infRung_lt)
  have hneg : (FloatKind.decode .f32 x).neg = (x / 2147483648 % 2 == 1) := by
    unfold FloatKind.decode
    rw [read32]
    repeat' split
    all_goals rfl
  have : fconv .f32 x .f64 = Ieee.double.write (FloatKind.decode .f32 x) := by simp [fconv, h]; rfl
  rw [this, hn _ h, hneg, hs]
  rcases hb with h | h <;> simp [h]
theorem convOk_sign (s : Nat) (hs : s < 2) : convOk .f64 (s * 9223372036854775808) .f32 ∧ fconv .f64 (s * 9223372036854775808) .f32 = s * 2147483648 ∧ isNaN .f32 (s * 2147483648) = false := by
  rcases (by omega : s = 0 ∨ s = 1) with rfl | rfl
  · exact ⟨.inr (.inr (by decide +kernel)), by decide +kernel, by decide +kernel⟩
  · exact ⟨.inr (.inr (by decide +kernel)), by decide +kernel, by decide +kernel⟩
set_option maxHeartbeats 400000 in
theorem specFlush_any (x : Nat) (hx : x < 4294967296) (w : World) :
    Calls Try.prog 10 #[.float .f32 x] w fun e w' => e = .returned (.float .f32 (flushF x)) ∧ w = w' := by
  have hb := run_f32bits
  have hf := run_f32from
  have hm := i64_mask x hx
  have hg := i64_sign x hx
  cases hn : isNaN .f32 x
  · have hn' : (FloatKind.f32.format.order x x != some .eq) = false := by rw [order_neq_self, hn]
    by_cases h1 : x % 2147483648 < 8388608
    · have hz : x / 8388608 % 256 * 8388608 = 0 := by omega
      rw [hz] at hm
      have hr : flushF x = x / 2147483648 * 2147483648 := by
        unfold flushF
        by_cases h0 : x % 2147483648 = 0
        · simp [subn, h0]; omega
        · have : subn x = true := by simp [subn, h1]; omega
          rw [if_pos this]
      have hlt : x / 2147483648 * 2147483648 ≤ 2147483648 := by omega
      obtain ⟨Y, hY⟩ : ∃ Y, Y = x / 2147483648 * 2147483648 := ⟨_, rfl⟩
      rw [hr]
      rw [← hY] at hg hlt ⊢
      clear hn hr h1 hz hY
      go_enter Try.func10, Try.ntmps10
      go_wp2
      go_ret
      exact ⟨by simp, rfl⟩
    · have hz : x / 8388608 % 256 * 8388608 ≠ 0 := by rw [isNaN32] at hn; simp at hn; omega
      have hz' : (((x / 8388608 % 256 * 8388608 : Nat) : Int) == 0) = false := by simp; omega
      have hr : flushF x = x := by simp [flushF, subn, h1]
      rw [hr]
      obtain ⟨K, hK⟩ : ∃ K, K = ((x / 8388608 % 256 * 8388608 : Nat) : Int) := ⟨_, rfl⟩
      rw [← hK] at hm hz'
      clear hn hr h1 hg hz hK
      go_enter Try.func10, Try.ntmps10
      go_wp2
      go_ret
      exact ⟨rfl, rfl⟩
  · have hn' : (FloatKind.f32.format.order x x != some .eq) = true := by rw [order_neq_self, hn]
    have hc : (bits .and .i64 2143289344 2139095040 == 0) = false := by decide +kernel
    have hr : flushF x = x := by rw [isNaN32] at hn; simp at hn; have : ¬ x % 2147483648 < 8388608 := by omega
                                 simp [flushF, subn, this]
    rw [hr]
    clear hn hr hm hg
    go_enter Try.func10, Try.ntmps10
    go_wp2
    go_ret
    exact ⟨rfl, rfl⟩
set_option maxHeartbeats 400000 in
theorem implFlush_any (x : Nat) (hx : x < 4294967296) (w : World) :
    Calls Try.prog 11 #[.float .f32 x] w fun e w' => e = .returned (.float .f32 (flushF x)) ∧ ∃ n, w' = w.drewN n := by
  have hb := run_f64bits
  have hf := run_f64from
  cases hs : subn x
  · have hr : flushF x = x := by simp [flushF, hs]
    rw [hr]
    go_enter Try.func11, Try.ntmps11
    go_wp2_with (go_at_call 28; refine (implIsSubnormal_any _ _).mono ?_; rintro e w' ⟨rfl, rfl⟩)
    go_ret
    exact ⟨rfl, 0, rfl⟩
  · have hn : isNaN .f32 x = false := by rw [isNaN32]; simp [subn] at hs; simp; omega
    have hr : flushF x = x / 2147483648 * 2147483648 := by simp [flushF, hs]
    have hY : ∀ s, pick .f64 (fconv .f32 x .f64) s = fconv .f32 x .f64 := fun s => pick_num (by rw [isNaN_fconv, hn]) s
    have hlt : fconv .f32 x .f64 < 18446744073709551616 := by simpa [Lit.wf] using fconv_wf .f32 x .f64
    have h1 := u64_sign _ hlt
    have hz := run_zero_bits
    rw [sign_widen x hx hn] at h1
    have hor : bits .or .u64 0 ((x / 2147483648 * 9223372036854775808 : Nat) : Int) = ((x / 2147483648 * 9223372036854775808 : Nat) : Int) := by
      rcases (by omega : x / 2147483648 = 0 ∨ x / 2147483648 = 1) with h | h <;> rw [h] <;> decide +kernel
    obtain ⟨hok, hcv, hnn⟩ := convOk_sign (x / 2147483648) (by omega)
    have hP : ∀ s, pick .f32 (x / 2147483648 * 2147483648) s = x / 2147483648 * 2147483648 := fun s => pick_num hnn s
    rw [hr]
    obtain ⟨Y, hY'⟩ : ∃ Y, Y = fconv .f32 x .f64 := ⟨_, rfl⟩
    obtain ⟨R, hR'⟩ : ∃ R, R = x / 2147483648 * 2147483648 := ⟨_, rfl⟩
    obtain ⟨S, hS'⟩ : ∃ S, S = x / 2147483648 * 9223372036854775808 := ⟨_, rfl⟩
    rw [← hS'] at h1 hor hok hcv
    rw [← hR'] at hP hcv ⊢
    simp only [← hY'] at h1 hY
    have hnn2 : 0 ≤ (S : Int) := Int.natCast_nonneg _
    have hy2 : ∀ s, pick .f64 (fconv .f32 x .f64) s = Y := fun s => by rw [← hY']; exact hY s
    clear hn hr hnn hlt hY hY' hR' hS'
    go_enter Try.func11, Try.ntmps11
    go_wp2_with (first | ((with_reducible refine wpL_fconv ?_); refine ⟨_, _, _, rfl, Option.isSome_iff_exists.2 ⟨_, Try.underlying22⟩, Try.underlying25, FloatKind.noConfusion, convOk_widen _, fun s n => ?_⟩) | ((with_reducible refine wpL_fconv ?_); refine ⟨_, _, _, rfl, Option.isSome_iff_exists.2 ⟨_, Try.underlying25⟩, Try.underlying22, FloatKind.noConfusion, hok, fun s n => ?_⟩) | (go_at_call 28; refine (implIsSubnormal_any _ _).mono ?_; rintro e w' ⟨rfl, rfl⟩) | go_in)
    go_ret
    exact ⟨by simp, _, rfl⟩
theorem lawFlush_any (x : Nat) (hx : (Lit.float .f32 x).wf = true) (w : World) :
    Calls Try.prog 3 #[.float .f32 x] w fun e w' => e = .returned (.bool true) ∧ Grown w w' := by
  have hx' := f32_lt hx
  have hc : ∀ X s t, canon .f64 (pick .f64 X s) = canon .f64 (pick .f64 X t) := fun X s t => by rw [canon_pick, canon_pick]
  go_enter Try.func3, Try.ntmps3
  go_wp2_with (first | ((with_reducible refine wpL_fconv ?_); refine ⟨_, _, _, rfl, Option.isSome_iff_exists.2 ⟨_, Try.underlying22⟩, Try.underlying25, FloatKind.noConfusion, convOk_widen _, fun s n => ?_⟩) | (go_at_call 12; refine (sameFloat_any _ _ _ (hc _ _ _)).mono ?_; rintro e w' ⟨rfl, n, rfl⟩) | (go_at_call 10; refine (specFlush_any _ hx' _).mono ?_; rintro e w' ⟨rfl, rfl⟩) | (go_at_call 11; refine (implFlush_any _ hx' _).mono ?_; rintro e w' ⟨rfl, n, rfl⟩))
  all_goals go_ret
  all_goals exact ⟨by simp, grown_drewN _ _⟩
set_option maxRecDepth 100000 in
theorem FnExactFlushNumber_lifted (os : Os) (started : os.Started) (H : Type) (enc : TypeId × Value → H) :
    ReturnsInHanded {} Try.checked os 3 .any (Rows.fnExactFlushNumberSpec.pre6 enc Try.prog Try.f3 Rows.fnExactFlushNumberRow.domain false) (Rows.fnExactFlushNumberSpec.post enc Try.prog Try.f3 false true false false) := by
  refine returnsInHanded_of_change (C := Try.checked) ownKnob_none started (by kernel_rfl) Try.func3
    (ChangeSpec.witness6 (enc := enc) (C := Try.checked) false ⟨#[], #[.float .f32 0], []⟩ 8 (by kernel_rfl) (by kernel_rfl) (by kernel_rfl) (by kernel_rfl)) ?_
  intro W base args ds gs before hval0 hW _ _
  have hval : ∀ (j : Nat) t v, Try.f3.params[j]? = some t → args[j]? = some v → Value.okWide Try.prog W .any base t v := hval0
  have hW' := hW
  obtain ⟨p, q, hA0, hV, rfl, hfz, hnd⟩ := hW
  have hA : DataW.TrodAll enc Try.prog W 0 (fun _ => true) true Try.f3.params.toList args.toList ds p := hA0
  rw [Try.params3] at hA hval
  obtain ⟨v0, vs0, d0, ds0, p0, q0, hargs, rfl, rfl, h0, r0⟩ := trodAll_cons hA
  obtain ⟨rfl, rfl, rfl⟩ := trodAll_nil r0
  obtain rfl : args = #[v0] := by cases args; simp_all
  obtain ⟨rfl, rfl⟩ := trodVars_none hV
  obtain ⟨a0, rfl, rfl, rfl, w0⟩ := open_float Try.underlying22 (hval 0 22 v0 rfl rfl) h0
  clear hA0 hval0
  simp only [List.append_nil] at hW'
  refine (lawFlush_any a0 w0 W).mono fun e W' ⟨he, hg⟩ => ?_
  subst he
  exact ⟨_, rfl, post_of_same (pa := []) (pv := []) hW' (fun _ _ _ => (trodAll_cons_mk (shut_bool Try.underlying4 _) trodAll_mk0)) (fun sp _ => (trodAll_cons_mk (shut_float Try.underlying22 w0) trodAll_mk0)) (fun _ _ => rfl) rfl
    (hg.frame _) hg.2.1 (ok_one (by kernel_rfl) rfl (okWide_bool_mk Try.underlying4 _))⟩
theorem FnExactFlushNumber_holds : Rows.FnExactFlushNumberSaid :=
  OpenClaim.holds_of_wide 3 Try.f3 rfl rfl rfl rfl rfl rfl rfl ⟨rfl, rfl, rfl, rfl, rfl⟩ rfl rfl rfl rfl rfl (by kernel_rfl) Try.func3 (by kernel_rfl)
    (of_decide_eq_true (by kernel_rfl)) (by unfold Func.isWrapper; first | (rw [if_pos (by decide +kernel)]; kernel_rfl) | (rw [if_neg (by decide +kernel)]; exact ⟨rfl, rfl⟩))
    (fun os started H enc _ => FnExactFlushNumber_lifted os started H enc)
end Go.Proofs.Ythpdiknpfpejlad
