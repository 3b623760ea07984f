/- The logarithm of any number, as the program tells it. -/
import Derived.Test.YtchpnjihhncfmaaLogV
import Derived.Test.YtchpnjihhncfmaaSubn
import Derived.Test.YtchpnjihhncfmaaRowKit
namespace Go.Proofs.Ytchpnjihhncfmaa
open Go Go.ChangeShapes Go.WideShapes Go.ChangeAt Go.RowKit

section
variable {P : Program} {w : World} {ops : Array Oper} {rest : List Oper} {a : Act} {Q : Exit → Act → World → Prop} {dst : Option Tmp} {ty : TypeId} {ps : String} {af : Array Edge}
theorem wpL_fconv_g {x : Operand} {src to : TypeId} {g : Nat × Bool}
    (h : Region.wanted { dst := dst, op := .convert src to x, type := ty, pos := ps, after := af, guard := some g } (yielded ops a.tmps) = true ∧ ∃ (s d : FloatKind) (b : Nat), a.eval x = .float s b ∧ (P.underlying src).isSome = true ∧ P.underlying to = some (.float d) ∧ s ≠ d ∧ convOk s b d ∧
      ∀ t n, wpList P ops Q rest (a.put dst (.float d (pick d (fconv s b d) t))) (w.drewN n)) :
    wpList P ops Q ({ dst := dst, op := .convert src to x, type := ty, pos := ps, after := af, guard := some g } :: rest) a w := by
  obtain ⟨hw, s, d, b, hx, hs, hd, hne, hok, hK⟩ := h
  refine wpList_step fun K' hK' => ?_
  rw [if_pos hw]
  obtain ⟨t, n, hrun⟩ := run_fconv (P := P) w hne b hok
  obtain ⟨u, hs'⟩ := Option.isSome_iff_exists.1 hs
  unfold Oper.wp
  have hr : (convert src to (.float s b)).run P w = .ok (.float d (pick d (fconv s b d) t)) (w.drewN n) := by
    cases u <;> simp [convert, run_underlying hs', run_underlying hd, hrun]
  simp [execOp, hx, hr]
  exact hK' _ _ (hK t n)
end
def PosFin (x : Nat) : Prop := ∃ m e, FloatKind.decode .f32 x = .number false m e ∧ m ≠ 0
/-- What the answer for x is, up to a not-a-number's bits. -/
def LogAns (x X : Nat) : Prop :=
  ((isNaN .f32 x = true ∨ (FloatKind.f32.format.order x 0 == some .lt) = true) ∧ X = qnan .f32) ∨ ((FloatKind.f32.format.order x 0 == some .eq) = true ∧ X = 4286578688) ∨ (x = 2139095040 ∧ X = 2139095040) ∨
  (PosFin x ∧ ∃ j i, First1 (fconv .f32 x .f64) j ∧ First2 (hv (fconv .f32 x .f64) j) i ∧ X = fconv .f64 (logQ (db (hv (fconv .f32 x .f64) j) i) ((j : Int) - i)) .f32)
def RetL (x : Nat) (w : World) (e : Ending) (w' : World) : Prop := ∃ X s n, LogAns x X ∧ e = .returned (.float .f32 (pick .f32 X s)) ∧ w' = w.drewN n
theorem inf_facts : FloatKind.decode .f32 2139095040 = .infinity false ∧ FloatKind.f32.format.order 2139095040 0 = some .gt ∧ isNaN .f32 2139095040 = false := by decide +kernel
theorem posFin_order {x : Nat} (h : PosFin x) : FloatKind.f32.format.order x 0 = some .gt ∧ isNaN .f32 x = false ∧ x ≠ 2139095040 := by
  obtain ⟨m, e, hd, hm⟩ := h
  obtain ⟨_, _, o3⟩ := order_val hd dec0_32
  refine ⟨o3 ?_, by simp [isNaN, hd, Ieee.Datum.isNaN], ?_⟩
  · have z1 : sval false 0 (-149) = 0 := by decide +kernel
    rw [z1, sval_false]
    exact Rat.mul_pos (by exact_mod_cast (by omega : 0 < m)) (two_pos e)
  · rintro rfl
    rw [inf_facts.1] at hd; cases hd
theorem LogAns.uniq {x X X' : Nat} (h : LogAns x X) (h' : LogAns x X') : X = X' := by
  rcases h with ⟨a, rfl⟩ | ⟨a, rfl⟩ | ⟨rfl, rfl⟩ | ⟨a, j, i, f1, f2, rfl⟩ <;> rcases h' with ⟨b, rfl⟩ | ⟨b, rfl⟩ | ⟨hb, rfl⟩ | ⟨b, j', i', f1', f2', rfl⟩
  · rfl
  · exfalso
    rcases a with a | a
    · rw [order_left a] at b; cases b
    · cases ho : FloatKind.f32.format.order x 0 with
      | none => rw [ho] at a; cases a
      | some o => rw [ho] at a b; cases o <;> first | (cases a; done) | cases b
  · exfalso; subst hb
    obtain ⟨_, i2, i3⟩ := inf_facts
    rcases a with a | a
    · rw [i3] at a; cases a
    · rw [i2] at a; cases a
  · exfalso
    obtain ⟨p1, p2, _⟩ := posFin_order b
    rcases a with a | a
    · rw [p2] at a; cases a
    · rw [p1] at a; cases a
  · exfalso
    rcases b with b | b
    · rw [order_left b] at a; cases a
    · cases ho : FloatKind.f32.format.order x 0 with
      | none => rw [ho] at a; cases a
      | some o => rw [ho] at a b; cases o <;> first | (cases a; done) | cases b
  · rfl
  · exfalso; subst hb
    rw [inf_facts.2.1] at a; cases a
  · exfalso
    rw [(posFin_order b).1] at a; cases a
  · exfalso
    obtain ⟨_, i2, i3⟩ := inf_facts
    rcases b with b | b
    · rw [i3] at b; cases b
    · rw [i2] at b; cases b
  · exfalso
    rw [inf_facts.2.1] at b; cases b
  · rfl
  · exact absurd rfl (posFin_order b).2.2
  · exfalso
    obtain ⟨p1, p2, _⟩ := posFin_order a
    rcases b with b | b
    · rw [p2] at b; cases b
    · rw [p1] at b; cases b
  · exfalso
    rw [(posFin_order a).1] at b; cases b
  · exact absurd hb (posFin_order a).2.2
  · have ej := f1.uniq f1'
    subst ej
    have ei := f2.uniq f2'
    subst ei
    rfl
theorem log_cases {x : Nat} (hx : x < 4294967296) : (isNaN .f32 x = true) ∨ (isNaN .f32 x = false ∧ FloatKind.f32.format.order x 0 = some .lt ∧ FloatKind.f64.format.order (fconv .f32 x .f64) 0 = some .lt) ∨
    (isNaN .f32 x = false ∧ FloatKind.f32.format.order x 0 = some .eq ∧ FloatKind.f64.format.order (fconv .f32 x .f64) 0 = some .eq) ∨ x = 2139095040 ∨ PosFin x := by
  cases hd : FloatKind.decode .f32 x with
  | nan => exact .inl (by simp [isNaN, hd, Ieee.Datum.isNaN])
  | infinity s =>
    have hn : isNaN .f32 x = false := by simp [isNaN, hd, Ieee.Datum.isNaN]
    have hd' : FloatKind.f32.format.read x = _ := hd
    rw [read32] at hd'
    have hr : x % 2147483648 = 2139095040 := by
      by_cases c1 : x % 2147483648 < 8388608
      · rw [if_pos c1] at hd'; cases hd'
      · rw [if_neg c1] at hd'
        by_cases c2 : x % 2147483648 < 2139095040
        · rw [if_pos c2] at hd'; cases hd'
        · rw [if_neg c2] at hd'
          by_cases c3 : x % 2147483648 = 2139095040
          · exact c3
          · rw [if_neg c3] at hd'; cases hd'
    rcases (by omega : x = 2139095040 ∨ x = 4286578688) with h | h
    · exact .inr (.inr (.inr (.inl h)))
    · subst h
      exact .inr (.inl ⟨hn, by decide +kernel, by decide +kernel⟩)
  | number s m e =>
    have hn : isNaN .f32 x = false := by simp [isNaN, hd, Ieee.Datum.isNaN]
    have ow := order_widen hd
    obtain ⟨o1, o2, o3⟩ := order_val hd dec0_32
    have z1 : sval false 0 (-149) = 0 := by decide +kernel
    rw [z1] at o1 o2 o3
    by_cases hm : m = 0
    · subst hm
      have : sval s 0 e = 0 := by
        unfold sval
        have h0 : ((0 : Nat) : Rat) = 0 := rfl
        cases s
        · simp only [Bool.false_eq_true, if_false]; rw [h0, Rat.zero_mul]
        · simp only [if_true]; rw [h0]; grind
      exact .inr (.inr (.inl ⟨hn, o2 this, by rw [ow]; exact o2 this⟩))
    · cases s with
      | false => exact .inr (.inr (.inr (.inr ⟨m, e, hd, hm⟩)))
      | true =>
        have : sval true m e < 0 := by
          have hp : 0 < (m : Rat) * two e := Rat.mul_pos (by exact_mod_cast (by omega : 0 < m)) (two_pos e)
          unfold sval; simp only [if_true]; grind
        exact .inr (.inl ⟨hn, o1 this, by rw [ow]; exact o1 this⟩)
theorem posFin_pl {x : Nat} (h : PosFin x) : Pl (fconv .f32 x .f64) 128 (-149) := by
  obtain ⟨m, e, hd, hm⟩ := h
  obtain ⟨m', e', hd', hv⟩ := widen_val hd
  obtain ⟨h1, h2, h3⟩ := read_single x false m e hd
  refine ⟨m', e', hd', ?_, ?_⟩
  · rw [hv]
    have a1 : (m : Rat) ≤ two 24 := by
      have : (24 : Int) = ((24 : Nat) : Int) := rfl
      rw [this, two_nat]; exact_mod_cast (by omega)
    have a2 : two 128 = two 24 * two 104 := by rw [← two_add]; rfl
    have b1 := Rat.mul_le_mul_of_nonneg_right a1 (Rat.le_of_lt (two_pos e))
    have b2 := Rat.mul_le_mul_of_nonneg_left (two_mono h3) (Rat.le_of_lt (two_pos 24))
    rw [a2]; exact Rat.le_trans b1 b2
  · rw [hv]
    have a1 : (1 : Rat) ≤ (m : Rat) := by exact_mod_cast (by omega : 1 ≤ m)
    have b1 := Rat.mul_le_mul_of_nonneg_right a1 (Rat.le_of_lt (two_pos e))
    have b2 := two_mono h2
    rw [Rat.one_mul] at b1
    exact Rat.le_trans b2 b1
theorem dec_max : FloatKind.decode .f64 9218868437227405311 = .number false 9007199254740991 971 := by decide +kernel
theorem pl_guards {Y : Nat} (h : Pl Y 128 (-149)) : (FloatKind.f64.format.order Y Y != some .eq) = false ∧ (FloatKind.f64.format.order Y 0 == some .lt) = false ∧ (FloatKind.f64.format.order Y 0 == some .eq) = false ∧ (FloatKind.f64.format.order Y 9218868437227405311 == some .gt) = false := by
  have hn := h.pb.bd.num
  obtain ⟨m, e, hd, hv, hw⟩ := h
  obtain ⟨_, _, o3⟩ := order_val hd dec0_64
  obtain ⟨p1, _, _⟩ := order_val hd dec_max
  have z : sval false 0 (-1074) = 0 := by decide +kernel
  have hp : 0 < sval false m e := by rw [sval_false]; have := two_pos (-149); grind
  rw [z] at o3
  have hmax : two 128 < sval false 9007199254740991 971 := by decide +kernel
  refine ⟨by rw [order_neq_self, hn], by rw [o3 hp]; rfl, by rw [o3 hp]; rfl, ?_⟩
  rw [p1 (by rw [sval_false m e]; grind)]; rfl
theorem ok_nan : convOk .f64 9221120237041090561 .f32 := .inl (by decide +kernel)
theorem ok_minf : convOk .f64 18442240474082181120 .f32 := .inr (.inl (by decide +kernel))
theorem ok_inf : convOk .f64 9218868437227405312 .f32 := .inr (.inl (by decide +kernel))
theorem run_nan_l (w : World) : (callFunc 183 #[.int .u64 9221120237041090561]).run Try.prog w = .ok (.value (.float .f64 9221120237041090561)) w := by kernel_rfl
theorem run_minf_l (w : World) : (callFunc 183 #[.int .u64 18442240474082181120]).run Try.prog w = .ok (.value (.float .f64 18442240474082181120)) w := by kernel_rfl
theorem cv_nan : fconv .f64 9221120237041090561 .f32 = qnan .f32 := by decide +kernel
theorem cv_minf : fconv .f64 18442240474082181120 .f32 = 4286578688 := by decide +kernel
theorem inf_more : fconv .f32 2139095040 .f64 = 9218868437227405312 ∧ isNaN .f64 9218868437227405312 = false ∧ fconv .f64 9218868437227405312 .f32 = 2139095040 ∧
    (FloatKind.f64.format.order 9218868437227405312 9218868437227405312 != some .eq) = false ∧ (FloatKind.f64.format.order 9218868437227405312 0 == some .lt) = false ∧ (FloatKind.f64.format.order 9218868437227405312 0 == some .eq) = false ∧
    (FloatKind.f64.format.order 9218868437227405312 9218868437227405311 == some .gt) = true ∧ isFin .f32 2139095040 = false := by decide +kernel
theorem ans_logQ {x j i : Nat} (hp : PosFin x) (f1 : First1 (fconv .f32 x .f64) j) (f2 : First2 (hv (fconv .f32 x .f64) j) i) : LogAns x (fconv .f64 (logQ (db (hv (fconv .f32 x .f64) j) i) ((j : Int) - i)) .f32) :=
  .inr (.inr (.inr ⟨hp, j, i, f1, f2, rfl⟩))
set_option maxHeartbeats 1000000 in
set_option maxRecDepth 100000 in
theorem implLog_any (x : Nat) (hx : x < 4294967296) (w : World) : Calls Try.prog 88 #[.float .f32 x] w (RetL x w) := by
  have hf := fun X s => fconv_pick .f64 X s .f32
  have hnn : ∀ s, isNaN .f64 (pick .f64 (fconv .f32 x .f64) s) = isNaN .f32 x := fun s => by rw [isNaN_pick, isNaN_fconv]
  rcases log_cases hx with hn | ⟨hn, hl, hl'⟩ | ⟨hn, hl, hl'⟩ | rfl | hpos
  · have h1 : (FloatKind.f32.format.order x 0 == some .eq) = false := by rw [order_left hn]; rfl
    have h2 : (FloatKind.f32.format.order x 0 == some .lt) = false := by rw [order_left hn]; rfl
    have hz := run_nan_l
    have hc := cv_nan
    have HA := Lib.hid (show LogAns x (qnan .f32) from .inl ⟨.inl hn, rfl⟩)
    rw [hn] at hnn
    clear hn
    go_enter Try.func88, Try.ntmps88
    go_wp2_with (first | ((with_reducible refine wpL_fconv ?_); refine ⟨_, _, _, rfl, Option.isSome_iff_exists.2 ⟨_, Try.underlying23⟩, Try.underlying44, FloatKind.noConfusion, convOk_widen _, fun s n => ?_⟩) | ((with_reducible refine wpL_fconv_g ?_); refine ⟨rfl, _, _, _, rfl, Option.isSome_iff_exists.2 ⟨_, Try.underlying23⟩, Try.underlying44, FloatKind.noConfusion, convOk_widen _, fun s n => ?_⟩) | ((with_reducible refine wpL_fconv ?_); refine ⟨_, _, _, rfl, Option.isSome_iff_exists.2 ⟨_, Try.underlying44⟩, Try.underlying23, FloatKind.noConfusion, ok_nan, fun s n => ?_⟩) | (go_at_call 145; refine (mathIsNaN_any _ _).mono ?_; rintro e w' ⟨rfl, rfl⟩) | go_in)
    go_ret
    exact ⟨_, _, _, HA.out, rfl, rfl⟩
  · have h1 : (FloatKind.f32.format.order x 0 == some .eq) = false := by rw [hl]; rfl
    have h2 : (FloatKind.f32.format.order x 0 == some .lt) = true := by rw [hl]; rfl
    have hz := run_nan_l
    have hc := cv_nan
    have HA := Lib.hid (show LogAns x (qnan .f32) from .inl ⟨.inr h2, rfl⟩)
    clear hn hl hl'
    go_enter Try.func88, Try.ntmps88
    go_wp2_with (first | ((with_reducible refine wpL_fconv ?_); refine ⟨_, _, _, rfl, Option.isSome_iff_exists.2 ⟨_, Try.underlying23⟩, Try.underlying44, FloatKind.noConfusion, convOk_widen _, fun s n => ?_⟩) | ((with_reducible refine wpL_fconv ?_); refine ⟨_, _, _, rfl, Option.isSome_iff_exists.2 ⟨_, Try.underlying44⟩, Try.underlying23, FloatKind.noConfusion, ok_nan, fun s n => ?_⟩) | go_in)
    go_ret
    exact ⟨_, _, _, HA.out, rfl, rfl⟩
  · have h1 : (FloatKind.f32.format.order x 0 == some .eq) = true := by rw [hl]; rfl
    have hz := run_minf_l
    have hc := cv_minf
    have HA := Lib.hid (show LogAns x 4286578688 from .inr (.inl ⟨h1, rfl⟩))
    clear hn hl hl'
    go_enter Try.func88, Try.ntmps88
    go_wp2_with (first | ((with_reducible refine wpL_fconv ?_); refine ⟨_, _, _, rfl, Option.isSome_iff_exists.2 ⟨_, Try.underlying44⟩, Try.underlying23, FloatKind.noConfusion, ok_minf, fun s n => ?_⟩) | go_in)
    go_ret
    exact ⟨_, _, _, HA.out, rfl, rfl⟩
  · obtain ⟨i1, i2, i3⟩ := inf_facts
    obtain ⟨k1, k2, k3, k4, k5, k6, k7, k8⟩ := inf_more
    have h1 : (FloatKind.f32.format.order 2139095040 0 == some .eq) = false := by rw [i2]; rfl
    have h2 : (FloatKind.f32.format.order 2139095040 0 == some .lt) = false := by rw [i2]; rfl
    rw [i3] at hnn
    rw [k1] at hnn
    have HA := Lib.hid (show LogAns 2139095040 2139095040 from .inr (.inr (.inl ⟨rfl, rfl⟩)))
    have HN := Lib.hid (pick_num i3 0)
    clear i1 i2 i3 k2 k3 k4 k5 k6 k7
    go_enter Try.func88, Try.ntmps88
    go_wp2_with (first | ((with_reducible refine wpL_fconv ?_); refine ⟨_, _, _, rfl, Option.isSome_iff_exists.2 ⟨_, Try.underlying23⟩, Try.underlying44, FloatKind.noConfusion, convOk_widen _, fun s n => ?_⟩) | ((with_reducible refine wpL_fconv_g ?_); refine ⟨rfl, _, _, _, rfl, Option.isSome_iff_exists.2 ⟨_, Try.underlying23⟩, Try.underlying44, FloatKind.noConfusion, convOk_widen _, fun s n => ?_⟩) | (go_at_call 145; refine (mathIsNaN_any _ _).mono ?_; rintro e w' ⟨rfl, rfl⟩) | (go_at_call 81; refine (IsFinite_any _ _).mono ?_; rintro e w' ⟨rfl, n, rfl⟩))
    go_ret
    exact ⟨_, 0, _, HA.out, by rw [HN.out]; rfl, rfl⟩
  · obtain ⟨o1, hn, _⟩ := posFin_order hpos
    have h1 : (FloatKind.f32.format.order x 0 == some .eq) = false := by rw [o1]; rfl
    have h2 : (FloatKind.f32.format.order x 0 == some .lt) = false := by rw [o1]; rfl
    have hfin : isFin .f32 x = true := by obtain ⟨m, e, hd, _⟩ := hpos; simp [isFin, hd, Ieee.Datum.isNaN, Ieee.Datum.isInfinity]
    have hpl := posFin_pl hpos
    have pk : ∀ s, pick .f64 (fconv .f32 x .f64) s = fconv .f32 x .f64 := fun s => pick_num hpl.pb.bd.num s
    have hnY : isNaN .f64 (fconv .f32 x .f64) = false := hpl.pb.bd.num
    have HW := Lib.hid (fun w => wideLog_any _ hpl w)
    have HP := Lib.hid hpos
    clear hpos hpl o1 hn hnn
    go_enter Try.func88, Try.ntmps88
    go_wp2_with (first | ((with_reducible refine wpL_fconv ?_); refine ⟨_, _, _, rfl, Option.isSome_iff_exists.2 ⟨_, Try.underlying23⟩, Try.underlying44, FloatKind.noConfusion, convOk_widen _, fun s n => ?_⟩) | ((with_reducible refine wpL_fconv_g ?_); refine ⟨rfl, _, _, _, rfl, Option.isSome_iff_exists.2 ⟨_, Try.underlying23⟩, Try.underlying44, FloatKind.noConfusion, convOk_widen _, fun s n => ?_⟩) | (go_at_call 145; refine (mathIsNaN_any _ _).mono ?_; rintro e w' ⟨rfl, rfl⟩) | (go_at_call 81; refine (IsFinite_any _ _).mono ?_; rintro e w' ⟨rfl, n, rfl⟩) | (go_at_call 147; refine (HW.out _).mono ?_; rintro e w' ⟨j, i, s, n, f1, f2, rfl, rfl, hj, hi, hb⟩; have F1 := Lib.hid f1; have F2 := Lib.hid f2; have HO := Lib.hid (convOk_narrow (bd_logQ hb (e := (j : Int) - i) (by omega)) (by decide)); clear f1 f2 hb) | ((with_reducible refine wpL_fconv ?_); refine ⟨_, _, _, rfl, Option.isSome_iff_exists.2 ⟨_, Try.underlying44⟩, Try.underlying23, FloatKind.noConfusion, convOk_pick HO.out, fun s n => ?_⟩) | go_in)
    go_ret
    exact ⟨_, _, _, ans_logQ HP.out F1.out F2.out, rfl, rfl⟩
end Go.Proofs.Ytchpnjihhncfmaa
