
import Derived.Test.YtmpcalpapkedhaaMk1
import Derived.Test.YtmpcalpapkedhaaMk1
import Derived.Test.YtmpcalpapkedhaaRowKit
import Derived.Test.YtmpcalpapkedhaaSameA
import Derived.Test.YtmpcalpapkedhaaSame
import Derived.Test.YtmpcalpapkedhaaPq
import Derived.Test.YtmpcalpapkedhaaNu5
import Derived.Test.YtmpcalpapkedhaaIn
import Derived.Test.YtmpcalpapkedhaaLaw
namespace Go.Proofs.Ytmpcalpapkedhaa
open Go Go.ChangeShapes Go.WideShapes Go.ChangeAt Go.RowKit
/- The walk of the logarithm in the model's package. -/
open Go Go.RowKit

set_option maxHeartbeats 400000 in
theorem mathIsInf1_any (x : Nat) (w : World) :
    Calls Try.prog 212 #[.float .f64 x, .int .i64 1] w fun e w' => e = .returned (.bool (FloatKind.f64.format.order x 9218868437227405311 == some .gt)) ∧ w = w' := by
  go_enter Try.func212, Try.ntmps212
  go_wp2
  go_ret
  exact ⟨rfl, rfl⟩
set_option maxHeartbeats 2000000 in
theorem logWide_any (Y : Nat) (hY : Pl Y 128 (-149)) (h1 : (FloatKind.f64.format.order Y Y != some .eq) = false) (h2 : (FloatKind.f64.format.order Y 0 == some .lt) = false) (h3 : (FloatKind.f64.format.order Y 0 == some .eq) = false) (h4 : (FloatKind.f64.format.order Y 9218868437227405311 == some .gt) = false) (w : World) : Calls Try.prog 253 #[.float .f64 Y] w (RetLog Y w) := by
  have hl := fun op => fbin_pick_l op .f64
  have hr := fun op => fbin_pick_r op .f64
  have hp := order_pick_l .f64
  have HY := Lib.hid hY
  clear hY
  go_enter Try.func253, Try.ntmps253
  go_wp2_with (go_at_call 212; refine (mathIsInf1_any _ _).mono ?_; rintro e w' ⟨rfl, rfl⟩)
  go_loopw [0, 3] (fun x e wr => ∃ j n : Nat, j ≤ 128 ∧ x = .float .f64 (hv Y j) ∧ e = .int .i64 j ∧ LogInv1 Y j ∧ wr = w.drewN n) (fun _ e _ => 200 - (intOf e).toNat)
  case atStart => exact ⟨0, 0, by omega, rfl, rfl, logInv1_start HY.out, rfl⟩
  case round =>
    obtain ⟨j, n1, hj, rfl, rfl, hI, rfl⟩ := hrel
    cases hg : ge64 (hv Y j) c15W
    · have HF := Lib.hid (logInv1_end hI hg)
      have t1 : (FloatKind.f64.format.order (hv Y j) 4609434218613702656 == some .gt || FloatKind.f64.format.order (hv Y j) 4609434218613702656 == some .eq) = false := hg
      clear hI hg
      obtain ⟨Z, hZ⟩ : ∃ Z, Z = hv Y j := ⟨_, rfl⟩
      have HZ := Lib.hid hZ
      rw [← hZ] at t1 ⊢
      clear hZ
      go_wp2
      go_loopw [0, 3] (fun x e wr => ∃ i n : Nat, i ≤ 149 ∧ x = .float .f64 (db Z i) ∧ e = .int .i64 ((j : Int) - i) ∧ LogInv2 Z i ∧ wr = w.drewN n) (fun _ e _ => (intOf e + 400 - j).toNat)
      case atStart => exact ⟨0, n1, by omega, rfl, by simp, logInv2_start (by rw [HZ.out]; exact HF.out.2), rfl⟩
      case round =>
        obtain ⟨i, n2, hi, rfl, rfl, hI, rfl⟩ := hrel
        cases hg : lt64 (db Z i) c75W
        · have HG := Lib.hid (logInv2_end hI hg)
          have t2 : (FloatKind.f64.format.order (db Z i) 4604930618986332160 == some .lt) = false := hg
          clear hI hg
          have hQ : logQ (db Z i) ((j : Int) - i) = fbin .add .f64 (fbin .mul .f64 twoW (fbin .mul .f64 (logS (db Z i)) (logR (fbin .mul .f64 (logS (db Z i)) (logS (db Z i)))))) (fbin .mul .f64 (floatOfInt .f64 ((j : Int) - i)) ln2W) := rfl
          obtain ⟨X, hX⟩ : ∃ X, X = db Z i := ⟨_, rfl⟩
          have HX := Lib.hid hX
          rw [← hX] at t2 hQ ⊢
          clear hX
          obtain ⟨S, hS⟩ : ∃ S, fbin .quo .f64 (fbin .sub .f64 X 4607182418800017408) (fbin .add .f64 X 4607182418800017408) = S := ⟨_, rfl⟩
          obtain ⟨U, hU⟩ : ∃ U, fbin .mul .f64 S S = U := ⟨_, rfl⟩
          have e1 : logS X = S := hS
          rw [e1, hU] at hQ
          have HQ := Lib.hid hQ
          clear hQ e1
          go_wp2_with ((with_reducible refine wpL_fbin ?_); refine ⟨_, _, _, rfl, rfl, rfl, fun s n => ?_⟩)
          refine wp_loop_rounds 14 ?_
          repeat (rw [rounds_succ]; go_wp2_with ((with_reducible refine wpL_fbin ?_); refine ⟨_, _, _, rfl, rfl, rfl, fun s n => ?_⟩))
          go_ret
          exact ⟨j, i, _, _, HF.out.1, by rw [← HZ.out]; exact HG.out.1, by rw [← HZ.out, ← HX.out, HQ.out]; rfl, rfl, by omega, by omega, by rw [← HZ.out]; exact HG.out.2⟩
        · obtain ⟨hn, hi2, hI2⟩ := logInv2_step hI hi hg
          have HI := Lib.hid hI2
          have t2 : (FloatKind.f64.format.order (db Z i) 4604930618986332160 == some .lt) = true := hg
          have hpk : ∀ s, pick .f64 (fbin .mul .f64 (db Z i) 4611686018427387904) s = db Z (i + 1) := fun s => pick_num hn s
          clear hI hg hn hI2
          go_wp2_with ((with_reducible refine wpL_fbin ?_); refine ⟨_, _, _, rfl, rfl, rfl, fun s n => ?_⟩)
          go_roundw
          case rel => exact ⟨i + 1, _, by omega, rfl, by go_num, HI.out, rfl⟩
          case measure => simp [intOf]; omega
    · obtain ⟨hn, hj2, hI2⟩ := logInv1_step hI hj hg
      have HI := Lib.hid hI2
      have t1 : (FloatKind.f64.format.order (hv Y j) 4609434218613702656 == some .gt || FloatKind.f64.format.order (hv Y j) 4609434218613702656 == some .eq) = true := hg
      have hpk : ∀ s, pick .f64 (fbin .quo .f64 (hv Y j) 4611686018427387904) s = hv Y (j + 1) := fun s => pick_num hn s
      clear hI hg hn hI2
      go_wp2_with ((with_reducible refine wpL_fbin ?_); refine ⟨_, _, _, rfl, rfl, rfl, fun s n => ?_⟩)
      go_roundw
      case rel => exact ⟨j + 1, _, by omega, rfl, by go_num, HI.out, rfl⟩
      case measure => simp [intOf]; omega

/- The logarithm of any number, as the program tells it. -/

section
variable {P : Program} {w : World} {ops : Array Oper} {rest : List Oper} {a : Act} {Q : Exit → Act → World → Prop} {dst : Option Tmp} {ty : TypeId} {ps : String} {af : Array Edge}
theorem wpL_fconv_g {x : Operand} {src to : TypeId} {g : Nat × Bool}
    (h : Region.wanted { dst := dst, op := .convert src to x, type := ty, pos := ps, after := af, guard := some g } (yielded ops a.tmps) = true ∧ ∃ (s d : FloatKind) (b : Nat), a.eval x = .float s b ∧ (P.underlying src).isSome = true ∧ P.underlying to = some (.float d) ∧ s ≠ d ∧ convOk s b d ∧
      ∀ t n, wpList P ops Q rest (a.put dst (.float d (pick d (fconv s b d) t))) (w.drewN n)) :
    wpList P ops Q ({ dst := dst, op := .convert src to x, type := ty, pos := ps, after := af, guard := some g } :: rest) a w := by
  obtain ⟨hw, s, d, b, hx, hs, hd, hne, hok, hK⟩ := h
  refine wpList_step fun K' hK' => ?_
  rw [if_pos hw]
  obtain ⟨t, n, hrun⟩ := run_fconv (P := P) w hne b hok
  obtain ⟨u, hs'⟩ := Option.isSome_iff_exists.1 hs
  unfold Oper.wp
  have hr : (convert src to (.float s b)).run P w = .ok (.float d (pick d (fconv s b d) t)) (w.drewN n) := by
    cases u <;> simp [convert, run_underlying hs', run_underlying hd, hrun]
  simp [execOp, hx, hr]
  exact hK' _ _ (hK t n)
end
def PosFin (x : Nat) : Prop := ∃ m e, FloatKind.decode .f32 x = .number false m e ∧ m ≠ 0
/-- What the answer for x is, up to a not-a-number's bits. -/
def LogAns (x X : Nat) : Prop :=
  ((isNaN .f32 x = true ∨ (FloatKind.f32.format.order x 0 == some .lt) = true) ∧ X = qnan .f32) ∨ ((FloatKind.f32.format.order x 0 == some .eq) = true ∧ X = 4286578688) ∨ (x = 2139095040 ∧ X = 2139095040) ∨
  (PosFin x ∧ ∃ j i, First1 (fconv .f32 x .f64) j ∧ First2 (hv (fconv .f32 x .f64) j) i ∧ X = fconv .f64 (logQ (db (hv (fconv .f32 x .f64) j) i) ((j : Int) - i)) .f32)
def RetL (x : Nat) (w : World) (e : Ending) (w' : World) : Prop := ∃ X s n, LogAns x X ∧ e = .returned (.float .f32 (pick .f32 X s)) ∧ w' = w.drewN n
theorem inf_facts : FloatKind.decode .f32 2139095040 = .infinity false ∧ FloatKind.f32.format.order 2139095040 0 = some .gt ∧ isNaN .f32 2139095040 = false := by decide +kernel
theorem posFin_order {x : Nat} (h : PosFin x) : FloatKind.f32.format.order x 0 = some .gt ∧ isNaN .f32 x = false ∧ x ≠ 2139095040 := by
  obtain ⟨m, e, hd, hm⟩ := h
  obtain ⟨_, _, o3⟩ := order_val hd dec0_32
  refine ⟨o3 ?_, by simp [isNaN, hd, Ieee.Datum.isNaN], ?_⟩
  · have z1 : sval false 0 (-149) = 0 := by decide +kernel
    rw [z1, sval_false]
    exact Rat.mul_pos (by exact_mod_cast (by omega : 0 < m)) (two_pos e)
  · rintro rfl
    rw [inf_facts.1] at hd; cases hd
theorem LogAns.uniq {x X X' : Nat} (h : LogAns x X) (h' : LogAns x X') : X = X' := by
  rcases h with ⟨a, rfl⟩ | ⟨a, rfl⟩ | ⟨rfl, rfl⟩ | ⟨a, j, i, f1, f2, rfl⟩ <;> rcases h' with ⟨b, rfl⟩ | ⟨b, rfl⟩ | ⟨hb, rfl⟩ | ⟨b, j', i', f1', f2', rfl⟩
  · rfl
  · exfalso
    rcases a with a | a
    · rw [order_left a] at b; cases b
    · cases ho : FloatKind.f32.format.order x 0 with
      | none => rw [ho] at a; cases a
      | some o => rw [ho] at a b; cases o <;> first | (cases a; done) | cases b
  · exfalso; subst hb
    obtain ⟨_, i2, i3⟩ := inf_facts
    rcases a with a | a
    · rw [i3] at a; cases a
    · rw [i2] at a; cases a
  · exfalso
    obtain ⟨p1, p2, _⟩ := posFin_order b
    rcases a with a | a
    · rw [p2] at a; cases a
    · rw [p1] at a; cases a
  · exfalso
    rcases b with b | b
    · rw [order_left b] at a; cases a
    · cases ho : FloatKind.f32.format.order x 0 with
      | none => rw [ho] at a; cases a
      | some o => rw [ho] at a b; cases o <;> first | (cases a; done) | cases b
  · rfl
  · exfalso; subst hb
    rw [inf_facts.2.1] at a; cases a
  · exfalso
    rw [(posFin_order b).1] at a; cases a
  · exfalso
    obtain ⟨_, i2, i3⟩ := inf_facts
    rcases b with b | b
    · rw [i3] at b; cases b
    · rw [i2] at b; cases b
  · exfalso
    rw [inf_facts.2.1] at b; cases b
  · rfl
  · exact absurd rfl (posFin_order b).2.2
  · exfalso
    obtain ⟨p1, p2, _⟩ := posFin_order a
    rcases b with b | b
    · rw [p2] at b; cases b
    · rw [p1] at b; cases b
  · exfalso
    rw [(posFin_order a).1] at b; cases b
  · exact absurd hb (posFin_order a).2.2
  · have ej := f1.uniq f1'
    subst ej
    have ei := f2.uniq f2'
    subst ei
    rfl
theorem log_cases {x : Nat} (hx : x < 4294967296) : (isNaN .f32 x = true) ∨ (isNaN .f32 x = false ∧ FloatKind.f32.format.order x 0 = some .lt ∧ FloatKind.f64.format.order (fconv .f32 x .f64) 0 = some .lt) ∨
    (isNaN .f32 x = false ∧ FloatKind.f32.format.order x 0 = some .eq ∧ FloatKind.f64.format.order (fconv .f32 x .f64) 0 = some .eq) ∨ x = 2139095040 ∨ PosFin x := by
  cases hd : FloatKind.decode .f32 x with
  | nan => exact .inl (by simp [isNaN, hd, Ieee.Datum.isNaN])
  | infinity s =>
    have hn : isNaN .f32 x = false := by simp [isNaN, hd, Ieee.Datum.isNaN]
    have hd' : FloatKind.f32.format.read x = _ := hd
    rw [read32] at hd'
    have hr : x % 2147483648 = 2139095040 := by
      by_cases c1 : x % 2147483648 < 8388608
      · rw [if_pos c1] at hd'; cases hd'
      · rw [if_neg c1] at hd'
        by_cases c2 : x % 2147483648 < 2139095040
        · rw [if_pos c2] at hd'; cases hd'
        · rw [if_neg c2] at hd'
          by_cases c3 : x % 2147483648 = 2139095040
          · exact c3
          · rw [if_neg c3] at hd'; cases hd'
    rcases (by omega : x = 2139095040 ∨ x = 4286578688) with h | h
    · exact .inr (.inr (.inr (.inl h)))
    · subst h
      exact .inr (.inl ⟨hn, by decide +kernel, by decide +kernel⟩)
  | number s m e =>
    have hn : isNaN .f32 x = false := by simp [isNaN, hd, Ieee.Datum.isNaN]
    have ow := order_widen hd
    obtain ⟨o1, o2, o3⟩ := order_val hd dec0_32
    have z1 : sval false 0 (-149) = 0 := by decide +kernel
    rw [z1] at o1 o2 o3
    by_cases hm : m = 0
    · subst hm
      have : sval s 0 e = 0 := by
        unfold sval
        have h0 : ((0 : Nat) : Rat) = 0 := rfl
        cases s
        · simp only [Bool.false_eq_true, if_false]; rw [h0, Rat.zero_mul]
        · simp only [if_true]; rw [h0]; grind
      exact .inr (.inr (.inl ⟨hn, o2 this, by rw [ow]; exact o2 this⟩))
    · cases s with
      | false => exact .inr (.inr (.inr (.inr ⟨m, e, hd, hm⟩)))
      | true =>
        have : sval true m e < 0 := by
          have hp : 0 < (m : Rat) * two e := Rat.mul_pos (by exact_mod_cast (by omega : 0 < m)) (two_pos e)
          unfold sval; simp only [if_true]; grind
        exact .inr (.inl ⟨hn, o1 this, by rw [ow]; exact o1 this⟩)
theorem posFin_pl {x : Nat} (h : PosFin x) : Pl (fconv .f32 x .f64) 128 (-149) := by
  obtain ⟨m, e, hd, hm⟩ := h
  obtain ⟨m', e', hd', hv⟩ := widen_val hd
  obtain ⟨h1, h2, h3⟩ := read_single x false m e hd
  refine ⟨m', e', hd', ?_, ?_⟩
  · rw [hv]
    have a1 : (m : Rat) ≤ two 24 := by
      have : (24 : Int) = ((24 : Nat) : Int) := rfl
      rw [this, two_nat]; exact_mod_cast (by omega)
    have a2 : two 128 = two 24 * two 104 := by rw [← two_add]; rfl
    have b1 := Rat.mul_le_mul_of_nonneg_right a1 (Rat.le_of_lt (two_pos e))
    have b2 := Rat.mul_le_mul_of_nonneg_left (two_mono h3) (Rat.le_of_lt (two_pos 24))
    rw [a2]; exact Rat.le_trans b1 b2
  · rw [hv]
    have a1 : (1 : Rat) ≤ (m : Rat) := by exact_mod_cast (by omega : 1 ≤ m)
    have b1 := Rat.mul_le_mul_of_nonneg_right a1 (Rat.le_of_lt (two_pos e))
    have b2 := two_mono h2
    rw [Rat.one_mul] at b1
    exact Rat.le_trans b2 b1
theorem dec_max : FloatKind.decode .f64 9218868437227405311 = .number false 9007199254740991 971 := by decide +kernel
theorem pl_guards {Y : Nat} (h : Pl Y 128 (-149)) : (FloatKind.f64.format.order Y Y != some .eq) = false ∧ (FloatKind.f64.format.order Y 0 == some .lt) = false ∧ (FloatKind.f64.format.order Y 0 == some .eq) = false ∧ (FloatKind.f64.format.order Y 9218868437227405311 == some .gt) = false := by
  have hn := h.pb.bd.num
  obtain ⟨m, e, hd, hv, hw⟩ := h
  obtain ⟨_, _, o3⟩ := order_val hd dec0_64
  obtain ⟨p1, _, _⟩ := order_val hd dec_max
  have z : sval false 0 (-1074) = 0 := by decide +kernel
  have hp : 0 < sval false m e := by rw [sval_false]; have := two_pos (-149); grind
  rw [z] at o3
  have hmax : two 128 < sval false 9007199254740991 971 := by decide +kernel
  refine ⟨by rw [order_neq_self, hn], by rw [o3 hp]; rfl, by rw [o3 hp]; rfl, ?_⟩
  rw [p1 (by rw [sval_false m e]; grind)]; rfl
theorem ok_nan : convOk .f64 9221120237041090561 .f32 := .inl (by decide +kernel)
theorem ok_minf : convOk .f64 18442240474082181120 .f32 := .inr (.inl (by decide +kernel))
theorem ok_inf : convOk .f64 9218868437227405312 .f32 := .inr (.inl (by decide +kernel))
theorem run_nan_l (w : World) : (callFunc 214 #[.int .u64 9221120237041090561]).run Try.prog w = .ok (.value (.float .f64 9221120237041090561)) w := by kernel_rfl
theorem run_minf_l (w : World) : (callFunc 214 #[.int .u64 18442240474082181120]).run Try.prog w = .ok (.value (.float .f64 18442240474082181120)) w := by kernel_rfl
theorem cv_nan : fconv .f64 9221120237041090561 .f32 = qnan .f32 := by decide +kernel
theorem cv_minf : fconv .f64 18442240474082181120 .f32 = 4286578688 := by decide +kernel
theorem inf_more : fconv .f32 2139095040 .f64 = 9218868437227405312 ∧ isNaN .f64 9218868437227405312 = false ∧ fconv .f64 9218868437227405312 .f32 = 2139095040 ∧
    (FloatKind.f64.format.order 9218868437227405312 9218868437227405312 != some .eq) = false ∧ (FloatKind.f64.format.order 9218868437227405312 0 == some .lt) = false ∧ (FloatKind.f64.format.order 9218868437227405312 0 == some .eq) = false ∧
    (FloatKind.f64.format.order 9218868437227405312 9218868437227405311 == some .gt) = true ∧ isFin .f32 2139095040 = false := by decide +kernel
theorem ans_logQ {x j i : Nat} (hp : PosFin x) (f1 : First1 (fconv .f32 x .f64) j) (f2 : First2 (hv (fconv .f32 x .f64) j) i) : LogAns x (fconv .f64 (logQ (db (hv (fconv .f32 x .f64) j) i) ((j : Int) - i)) .f32) :=
  .inr (.inr (.inr ⟨hp, j, i, f1, f2, rfl⟩))
set_option maxHeartbeats 1000000 in
set_option maxRecDepth 100000 in
theorem implLog_any (x : Nat) (hx : x < 4294967296) (w : World) : Calls Try.prog 199 #[.float .f32 x] w (RetL x w) := by
  have hf := fun X s => fconv_pick .f64 X s .f32
  have hnn : ∀ s, isNaN .f64 (pick .f64 (fconv .f32 x .f64) s) = isNaN .f32 x := fun s => by rw [isNaN_pick, isNaN_fconv]
  rcases log_cases hx with hn | ⟨hn, hl, hl'⟩ | ⟨hn, hl, hl'⟩ | rfl | hpos
  · have h1 : (FloatKind.f32.format.order x 0 == some .eq) = false := by rw [order_left hn]; rfl
    have h2 : (FloatKind.f32.format.order x 0 == some .lt) = false := by rw [order_left hn]; rfl
    have hz := run_nan_l
    have hc := cv_nan
    have HA := Lib.hid (show LogAns x (qnan .f32) from .inl ⟨.inl hn, rfl⟩)
    rw [hn] at hnn
    clear hn
    go_enter Try.func199, Try.ntmps199
    go_wp2_with (first | ((with_reducible refine wpL_fconv ?_); refine ⟨_, _, _, rfl, Option.isSome_iff_exists.2 ⟨_, Try.underlying22⟩, Try.underlying76, FloatKind.noConfusion, convOk_widen _, fun s n => ?_⟩) | ((with_reducible refine wpL_fconv_g ?_); refine ⟨rfl, _, _, _, rfl, Option.isSome_iff_exists.2 ⟨_, Try.underlying22⟩, Try.underlying76, FloatKind.noConfusion, convOk_widen _, fun s n => ?_⟩) | ((with_reducible refine wpL_fconv ?_); refine ⟨_, _, _, rfl, Option.isSome_iff_exists.2 ⟨_, Try.underlying76⟩, Try.underlying22, FloatKind.noConfusion, ok_nan, fun s n => ?_⟩) | (go_at_call 211; refine (mathIsNaN_any _ _).mono ?_; rintro e w' ⟨rfl, rfl⟩) | go_in)
    go_ret
    exact ⟨_, _, _, HA.out, rfl, rfl⟩
  · have h1 : (FloatKind.f32.format.order x 0 == some .eq) = false := by rw [hl]; rfl
    have h2 : (FloatKind.f32.format.order x 0 == some .lt) = true := by rw [hl]; rfl
    have hz := run_nan_l
    have hc := cv_nan
    have HA := Lib.hid (show LogAns x (qnan .f32) from .inl ⟨.inr h2, rfl⟩)
    clear hn hl hl'
    go_enter Try.func199, Try.ntmps199
    go_wp2_with (first | ((with_reducible refine wpL_fconv ?_); refine ⟨_, _, _, rfl, Option.isSome_iff_exists.2 ⟨_, Try.underlying22⟩, Try.underlying76, FloatKind.noConfusion, convOk_widen _, fun s n => ?_⟩) | ((with_reducible refine wpL_fconv ?_); refine ⟨_, _, _, rfl, Option.isSome_iff_exists.2 ⟨_, Try.underlying76⟩, Try.underlying22, FloatKind.noConfusion, ok_nan, fun s n => ?_⟩) | go_in)
    go_ret
    exact ⟨_, _, _, HA.out, rfl, rfl⟩
  · have h1 : (FloatKind.f32.format.order x 0 == some .eq) = true := by rw [hl]; rfl
    have hz := run_minf_l
    have hc := cv_minf
    have HA := Lib.hid (show LogAns x 4286578688 from .inr (.inl ⟨h1, rfl⟩))
    clear hn hl hl'
    go_enter Try.func199, Try.ntmps199
    go_wp2_with (first | ((with_reducible refine wpL_fconv ?_); refine ⟨_, _, _, rfl, Option.isSome_iff_exists.2 ⟨_, Try.underlying76⟩, Try.underlying22, FloatKind.noConfusion, ok_minf, fun s n => ?_⟩) | go_in)
    go_ret
    exact ⟨_, _, _, HA.out, rfl, rfl⟩
  · obtain ⟨i1, i2, i3⟩ := inf_facts
    obtain ⟨k1, k2, k3, k4, k5, k6, k7, k8⟩ := inf_more
    have h1 : (FloatKind.f32.format.order 2139095040 0 == some .eq) = false := by rw [i2]; rfl
    have h2 : (FloatKind.f32.format.order 2139095040 0 == some .lt) = false := by rw [i2]; rfl
    rw [i3] at hnn
    rw [k1] at hnn
    have HA := Lib.hid (show LogAns 2139095040 2139095040 from .inr (.inr (.inl ⟨rfl, rfl⟩)))
    have HN := Lib.hid (pick_num i3 0)
    clear i1 i2 i3 k2 k3 k4 k5 k6 k7
    go_enter Try.func199, Try.ntmps199
    go_wp2_with (first | ((with_reducible refine wpL_fconv ?_); refine ⟨_, _, _, rfl, Option.isSome_iff_exists.2 ⟨_, Try.underlying22⟩, Try.underlying76, FloatKind.noConfusion, convOk_widen _, fun s n => ?_⟩) | ((with_reducible refine wpL_fconv_g ?_); refine ⟨rfl, _, _, _, rfl, Option.isSome_iff_exists.2 ⟨_, Try.underlying22⟩, Try.underlying76, FloatKind.noConfusion, convOk_widen _, fun s n => ?_⟩) | (go_at_call 211; refine (mathIsNaN_any _ _).mono ?_; rintro e w' ⟨rfl, rfl⟩) | (go_at_call 166; refine (IsFinite_any _ _).mono ?_; rintro e w' ⟨rfl, n, rfl⟩))
    go_ret
    exact ⟨_, 0, _, HA.out, by rw [HN.out]; rfl, rfl⟩
  · obtain ⟨o1, hn, _⟩ := posFin_order hpos
    have h1 : (FloatKind.f32.format.order x 0 == some .eq) = false := by rw [o1]; rfl
    have h2 : (FloatKind.f32.format.order x 0 == some .lt) = false := by rw [o1]; rfl
    have hfin : isFin .f32 x = true := by obtain ⟨m, e, hd, _⟩ := hpos; simp [isFin, hd, Ieee.Datum.isNaN, Ieee.Datum.isInfinity]
    have hpl := posFin_pl hpos
    have pk : ∀ s, pick .f64 (fconv .f32 x .f64) s = fconv .f32 x .f64 := fun s => pick_num hpl.pb.bd.num s
    have hnY : isNaN .f64 (fconv .f32 x .f64) = false := hpl.pb.bd.num
    have HW := Lib.hid (fun w => wideLog_any _ hpl w)
    have HP := Lib.hid hpos
    clear hpos hpl o1 hn hnn
    go_enter Try.func199, Try.ntmps199
    go_wp2_with (first | ((with_reducible refine wpL_fconv ?_); refine ⟨_, _, _, rfl, Option.isSome_iff_exists.2 ⟨_, Try.underlying22⟩, Try.underlying76, FloatKind.noConfusion, convOk_widen _, fun s n => ?_⟩) | ((with_reducible refine wpL_fconv_g ?_); refine ⟨rfl, _, _, _, rfl, Option.isSome_iff_exists.2 ⟨_, Try.underlying22⟩, Try.underlying76, FloatKind.noConfusion, convOk_widen _, fun s n => ?_⟩) | (go_at_call 211; refine (mathIsNaN_any _ _).mono ?_; rintro e w' ⟨rfl, rfl⟩) | (go_at_call 166; refine (IsFinite_any _ _).mono ?_; rintro e w' ⟨rfl, n, rfl⟩) | (go_at_call 233; refine (HW.out _).mono ?_; rintro e w' ⟨j, i, s, n, f1, f2, rfl, rfl, hj, hi, hb⟩; have F1 := Lib.hid f1; have F2 := Lib.hid f2; have HO := Lib.hid (convOk_narrow (bd_logQ hb (e := (j : Int) - i) (by omega)) (by decide)); clear f1 f2 hb) | ((with_reducible refine wpL_fconv ?_); refine ⟨_, _, _, rfl, Option.isSome_iff_exists.2 ⟨_, Try.underlying76⟩, Try.underlying22, FloatKind.noConfusion, convOk_pick HO.out, fun s n => ?_⟩) | go_in)
    go_ret
    exact ⟨_, _, _, ans_logQ HP.out F1.out F2.out, rfl, rfl⟩

/- The logarithm of any number, as the model's inner function and the program tell it: one word. -/

set_option maxRecDepth 100000 in
set_option maxHeartbeats 1000000 in
theorem specLog_any (x : Nat) (hx : x < 4294967296) (w : World) : Calls Try.prog 231 #[.float .f32 x] w (RetL x w) := by
  have hp := order_pick_l .f64
  have hq := order_pick_r .f64
  have hf := fun X s => fconv_pick .f64 X s .f32
  rcases log_cases hx with hn | ⟨hn, hl, hl'⟩ | ⟨hn, hl, hl'⟩ | rfl | hpos
  · have h1 : (FloatKind.f64.format.order (fconv .f32 x .f64) (fconv .f32 x .f64) != some .eq) = true := by rw [order_neq_self, isNaN_fconv, hn]
    have hz := run_nan_l
    have hc := cv_nan
    have HA := Lib.hid (show LogAns x (qnan .f32) from .inl ⟨.inl hn, rfl⟩)
    clear hn
    go_enter Try.func231, Try.ntmps231
    go_wp2_with (first | ((with_reducible refine wpL_fconv ?_); refine ⟨_, _, _, rfl, Option.isSome_iff_exists.2 ⟨_, Try.underlying22⟩, Try.underlying76, FloatKind.noConfusion, convOk_widen _, fun s n => ?_⟩) | ((with_reducible refine wpL_fconv ?_); refine ⟨_, _, _, rfl, Option.isSome_iff_exists.2 ⟨_, Try.underlying76⟩, Try.underlying22, FloatKind.noConfusion, ok_nan, fun s n => ?_⟩) | go_in)
    go_ret
    exact ⟨_, _, _, HA.out, rfl, rfl⟩
  · have h1 : (FloatKind.f64.format.order (fconv .f32 x .f64) (fconv .f32 x .f64) != some .eq) = false := by rw [order_neq_self, isNaN_fconv, hn]
    have h2 : (FloatKind.f64.format.order (fconv .f32 x .f64) 0 == some .lt) = true := by rw [hl']; rfl
    have hz := run_nan_l
    have hc := cv_nan
    have HA := Lib.hid (show LogAns x (qnan .f32) from .inl ⟨.inr (by rw [hl]; rfl), rfl⟩)
    clear hn hl hl'
    go_enter Try.func231, Try.ntmps231
    go_wp2_with (first | ((with_reducible refine wpL_fconv ?_); refine ⟨_, _, _, rfl, Option.isSome_iff_exists.2 ⟨_, Try.underlying22⟩, Try.underlying76, FloatKind.noConfusion, convOk_widen _, fun s n => ?_⟩) | ((with_reducible refine wpL_fconv ?_); refine ⟨_, _, _, rfl, Option.isSome_iff_exists.2 ⟨_, Try.underlying76⟩, Try.underlying22, FloatKind.noConfusion, ok_nan, fun s n => ?_⟩) | go_in)
    go_ret
    exact ⟨_, _, _, HA.out, rfl, rfl⟩
  · have h1 : (FloatKind.f64.format.order (fconv .f32 x .f64) (fconv .f32 x .f64) != some .eq) = false := by rw [order_neq_self, isNaN_fconv, hn]
    have h2 : (FloatKind.f64.format.order (fconv .f32 x .f64) 0 == some .lt) = false := by rw [hl']; rfl
    have h3 : (FloatKind.f64.format.order (fconv .f32 x .f64) 0 == some .eq) = true := by rw [hl']; rfl
    have hz := run_minf_l
    have hc := cv_minf
    have HA := Lib.hid (show LogAns x 4286578688 from .inr (.inl ⟨by rw [hl]; rfl, rfl⟩))
    clear hn hl hl'
    go_enter Try.func231, Try.ntmps231
    go_wp2_with (first | ((with_reducible refine wpL_fconv ?_); refine ⟨_, _, _, rfl, Option.isSome_iff_exists.2 ⟨_, Try.underlying22⟩, Try.underlying76, FloatKind.noConfusion, convOk_widen _, fun s n => ?_⟩) | ((with_reducible refine wpL_fconv ?_); refine ⟨_, _, _, rfl, Option.isSome_iff_exists.2 ⟨_, Try.underlying76⟩, Try.underlying22, FloatKind.noConfusion, ok_minf, fun s n => ?_⟩) | go_in)
    go_ret
    exact ⟨_, _, _, HA.out, rfl, rfl⟩
  · obtain ⟨k1, k2, k3, k4, k5, k6, k7, k8⟩ := inf_more
    have pk : ∀ s, pick .f64 9218868437227405312 s = 9218868437227405312 := fun s => pick_num k2 s
    have HA := Lib.hid (show LogAns 2139095040 2139095040 from .inr (.inr (.inl ⟨rfl, rfl⟩)))
    clear k2
    go_enter Try.func231, Try.ntmps231
    go_wp2_with (first | ((with_reducible refine wpL_fconv ?_); refine ⟨_, _, _, rfl, Option.isSome_iff_exists.2 ⟨_, Try.underlying22⟩, Try.underlying76, FloatKind.noConfusion, convOk_widen _, fun s n => ?_⟩) | ((with_reducible refine wpL_fconv ?_); refine ⟨_, _, _, rfl, Option.isSome_iff_exists.2 ⟨_, Try.underlying76⟩, Try.underlying22, FloatKind.noConfusion, ok_inf, fun s n => ?_⟩) | (go_at_call 212; refine (mathIsInf1_any _ _).mono ?_; rintro e w' ⟨rfl, rfl⟩) | go_in)
    go_ret
    exact ⟨_, _, _, HA.out, rfl, rfl⟩
  · have hpl := posFin_pl hpos
    obtain ⟨g1, g2, g3, g4⟩ := pl_guards hpl
    have pk : ∀ s, pick .f64 (fconv .f32 x .f64) s = fconv .f32 x .f64 := fun s => pick_num hpl.pb.bd.num s
    have HW := Lib.hid (fun w => logWide_any _ hpl g1 g2 g3 g4 w)
    have HP := Lib.hid hpos
    clear hpos hpl g1 g2 g3 g4
    go_enter Try.func231, Try.ntmps231
    go_wp2_with (first | ((with_reducible refine wpL_fconv ?_); refine ⟨_, _, _, rfl, Option.isSome_iff_exists.2 ⟨_, Try.underlying22⟩, Try.underlying76, FloatKind.noConfusion, convOk_widen _, fun s n => ?_⟩) | (go_at_call 253; refine (HW.out _).mono ?_; rintro e w' ⟨j, i, s, n, f1, f2, rfl, rfl, hj, hi, hb⟩; have F1 := Lib.hid f1; have F2 := Lib.hid f2; have HO := Lib.hid (convOk_narrow (bd_logQ hb (e := (j : Int) - i) (by omega)) (by decide)); clear f1 f2 hb) | ((with_reducible refine wpL_fconv ?_); refine ⟨_, _, _, rfl, Option.isSome_iff_exists.2 ⟨_, Try.underlying76⟩, Try.underlying22, FloatKind.noConfusion, convOk_pick HO.out, fun s n => ?_⟩) | go_in)
    go_ret
    exact ⟨_, _, _, ans_logQ HP.out F1.out F2.out, rfl, rfl⟩
/-- The answer, as a word. -/
noncomputable def logT (x : Nat) : Nat := Classical.epsilon (LogAns x)
theorem logT_of {x X : Nat} (h : LogAns x X) : X = logT x := h.uniq (Classical.epsilon_spec ⟨X, h⟩)
def RetG (k : FloatKind) (X : Nat) (w : World) (e : Ending) (w' : World) : Prop := ∃ s n, e = .returned (.float k (pick k X s)) ∧ w' = w.drewN n
theorem specLogT_any (x : Nat) (hx : x < 4294967296) (w : World) : Calls Try.prog 231 #[.float .f32 x] w (RetG .f32 (logT x) w) := by
  refine (specLog_any x hx w).mono ?_
  rintro e w' ⟨X, s, n, hA, rfl, rfl⟩
  exact ⟨s, n, by rw [logT_of hA], rfl⟩
theorem implLogT_any (x : Nat) (hx : x < 4294967296) (w : World) : Calls Try.prog 199 #[.float .f32 x] w (RetG .f32 (logT x) w) := by
  refine (implLog_any x hx w).mono ?_
  rintro e w' ⟨X, s, n, hA, rfl, rfl⟩
  exact ⟨s, n, by rw [logT_of hA], rfl⟩

/- (Both functions.) For all numbers the program tells the criterion just where the model does, and the same: for all arguments. -/

def okCri (r : Nat) (a b : Int) : Bool := isP r && (inB a 1 128 && inB b 0 a)
theorem criNo {w w' : World} (hb : Below w.heap.size w w') : NRet 0 false w (.returned (.tuple #[.float .f32 0, .bool false])) w' := ⟨0, by rw [pick_nul], hb⟩
theorem criYes {D s : Nat} {w w' : World} (hb : Below w.heap.size w w') : NRet (numQ D) (isFin .f32 D) w (.returned (.tuple #[.float .f32 (pick .f32 (numQ D) s), .bool (isFin .f32 D)])) w' := ⟨s, rfl, hb⟩
theorem word_lt (op : BinOp) (x y s : Nat) : pick .f32 (fbin op .f32 x y) s < 4294967296 := by
  have := pick_wf (fbin_wf op .f32 x y) s
  simpa [Lit.wf] using this
theorem int_lt (a : Int) : floatOfInt .f32 a < 4294967296 := by
  have : (Lit.float .f32 (floatOfInt .f32 a)).wf = true := by unfold floatOfInt; exact encode_wf ..
  simpa [Lit.wf] using this
set_option maxRecDepth 100000 in
set_option maxHeartbeats 3200000 in
theorem specCri_no (r : Nat) (a b : Int) (w : World) (hk : okCri r a b = false) : Calls Try.prog 141 #[.float .f32 r, .int .i64 a, .int .i64 b] w (NRet 0 false w) := by
  cases c1 : isFin .f32 r
  · clear hk
    go_enter Try.func141, Try.ntmps141
    go_wp2_with (first | (go_at_call 94; refine (l01Finite_any _ _).mono ?_; rintro e w' ⟨rfl, q, rfl⟩) | (go_at_call 179; refine (l00In_any _ _ _ _).mono ?_; rintro e w' ⟨rfl, rfl⟩))
    go_ret2
    refine criNo ?_
    (repeat (first | with_reducible exact Below.refl _ _ | with_reducible refine Below.drewN ?_ _ | with_reducible refine Below.setCell ?_ (by simp; try omega) _ | with_reducible refine Below.alloc ?_ (by simp; try omega) _))
  · cases c2 : (FloatKind.f32.format.order r 0 == some .gt)
    · clear hk
      go_enter Try.func141, Try.ntmps141
      go_wp2_with (first | (go_at_call 94; refine (l01Finite_any _ _).mono ?_; rintro e w' ⟨rfl, q, rfl⟩) | (go_at_call 179; refine (l00In_any _ _ _ _).mono ?_; rintro e w' ⟨rfl, rfl⟩))
      go_ret2
      refine criNo ?_
      (repeat (first | with_reducible exact Below.refl _ _ | with_reducible refine Below.drewN ?_ _ | with_reducible refine Below.setCell ?_ (by simp; try omega) _ | with_reducible refine Below.alloc ?_ (by simp; try omega) _))
    · cases c3 : inB a 1 128
      · clear hk
        go_enter Try.func141, Try.ntmps141
        go_wp2_with (first | (go_at_call 94; refine (l01Finite_any _ _).mono ?_; rintro e w' ⟨rfl, q, rfl⟩) | (go_at_call 179; refine (l00In_any _ _ _ _).mono ?_; rintro e w' ⟨rfl, rfl⟩))
        go_ret2
        refine criNo ?_
        (repeat (first | with_reducible exact Below.refl _ _ | with_reducible refine Below.drewN ?_ _ | with_reducible refine Below.setCell ?_ (by simp; try omega) _ | with_reducible refine Below.alloc ?_ (by simp; try omega) _))
      · cases c4 : inB b 0 a
        · clear hk
          go_enter Try.func141, Try.ntmps141
          go_wp2_with (first | (go_at_call 94; refine (l01Finite_any _ _).mono ?_; rintro e w' ⟨rfl, q, rfl⟩) | (go_at_call 179; refine (l00In_any _ _ _ _).mono ?_; rintro e w' ⟨rfl, rfl⟩))
          go_ret2
          refine criNo ?_
          (repeat (first | with_reducible exact Below.refl _ _ | with_reducible refine Below.drewN ?_ _ | with_reducible refine Below.setCell ?_ (by simp; try omega) _ | with_reducible refine Below.alloc ?_ (by simp; try omega) _))
        · exfalso
          rw [okCri, isP, c1, c2, c3, c4] at hk
          cases hk
set_option maxRecDepth 100000 in
set_option maxHeartbeats 3200000 in
theorem implCri_no (r : Nat) (a b : Int) (w : World) (hk : okCri r a b = false) : Calls Try.prog 143 #[.float .f32 r, .int .i64 a, .int .i64 b] w (NRet 0 false w) := by
  cases c1 : isP r
  · skip
    clear hk
    go_enter Try.func143, Try.ntmps143
    go_wp2_with (first | (go_at_call 89; refine (isPositive_any _ _).mono ?_; rintro e w' ⟨rfl, q, rfl⟩))
    go_ret2
    refine criNo ?_
    (repeat (first | with_reducible exact Below.refl _ _ | with_reducible refine Below.drewN ?_ _ | with_reducible refine Below.setCell ?_ (by simp; try omega) _ | with_reducible refine Below.alloc ?_ (by simp; try omega) _))
  · skip
    cases c2 : decide (a < 1)
    rotate_left
    · skip
      clear hk
      go_enter Try.func143, Try.ntmps143
      go_wp2_with (first | (go_at_call 89; refine (isPositive_any _ _).mono ?_; rintro e w' ⟨rfl, q, rfl⟩))
      go_ret2
      refine criNo ?_
      (repeat (first | with_reducible exact Below.refl _ _ | with_reducible refine Below.drewN ?_ _ | with_reducible refine Below.setCell ?_ (by simp; try omega) _ | with_reducible refine Below.alloc ?_ (by simp; try omega) _))
    · skip
      cases c3 : decide (128 < a)
      rotate_left
      · skip
        clear hk
        go_enter Try.func143, Try.ntmps143
        go_wp2_with (first | (go_at_call 89; refine (isPositive_any _ _).mono ?_; rintro e w' ⟨rfl, q, rfl⟩))
        go_ret2
        refine criNo ?_
        (repeat (first | with_reducible exact Below.refl _ _ | with_reducible refine Below.drewN ?_ _ | with_reducible refine Below.setCell ?_ (by simp; try omega) _ | with_reducible refine Below.alloc ?_ (by simp; try omega) _))
      · skip
        cases c4 : decide (b < 0)
        rotate_left
        · skip
          clear hk
          go_enter Try.func143, Try.ntmps143
          go_wp2_with (first | (go_at_call 89; refine (isPositive_any _ _).mono ?_; rintro e w' ⟨rfl, q, rfl⟩))
          go_ret2
          refine criNo ?_
          (repeat (first | with_reducible exact Below.refl _ _ | with_reducible refine Below.drewN ?_ _ | with_reducible refine Below.setCell ?_ (by simp; try omega) _ | with_reducible refine Below.alloc ?_ (by simp; try omega) _))
        · skip
          cases c5 : decide (a < b)
          rotate_left
          · skip
            clear hk
            go_enter Try.func143, Try.ntmps143
            go_wp2_with (first | (go_at_call 89; refine (isPositive_any _ _).mono ?_; rintro e w' ⟨rfl, q, rfl⟩))
            go_ret2
            refine criNo ?_
            (repeat (first | with_reducible exact Below.refl _ _ | with_reducible refine Below.drewN ?_ _ | with_reducible refine Below.setCell ?_ (by simp; try omega) _ | with_reducible refine Below.alloc ?_ (by simp; try omega) _))
          · skip
            exfalso
            have h1 := of_decide_eq_false c2
            have h2 := of_decide_eq_false c3
            have h3 := of_decide_eq_false c4
            have h4 := of_decide_eq_false c5
            rw [okCri, c1, inB_yes (by omega) (by omega), inB_yes (by omega) (by omega)] at hk
            cases hk
set_option maxRecDepth 100000 in
set_option maxHeartbeats 3200000 in
theorem specCri_yes (r : Nat) (a b : Int) (w : World) (hk : okCri r a b = true) (N K Q L1 L2 D : Nat) (hN : Hid (N = floatOfInt .f32 a)) (hK : Hid (K = floatOfInt .f32 b)) (hQ : Hid (Q = fbin .quo .f32 r N)) (h1 : Hid (L1 = logT Q)) (h2 : Hid (L2 = logT N)) (hD : Hid (D = fbin .add .f32 (fbin .mul .f32 N L1) (fbin .mul .f32 K L2))) :
    Calls Try.prog 141 #[.float .f32 r, .int .i64 a, .int .i64 b] w (NRet (numQ D) (isFin .f32 D) w) := by
  have hh : (isFin .f32 r = true ∧ (FloatKind.f32.format.order r 0 == some .gt) = true) ∧ inB a 1 128 = true ∧ inB b 0 a = true := by
    unfold okCri isP at hk
    simpa only [Bool.and_eq_true] using hk
  obtain ⟨⟨f1, f2⟩, f3, f4⟩ := hh
  have hnQ : isNaN .f32 Q = false := by
    have hp : isP r = true := by unfold isP; rw [f1, f2]; rfl
    have ha := inB_rng f3
    rw [hQ.out, hN.out]
    refine nan_quo_pos (num_fin f1) ?_
    have H : ∀ j : Fin 128, isP (floatOfInt .f32 ((j.val : Int) + 1)) = true := by decide +kernel
    have := H ⟨(a - 1).toNat, by omega⟩
    rw [show (((a - 1).toNat : Nat) : Int) + 1 = a by omega] at this
    exact pos_read this
  have HL1 := Lib.hid (fun w => specLogT_any Q (by rw [hQ.out]; simpa [Lit.wf] using fbin_wf .quo .f32 r N) w)
  have HL2 := Lib.hid (fun w => specLogT_any N (by rw [hN.out]; exact int_lt a) w)
  rw [← h1.out] at HL1
  rw [← h2.out] at HL2
  have pQ := fun s => pick_num (s := s) hnQ
  have hp := fun op => fbin_pick_l op .f32
  have hq := fun op => fbin_pick_r op .f32
  have eN : floatOfInt .f32 a = N := hN.out.symm
  have eK : floatOfInt .f32 b = K := hK.out.symm
  have eQ : fbin .quo .f32 r N = Q := hQ.out.symm
  have eD : fbin .add .f32 (fbin .mul .f32 N L1) (fbin .mul .f32 K L2) = D := hD.out.symm
  have HY := Lib.hid (fun s w' hb => criYes (D := D) (s := s) (w := w) (w' := w') hb)
  clear hk hN hK hQ h1 h2 hD hnQ
  go_enter Try.func141, Try.ntmps141
  go_wp2_with (first | (first | ((with_reducible refine wpL_fbin ?_); refine ⟨_, _, _, rfl, rfl, rfl, fun s n => ?_⟩) | (go_at_call 94; refine (l01Finite_any _ _).mono ?_; rintro e w' ⟨rfl, q, rfl⟩) | (go_at_call 179; refine (l00In_any _ _ _ _).mono ?_; rintro e w' ⟨rfl, rfl⟩) | ((with_reducible refine wpL_fsame ?_); refine ⟨_, _, rfl, Option.isSome_iff_exists.2 ⟨_, Try.underlying22⟩, Try.underlying22, ?_⟩)) | (go_at_call 231; refine (HL1.out _).mono ?_; clear HL1; rintro e w' ⟨s', m', rfl, rfl⟩) | (go_at_call 231; refine (HL2.out _).mono ?_; clear HL2; rintro e w' ⟨s', m', rfl, rfl⟩) | (first | (go_at_call 186; refine (numS_any _ _ _).mono ?_; rintro e w' ⟨s', m', rfl, rfl⟩)) | go_in)
  go_ret2
  refine HY.out _ _ ?_
  (repeat (first | with_reducible exact Below.refl _ _ | with_reducible refine Below.drewN ?_ _ | with_reducible refine Below.setCell ?_ (by simp; try omega) _ | with_reducible refine Below.alloc ?_ (by simp; try omega) _))
set_option maxRecDepth 100000 in
set_option maxHeartbeats 3200000 in
theorem implCri_yes (r : Nat) (a b : Int) (w : World) (hk : okCri r a b = true) (N K Q L1 L2 D : Nat) (hN : Hid (N = floatOfInt .f32 a)) (hK : Hid (K = floatOfInt .f32 b)) (hQ : Hid (Q = fbin .quo .f32 r N)) (h1 : Hid (L1 = logT Q)) (h2 : Hid (L2 = logT N)) (hD : Hid (D = fbin .add .f32 (fbin .mul .f32 N L1) (fbin .mul .f32 K L2))) :
    Calls Try.prog 143 #[.float .f32 r, .int .i64 a, .int .i64 b] w (NRet (numQ D) (isFin .f32 D) w) := by
  have hh : isP r = true ∧ inB a 1 128 = true ∧ inB b 0 a = true := by
    unfold okCri at hk
    simpa only [Bool.and_eq_true] using hk
  obtain ⟨f1, f3, f4⟩ := hh
  have ha := inB_rng f3
  have hb := inB_rng f4
  have hnQ : isNaN .f32 Q = false := by
    rw [hQ.out, hN.out]
    refine nan_quo_pos (num_fin (isP_fin f1)) ?_
    have H : ∀ j : Fin 128, isP (floatOfInt .f32 ((j.val : Int) + 1)) = true := by decide +kernel
    have := H ⟨(a - 1).toNat, by omega⟩
    rw [show (((a - 1).toNat : Nat) : Int) + 1 = a by omega] at this
    exact pos_read this
  have d1 : decide (a < 1) = false := decide_eq_false (by omega)
  have d2 : decide (128 < a) = false := decide_eq_false (by omega)
  have d3 : decide (b < 0) = false := decide_eq_false (by omega)
  have d4 : decide (a < b) = false := decide_eq_false (by omega)
  have HL1 := Lib.hid (fun w => implLogT_any Q (by rw [hQ.out]; simpa [Lit.wf] using fbin_wf .quo .f32 r N) w)
  have HL2 := Lib.hid (fun w => implLogT_any N (by rw [hN.out]; exact int_lt a) w)
  rw [← h1.out] at HL1
  rw [← h2.out] at HL2
  have pQ := fun s => pick_num (s := s) hnQ
  have hp := fun op => fbin_pick_l op .f32
  have hq := fun op => fbin_pick_r op .f32
  have eN : floatOfInt .f32 a = N := hN.out.symm
  have eK : floatOfInt .f32 b = K := hK.out.symm
  have eQ : fbin .quo .f32 r N = Q := hQ.out.symm
  have eD : fbin .add .f32 (fbin .mul .f32 N L1) (fbin .mul .f32 K L2) = D := hD.out.symm
  have HY := Lib.hid (fun s w' hb => criYes (D := D) (s := s) (w := w) (w' := w') hb)
  clear hk hN hK hQ h1 h2 hD hnQ f3 f4 ha hb
  go_enter Try.func143, Try.ntmps143
  go_wp2_with (first | (first | ((with_reducible refine wpL_fbin ?_); refine ⟨_, _, _, rfl, rfl, rfl, fun s n => ?_⟩) | (go_at_call 89; refine (isPositive_any _ _).mono ?_; rintro e w' ⟨rfl, q, rfl⟩) | ((with_reducible refine wpL_fsame ?_); refine ⟨_, _, rfl, Option.isSome_iff_exists.2 ⟨_, Try.underlying22⟩, Try.underlying22, ?_⟩)) | (go_at_call 199; refine (HL1.out _).mono ?_; clear HL1; rintro e w' ⟨s', m', rfl, rfl⟩) | (go_at_call 199; refine (HL2.out _).mono ?_; clear HL2; rintro e w' ⟨s', m', rfl, rfl⟩) | (first | (go_at_call 115; refine (numI_any _ _ _).mono ?_; rintro e w' ⟨s', m', rfl, rfl⟩)) | go_in)
  go_ret2
  refine HY.out _ _ ?_
  (repeat (first | with_reducible exact Below.refl _ _ | with_reducible refine Below.drewN ?_ _ | with_reducible refine Below.setCell ?_ (by simp; try omega) _ | with_reducible refine Below.alloc ?_ (by simp; try omega) _))

end Go.Proofs.Ytmpcalpapkedhaa
