/- The tenths of decibels of any power: the program tells them just where the model does, and the same: for all arguments. -/
import Derived.Test.YtdoaajmojfdjoabTenP
import Derived.Test.YtdoaajmojfdjoabLiW
import Derived.Test.YtdoaajmojfdjoabFinW
import Derived.Test.YtdoaajmojfdjoabSubn
namespace Go.Proofs.Ytdoaajmojfdjoab
open Go Go.ChangeShapes Go.WideShapes Go.ChangeAt Go.RowKit

def PosFin (x : Nat) : Prop := ∃ m e, FloatKind.decode .f32 x = .number false m e ∧ m ≠ 0
theorem posFin_pl {x : Nat} (h : PosFin x) : Pl (fconv .f32 x .f64) 128 (-149) := by
  obtain ⟨m, e, hd, hm⟩ := h
  obtain ⟨m', e', hd', hv⟩ := widen_val hd
  obtain ⟨h1, h2, h3⟩ := read_single x false m e hd
  refine ⟨m', e', hd', ?_, ?_⟩
  · rw [hv]
    have a1 : (m : Rat) ≤ two 24 := by
      have : (24 : Int) = ((24 : Nat) : Int) := rfl
      rw [this, two_nat]; exact_mod_cast (by omega)
    have a2 : two 128 = two 24 * two 104 := by rw [← two_add]; rfl
    have b1 := Rat.mul_le_mul_of_nonneg_right a1 (Rat.le_of_lt (two_pos e))
    have b2 := Rat.mul_le_mul_of_nonneg_left (two_mono h3) (Rat.le_of_lt (two_pos 24))
    rw [a2]; exact Rat.le_trans b1 b2
  · rw [hv]
    have a1 : (1 : Rat) ≤ (m : Rat) := by exact_mod_cast (by omega : 1 ≤ m)
    have b1 := Rat.mul_le_mul_of_nonneg_right a1 (Rat.le_of_lt (two_pos e))
    have b2 := two_mono h2
    rw [Rat.one_mul] at b1
    exact Rat.le_trans b2 b1
theorem dec_max : FloatKind.decode .f64 9218868437227405311 = .number false 9007199254740991 971 := by decide +kernel
theorem pl_guards {Y : Nat} (h : Pl Y 128 (-149)) : (FloatKind.f64.format.order Y Y != some .eq) = false ∧ (FloatKind.f64.format.order Y 0 == some .lt) = false ∧ (FloatKind.f64.format.order Y 0 == some .eq) = false ∧ (FloatKind.f64.format.order Y 9218868437227405311 == some .gt) = false := by
  have hn := h.pb.bd.num
  obtain ⟨m, e, hd, hv, hw⟩ := h
  obtain ⟨_, _, o3⟩ := order_val hd dec0_64
  obtain ⟨p1, _, _⟩ := order_val hd dec_max
  have z : sval false 0 (-1074) = 0 := by decide +kernel
  have hp : 0 < sval false m e := by rw [sval_false]; have := two_pos (-149); grind
  rw [z] at o3
  have hmax : two 128 < sval false 9007199254740991 971 := by decide +kernel
  refine ⟨by rw [order_neq_self, hn], by rw [o3 hp]; rfl, by rw [o3 hp]; rfl, ?_⟩
  rw [p1 (by rw [sval_false m e]; grind)]; rfl

theorem posFin_of {x : Nat} (hf : isFin .f32 x = true) (h : (FloatKind.f32.format.order x 0 == some .lt || FloatKind.f32.format.order x 0 == some .eq) = false) : PosFin x := by
  cases hd : FloatKind.decode .f32 x with
  | nan => simp [isFin, hd, Ieee.Datum.isNaN] at hf
  | infinity s => simp [isFin, hd, Ieee.Datum.isInfinity] at hf
  | number s m e =>
    obtain ⟨o1, o2, o3⟩ := order_val hd dec0_32
    have z1 : sval false 0 (-149) = 0 := by decide +kernel
    rw [z1] at o1 o2 o3
    have hpos : 0 < sval s m e := by
      by_cases c1 : sval s m e < 0
      · rw [o1 c1] at h; cases h
      · by_cases c2 : sval s m e = 0
        · rw [o2 c2] at h; cases h
        · grind
    have hm : m ≠ 0 := by
      rintro rfl
      have : sval s 0 e = 0 := by
        unfold sval
        have h0 : ((0 : Nat) : Rat) = 0 := rfl
        cases s
        · simp only [Bool.false_eq_true, if_false]; rw [h0, Rat.zero_mul]
        · simp only [if_true]; rw [h0]; grind
      grind
    cases s with
    | false => exact ⟨m, e, hd, hm⟩
    | true =>
      exfalso
      have hp : 0 < (m : Rat) * two e := Rat.mul_pos (by exact_mod_cast (by omega : 0 < m)) (two_pos e)
      have : sval true m e < 0 := by unfold sval; simp only [if_true]; grind
      grind
/-- The answer. -/
def TenAns (x : Nat) (I : Int) : Prop := ∃ j i, First1 (fconv .f32 x .f64) j ∧ First2 (hv (fconv .f32 x .f64) j) i ∧ I = ipart (floorW (tenN (logQ (db (hv (fconv .f32 x .f64) j) i) ((j : Int) - i))))
theorem TenAns.uniq {x : Nat} {I I' : Int} (h : TenAns x I) (h' : TenAns x I') : I = I' := by
  obtain ⟨j, i, f1, f2, rfl⟩ := h
  obtain ⟨j', i', f1', f2', rfl⟩ := h'
  have ej := f1.uniq f1'
  subst ej
  have ei := f2.uniq f2'
  subst ei
  rfl
def RetT (x : Nat) (w : World) (e : Ending) (w' : World) : Prop := ∃ I n, TenAns x I ∧ e = .returned (.tuple #[.int .i64 I, .bool true]) ∧ w' = w.drewN n
def RetI (x : Nat) (w : World) (e : Ending) (w' : World) : Prop := ∃ I n, TenAns x I ∧ e = .returned (.int .i64 I) ∧ w' = w.drewN n
theorem ten_parts {Z : Nat} {j i : Nat} (h : Pl (db Z i) 1 (-149)) (hj : j ≤ 200) (hi : i ≤ 200) : Bd .f64 (logQ (db Z i) ((j : Int) - i)) 42 := bd_logQ2 h (by omega)
set_option maxHeartbeats 800000 in
theorem mathFloor_any (y : Nat) (w : World) (h : Bd .f64 y 49) : Calls Try.prog 73 #[.float .f64 y] w fun e w' => e = .returned (.float .f64 (floorW y)) ∧ w = w' := by
  have hr := run_floor h
  clear h
  go_enter Try.func73, Try.ntmps73
  go_wp2
  go_ret
  exact ⟨rfl, rfl⟩
set_option maxHeartbeats 1600000 in
theorem l01Tenths_any (x : Nat) (hx : PosFin x) (w : World) : Calls Try.prog 70 #[.float .f32 x] w (RetI x w) := by
  have hpl := posFin_pl hx
  have hpk : ∀ s, pick .f64 (fconv .f32 x .f64) s = fconv .f32 x .f64 := fun s => pick_num hpl.pb.bd.num s
  obtain ⟨g1, g2, g3, g4⟩ := pl_guards hpl
  have HP := Lib.hid (And.intro hpl (And.intro g1 (And.intro g2 (And.intro g3 g4))))
  obtain ⟨Y, hY⟩ : ∃ Y, fconv .f32 x .f64 = Y := ⟨_, rfl⟩
  have HY := Lib.hid hY
  rw [hY] at hpk
  clear hpl g1 g2 g3 g4 hx
  go_enter Try.func70, Try.ntmps70
  go_wp2_with ((with_reducible refine wpL_fconv ?_); refine ⟨_, _, _, rfl, Option.isSome_iff_exists.2 ⟨_, Try.underlying23⟩, Try.underlying28, FloatKind.noConfusion, convOk_widen _, fun s n => ?_⟩)
  clear hY
  refine (logWide_any Y (by rw [← HY.out]; exact HP.out.1) (by rw [← HY.out]; exact HP.out.2.1) (by rw [← HY.out]; exact HP.out.2.2.1) (by rw [← HY.out]; exact HP.out.2.2.2.1) (by rw [← HY.out]; exact HP.out.2.2.2.2) _).mono ?_
  rintro e w' ⟨j, i, s, q, f1, f2, rfl, rfl, hj, hi, hpl2⟩
  have hL := ten_parts hpl2 hj hi
  have HA := Lib.hid (show TenAns x (ipart (floorW (tenN (logQ (db (hv Y j) i) ((j : Int) - i))))) from ⟨j, i, by rw [HY.out]; exact f1, by rw [HY.out]; exact f2, by rw [HY.out]⟩)
  obtain ⟨L, hLe⟩ : ∃ L, L = logQ (db (hv Y j) i) ((j : Int) - i) := ⟨_, rfl⟩
  rw [← hLe] at hL HA ⊢
  clear hLe f1 f2 hpl2
  have k1 : ∀ s, pick .f64 L s = L := fun s => pick_num hL.num s
  have k2 : ∀ s, pick .f64 (fbin .mul .f64 L 4631308968768463603) s = fbin .mul .f64 L 4631308968768463603 := fun s => pick_num (bd_tenM hL).num s
  have k3 : ∀ s, pick .f64 (fbin .add .f64 (fbin .mul .f64 L 4631308968768463603) 4602678819172646912) s = tenN L := fun s => pick_num (bd_tenN hL).num s
  have k4 := floor_int (bd_tenN hL)
  have HB := Lib.hid (bd_tenN hL)
  clear hL
  go_wp2_with (first | ((with_reducible refine wpL_fbin ?_); refine ⟨_, _, _, rfl, rfl, rfl, fun s n => ?_⟩) | (go_at_call 73; refine (mathFloor_any _ _ HB.out).mono ?_; rintro e w' ⟨rfl, rfl⟩) | ((with_reducible refine wpL_ftoi ?_); refine ⟨_, _, _, _, rfl, Option.isSome_iff_exists.2 ⟨_, Try.underlying28⟩, Try.underlying2, k4, ?_⟩))
  go_ret
  exact ⟨_, _, HA.out, rfl, rfl⟩
theorem specTen_yes (x : Nat) (hx : PosFin x) (hf : isFin .f32 x = true) (h : (FloatKind.f32.format.order x 0 == some .lt || FloatKind.f32.format.order x 0 == some .eq) = false) (w : World) : Calls Try.prog 22 #[.float .f32 x] w (RetT x w) := by
  go_enter Try.func22, Try.ntmps22
  go_wp2_with (first | (go_at_call 69; refine (l01Finite_any _ _).mono ?_; rintro e w' ⟨rfl, q, rfl⟩) | (go_at_call 70; refine (l01Tenths_any x hx _).mono ?_; rintro e w' ⟨I, q, hI, rfl, rfl⟩))
  go_ret2
  exact ⟨I, _, hI, rfl, rfl⟩
set_option maxHeartbeats 1600000 in
theorem implTen_yes (x : Nat) (hx : PosFin x) (hf : isFin .f32 x = true) (h : (FloatKind.f32.format.order x 0 == some .lt || FloatKind.f32.format.order x 0 == some .eq) = false) (w : World) : Calls Try.prog 23 #[.float .f32 x] w (RetT x w) := by
  have hpl := posFin_pl hx
  have hpk : ∀ s, pick .f64 (fconv .f32 x .f64) s = fconv .f32 x .f64 := fun s => pick_num hpl.pb.bd.num s
  have HP := Lib.hid hpl
  obtain ⟨Y, hY⟩ : ∃ Y, fconv .f32 x .f64 = Y := ⟨_, rfl⟩
  have HY := Lib.hid hY
  rw [hY] at hpk
  clear hpl hx
  go_enter Try.func23, Try.ntmps23
  go_wp2_with (first | ((with_reducible refine wpL_fconv ?_); refine ⟨_, _, _, rfl, Option.isSome_iff_exists.2 ⟨_, Try.underlying23⟩, Try.underlying28, FloatKind.noConfusion, convOk_widen _, fun s n => ?_⟩) | (go_at_call 71; refine (IsFinite_any _ _).mono ?_; rintro e w' ⟨rfl, q, rfl⟩))
  clear hY
  refine (wideLog_any Y (by rw [← HY.out]; exact HP.out) _).mono ?_
  rintro e w' ⟨j, i, s, q, f1, f2, rfl, rfl, hj, hi, hpl2⟩
  have hL := ten_parts hpl2 hj hi
  have HA := Lib.hid (show TenAns x (ipart (floorW (tenN (logQ (db (hv Y j) i) ((j : Int) - i))))) from ⟨j, i, by rw [HY.out]; exact f1, by rw [HY.out]; exact f2, by rw [HY.out]⟩)
  obtain ⟨L, hLe⟩ : ∃ L, L = logQ (db (hv Y j) i) ((j : Int) - i) := ⟨_, rfl⟩
  rw [← hLe] at hL HA ⊢
  clear hLe f1 f2 hpl2
  have k1 : ∀ s, pick .f64 L s = L := fun s => pick_num hL.num s
  have k2 : ∀ s, pick .f64 (fbin .mul .f64 L 4631308968768463603) s = fbin .mul .f64 L 4631308968768463603 := fun s => pick_num (bd_tenM hL).num s
  have k3 : ∀ s, pick .f64 (fbin .add .f64 (fbin .mul .f64 L 4631308968768463603) 4602678819172646912) s = tenN L := fun s => pick_num (bd_tenN hL).num s
  have k4 := floor_int (bd_tenN hL)
  have HB := Lib.hid (bd_tenN hL)
  clear hL
  go_wp2_with (first | ((with_reducible refine wpL_fbin ?_); refine ⟨_, _, _, rfl, rfl, rfl, fun s n => ?_⟩) | (go_at_call 73; refine (mathFloor_any _ _ HB.out).mono ?_; rintro e w' ⟨rfl, rfl⟩) | ((with_reducible refine wpL_ftoi ?_); refine ⟨_, _, _, _, rfl, Option.isSome_iff_exists.2 ⟨_, Try.underlying28⟩, Try.underlying2, k4, ?_⟩))
  go_ret2
  exact ⟨_, _, HA.out, rfl, rfl⟩
theorem specTen_no (x : Nat) (h : isFin .f32 x = false ∨ (FloatKind.f32.format.order x 0 == some .lt || FloatKind.f32.format.order x 0 == some .eq) = true) (w : World) : Calls Try.prog 22 #[.float .f32 x] w fun e w' => e = .returned (.tuple #[.int .i64 0, .bool false]) ∧ ∃ n, w' = w.drewN n := by
  cases hf : isFin .f32 x
  · clear h
    go_enter Try.func22, Try.ntmps22
    go_wp2_with (go_at_call 69; refine (l01Finite_any _ _).mono ?_; rintro e w' ⟨rfl, q, rfl⟩)
    go_ret2
    exact ⟨rfl, _, rfl⟩
  · have h' : (FloatKind.f32.format.order x 0 == some .lt || FloatKind.f32.format.order x 0 == some .eq) = true := by
      rcases h with h | h
      · rw [hf] at h; cases h
      · exact h
    clear h
    go_enter Try.func22, Try.ntmps22
    go_wp2_with (go_at_call 69; refine (l01Finite_any _ _).mono ?_; rintro e w' ⟨rfl, q, rfl⟩)
    go_ret2
    exact ⟨rfl, _, rfl⟩
theorem implTen_no (x : Nat) (h : isFin .f32 x = false ∨ (FloatKind.f32.format.order x 0 == some .lt || FloatKind.f32.format.order x 0 == some .eq) = true) (w : World) : Calls Try.prog 23 #[.float .f32 x] w fun e w' => e = .returned (.tuple #[.int .i64 0, .bool false]) ∧ ∃ n, w' = w.drewN n := by
  cases hf : isFin .f32 x
  · clear h
    go_enter Try.func23, Try.ntmps23
    go_wp2_with (go_at_call 71; refine (IsFinite_any _ _).mono ?_; rintro e w' ⟨rfl, q, rfl⟩)
    go_ret2
    exact ⟨rfl, _, rfl⟩
  · have h' : (FloatKind.f32.format.order x 0 == some .lt || FloatKind.f32.format.order x 0 == some .eq) = true := by
      rcases h with h | h
      · rw [hf] at h; cases h
      · exact h
    clear h
    go_enter Try.func23, Try.ntmps23
    go_wp2_with (go_at_call 71; refine (IsFinite_any _ _).mono ?_; rintro e w' ⟨rfl, q, rfl⟩)
    go_ret2
    exact ⟨rfl, _, rfl⟩
set_option maxHeartbeats 800000 in
theorem lawTenthsOf_any (x : Nat) (_ : (Lit.float .f32 x).wf = true) (w : World) : Calls Try.prog 5 #[.float .f32 x] w fun e w' => e = .returned (.bool true) ∧ Grown w w' := by
  by_cases h : isFin .f32 x = true ∧ (FloatKind.f32.format.order x 0 == some .lt || FloatKind.f32.format.order x 0 == some .eq) = false
  · obtain ⟨hf, ho⟩ := h
    have hx := posFin_of hf ho
    go_enter Try.func5, Try.ntmps5
    go_wp2_with fail
    refine (specTen_yes x hx hf ho _).mono ?_
    rintro e w' ⟨I, q, hI, rfl, rfl⟩
    go_wp2_with fail
    refine (implTen_yes x hx hf ho _).mono ?_
    rintro e w' ⟨I', q2, hI', rfl, rfl⟩
    obtain rfl := hI'.uniq hI
    clear hI hI' ho
    go_wp2
    go_ret
    exact ⟨rfl, grown_drewN _ _⟩
  · have h' : isFin .f32 x = false ∨ (FloatKind.f32.format.order x 0 == some .lt || FloatKind.f32.format.order x 0 == some .eq) = true := by
      cases hf : isFin .f32 x
      · exact .inl rfl
      · cases ho : (FloatKind.f32.format.order x 0 == some .lt || FloatKind.f32.format.order x 0 == some .eq)
        · exact absurd ⟨hf, ho⟩ h
        · exact .inr rfl
    clear h
    have HH := Lib.hid h'
    clear h'
    go_enter Try.func5, Try.ntmps5
    go_wp2_with fail
    refine (specTen_no x HH.out _).mono ?_
    rintro e w' ⟨rfl, q, rfl⟩
    go_wp2_with fail
    refine (implTen_no x HH.out _).mono ?_
    rintro e w' ⟨rfl, q2, rfl⟩
    go_wp2
    go_ret
    exact ⟨rfl, grown_drewN _ _⟩
set_option maxRecDepth 100000 in
theorem FnExactTenthsOf_lifted (os : Os) (started : os.Started) (H : Type) (enc : TypeId × Value → H) :
    ReturnsInHanded {} Try.checked os 5 .any (Rows.fnExactTenthsOfSpec.pre6 enc Try.prog Try.f5 Rows.fnExactTenthsOfRow.domain false) (Rows.fnExactTenthsOfSpec.post enc Try.prog Try.f5 false true false false) := by
  refine returnsInHanded_of_change (C := Try.checked) ownKnob_none started (by kernel_rfl) Try.func5
    (ChangeSpec.witness6 (enc := enc) (C := Try.checked) false ⟨#[], #[.float .f32 0], []⟩ 8 (by kernel_rfl) (by kernel_rfl) (by kernel_rfl) (by kernel_rfl)) ?_
  intro W base args ds gs before hval0 hW _ _
  have hval : ∀ (j : Nat) t v, Try.f5.params[j]? = some t → args[j]? = some v → Value.okWide Try.prog W .any base t v := hval0
  have hW' := hW
  obtain ⟨p, q, hA0, hV, rfl, hfz, hnd⟩ := hW
  have hA : DataW.TrodAll enc Try.prog W 0 (fun _ => true) true Try.f5.params.toList args.toList ds p := hA0
  rw [Try.params5] at hA hval
  obtain ⟨v0, vs0, d0, ds0, p0, q0, hargs, rfl, rfl, h0, r0⟩ := trodAll_cons hA
  obtain ⟨rfl, rfl, rfl⟩ := trodAll_nil r0
  obtain rfl : args = #[v0] := by cases args; simp_all
  obtain ⟨rfl, rfl⟩ := trodVars_none hV
  obtain ⟨a0, rfl, rfl, rfl, w0⟩ := open_float Try.underlying23 (hval 0 23 v0 rfl rfl) h0
  clear hA0 hval0
  simp only [List.append_nil] at hW'
  refine (lawTenthsOf_any a0 w0 W).mono fun e W' ⟨he, hg⟩ => ?_
  subst he
  exact ⟨_, rfl, post_of_same (pa := []) (pv := []) hW' (fun _ _ _ => (trodAll_cons_mk (shut_bool Try.underlying4 _) trodAll_mk0)) (fun sp _ => (trodAll_cons_mk (shut_float Try.underlying23 w0) trodAll_mk0)) (fun _ _ => rfl) rfl
    (hg.frame _) hg.2.1 (ok_one (by kernel_rfl) rfl (okWide_bool_mk Try.underlying4 _))⟩
theorem FnExactTenthsOf_holds : Rows.FnExactTenthsOfSaid :=
  OpenClaim.holds_of_wide 5 Try.f5 rfl rfl rfl rfl rfl rfl rfl ⟨rfl, rfl, rfl, rfl, rfl⟩ rfl rfl rfl rfl rfl (by kernel_rfl) Try.func5 (by kernel_rfl)
    (of_decide_eq_true (by kernel_rfl)) (by unfold Func.isWrapper; first | (rw [if_pos (by decide +kernel)]; kernel_rfl) | (rw [if_neg (by decide +kernel)]; exact ⟨rfl, rfl⟩))
    (fun os started H enc _ => FnExactTenthsOf_lifted os started H enc)
end Go.Proofs.Ytdoaajmojfdjoab
