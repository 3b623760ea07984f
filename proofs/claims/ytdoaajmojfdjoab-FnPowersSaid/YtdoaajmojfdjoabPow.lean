/- For any bytes, powers and logarithms lead to one another, nearly, and products are powers of sums, nearly: for all arguments. -/
import Derived.Test.YtdoaajmojfdjoabPowM
import Derived.Test.YtdoaajmojfdjoabByt
namespace Go.Proofs.Ytdoaajmojfdjoab
open Go Go.ChangeShapes Go.WideShapes Go.ChangeAt Go.RowKit

def NumX (X : Nat) (w : World) (e : Ending) (w' : World) : Prop := e = .returned (.float .f32 X) ∧ ∃ n, w' = w.drewN n
theorem val_one64 : Value.float .f64 4607182418800017408 = .float .f64 (pick .f64 4607182418800017408 0) := by rw [pick_num (by decide +kernel)]
theorem val_eq64 {a b s : Nat} (h : a = b) : Value.float .f64 (pick .f64 a s) = .float .f64 (pick .f64 b s) := by rw [h]
set_option maxRecDepth 100000 in
set_option maxHeartbeats 1600000 in
theorem Exp_any (x : Nat) (hx : okX x = true) (w : World) : Calls Try.prog 57 #[.float .f32 x] w (NumX (expV x) w) := by
  simp only [okX, Bool.and_eq_true, Bool.not_eq_true'] at hx
  obtain ⟨⟨⟨⟨h1, h2⟩, h3⟩, h4⟩, h5⟩ := hx
  have hc : convOk .f64 (expWd x) .f32 := .inr (.inr h5)
  have hn : isNaN .f32 (expV x) = false := by unfold expV; rw [isNaN_fconv, h4]
  have HO := Lib.hid (fun s => convOk_pick (t := s) hc)
  have HN := Lib.hid (show ∀ s, pick .f32 (expV x) s = expV x from fun s => pick_num hn s)
  have hp := fbin_pick_l
  have hr := fbin_pick_r
  obtain ⟨T, hT⟩ : ∃ T, T = expT x := ⟨_, rfl⟩
  have hT' : fbin .quo .f64 (fconv .f32 x .f64) 4643211215818981376 = T := hT.symm
  have HW := Lib.hid (show expWd x = sqP (pR T 12) 8 by rw [hT]; rfl)
  clear h3 h4 h5 hc hn hT
  go_enter Try.func57, Try.ntmps57
  go_wp2_with (first | ((with_reducible refine wpL_fconv ?_); refine ⟨_, _, _, rfl, Option.isSome_iff_exists.2 ⟨_, Try.underlying23⟩, Try.underlying28, FloatKind.noConfusion, convOk_widen _, fun s n => ?_⟩) | ((with_reducible refine wpL_fbin ?_); refine ⟨_, _, _, rfl, rfl, rfl, fun s n => ?_⟩))
  clear hT' h1 h2
  go_loopw [4, 5] (fun p i wr => ∃ c m s : Nat, c ≤ 12 ∧ i = .int .i64 (12 - (c : Int)) ∧ wr = w.drewN m ∧ p = .float .f64 (pick .f64 (pR T c) s)) (fun _ i _ => (intOf i).toNat)
  case atStart => exact ⟨0, _, 0, by omega, rfl, rfl, val_one64⟩
  case round =>
    obtain ⟨c, m, s, hc, rfl, rfl, rfl⟩ := hrel
    by_cases hlt : c < 12
    · have hge : (1 : Int) ≤ 12 - (c : Int) := by omega
      obtain ⟨P, hP⟩ : ∃ P, P = pR T c := ⟨_, rfl⟩
      have HP := Lib.hid (show pR T (c + 1) = fbin .add .f64 4607182418800017408 (fbin .quo .f64 (fbin .mul .f64 T P) (floatOfInt .f64 (12 - (c : Int)))) by rw [hP]; rfl)
      rw [← hP]
      clear hP
      go_wp2_with ((with_reducible refine wpL_fbin ?_); refine ⟨_, _, _, rfl, rfl, rfl, fun s n => ?_⟩)
      go_roundw
      case rel => exact ⟨c + 1, _, _, by omega, by go_num, rfl, val_eq64 (by rw [HP.out])⟩
      case measure => simp [intOf]; omega
    · have hc12 : c = 12 := by omega
      rw [show (12 : Int) - (c : Int) = 0 by omega]
      subst hc12
      obtain ⟨P, hP⟩ : ∃ P, P = pR T 12 := ⟨_, rfl⟩
      rw [← hP]
      have HP := Lib.hid hP
      clear hP hlt hc
      go_wp2
      go_loopw [4, 26] (fun p i wr => ∃ c m s : Nat, c ≤ 8 ∧ i = .int .i64 (c : Int) ∧ wr = w.drewN m ∧ p = .float .f64 (pick .f64 (sqP P c) s)) (fun _ i _ => 8 - (intOf i).toNat)
      case atStart => exact ⟨0, m, s, by omega, rfl, rfl, rfl⟩
      case round =>
        obtain ⟨d, m2, s2, hd, rfl, rfl, rfl⟩ := hrel
        by_cases hlt : d < 8
        · obtain ⟨Q, hQ⟩ : ∃ Q, Q = sqP P d := ⟨_, rfl⟩
          have HQ := Lib.hid (show sqP P (d + 1) = fbin .mul .f64 Q Q by rw [hQ]; rfl)
          rw [← hQ]
          clear hQ
          go_wp2_with ((with_reducible refine wpL_fbin ?_); refine ⟨_, _, _, rfl, rfl, rfl, fun s n => ?_⟩)
          go_roundw
          case rel => exact ⟨d + 1, _, _, by omega, by go_num, rfl, val_eq64 (by rw [HQ.out])⟩
          case measure => simp [intOf]; omega
        · have hd8 : d = 8 := by omega
          subst hd8
          have HE := Lib.hid (show sqP P 8 = expWd x by rw [HW.out, HP.out])
          rw [HE.out]
          have hf := fun X s => fconv_pick .f64 X s .f32
          have hv : fconv .f64 (expWd x) .f32 = expV x := rfl
          have hk := HN.out
          go_wp2_with (first | ((with_reducible refine wpL_fconv ?_); refine ⟨_, _, _, rfl, Option.isSome_iff_exists.2 ⟨_, Try.underlying28⟩, Try.underlying23, FloatKind.noConfusion, HO.out _, fun s n => ?_⟩) | (go_at_call 99; go_in))
          go_ret
          exact ⟨rfl, _, rfl⟩
theorem Exp_at (x A : Nat) (hx : okX x = true) (hA : expV x = A) (w : World) : Calls Try.prog 57 #[.float .f32 x] w (NumX A w) := hA ▸ Exp_any x hx w
theorem b10At_at (xa : Option Addr) (n cap : Nat) (C : Nat → Int) (i : Nat) (I : Int) (hI : (i : Int) = I) (m : Int) (w : World) (hX : RdB w xa n C) (hi : i ≤ 1000) (hm : 2 ≤ m) (hm2 : m ≤ 100000) :
    Calls Try.prog 47 #[.slice xa n cap, .int .i64 I, .int .i64 m] w (BRet m w) := hI ▸ b10At_any xa n cap C i m w hX hi hm hm2
theorem b10Long_no (xa ya : Option Addr) (n m c d : Nat) (w : World) (hn : n ≤ 1048576) (hm : m ≤ 1048576) : Calls Try.prog 46 #[.slice xa n c, .slice ya m d] w fun e w' => e = .returned (.bool false) ∧ w = w' := by
  have d1 : decide ((1048576 : Int) < (n : Int)) = false := decide_eq_false (by omega)
  have d2 : decide ((1048576 : Int) < (m : Int)) = false := decide_eq_false (by omega)
  go_enter Try.func46, Try.ntmps46
  go_wp2
  go_ret
  exact ⟨rfl, rfl⟩
theorem b10Long_yes (xa ya : Option Addr) (n m c d : Nat) (w : World) (h : 1048576 < n ∨ 1048576 < m) : Calls Try.prog 46 #[.slice xa n c, .slice ya m d] w fun e w' => e = .returned (.bool true) ∧ w = w' := by
  by_cases h1 : 1048576 < n
  · have d1 : decide ((1048576 : Int) < (n : Int)) = true := decide_eq_true (by omega)
    clear h
    go_enter Try.func46, Try.ntmps46
    go_wp2
    go_ret
    exact ⟨rfl, rfl⟩
  · have d1 : decide ((1048576 : Int) < (n : Int)) = false := decide_eq_false (by omega)
    have d2 : decide ((1048576 : Int) < (m : Int)) = true := decide_eq_true (by omega)
    clear h
    go_enter Try.func46, Try.ntmps46
    go_wp2
    go_ret
    exact ⟨rfl, rfl⟩
def GapRet (a b : Nat) (w : World) (e : Ending) (w' : World) : Prop := ∃ s n, e = .returned (.float .f64 (pick .f64 (gapW a b) s)) ∧ w' = w.drewN n
theorem b10Gap_any (a b : Nat) (w : World) : Calls Try.prog 58 #[.float .f64 a, .float .f64 b] w (GapRet a b w) := by
  cases h : (FloatKind.f64.format.order a b == some .lt)
  · have H := Lib.hid (show gapW a b = fbin .sub .f64 a b by simp [gapW, h])
    go_enter Try.func58, Try.ntmps58
    go_wp2_with ((with_reducible refine wpL_fbin ?_); refine ⟨_, _, _, rfl, rfl, rfl, fun s n => ?_⟩)
    go_ret
    exact ⟨_, _, by rw [H.out]; rfl, rfl⟩
  · have H := Lib.hid (show gapW a b = fbin .sub .f64 b a by simp [gapW, h])
    go_enter Try.func58, Try.ntmps58
    go_wp2_with ((with_reducible refine wpL_fbin ?_); refine ⟨_, _, _, rfl, rfl, rfl, fun s n => ?_⟩)
    go_ret
    exact ⟨_, _, by rw [H.out]; rfl, rfl⟩
theorem gapW_l (a s b : Nat) : gapW (pick .f64 a s) b = gapW a b := by simp only [gapW, order_pick_l, fbin_pick_l, fbin_pick_r]
theorem gapW_r (a b s : Nat) : gapW a (pick .f64 b s) = gapW a b := by simp only [gapW, order_pick_r, fbin_pick_l, fbin_pick_r]
theorem eT_lt (v : Nat) (hv : v < 129) : eT v < 4294967296 := by
  have : ∀ v : Nat, v < 129 → eT v < 4294967296 := by decide +kernel
  exact this v hv
set_option maxRecDepth 100000 in
set_option maxHeartbeats 6400000 in
theorem lawPow_any (W : World) (xa : Option Addr) (n c : Nat) (C : Nat → Int) (hX : RdB W xa n C) (_hn : n ≤ maxLen) (ya : Option Addr) (m d : Nat) (D : Nat → Int) (hY : RdB W ya m D) (_hm : m ≤ maxLen) :
    Calls Try.prog 13 #[.slice xa n c, .slice ya m d] W fun e w' => e = .returned (.bool true) ∧ Below W.heap.size W w' := by
  by_cases hs : n ≤ 1048576 ∧ m ≤ 1048576
  · obtain ⟨h1, h2⟩ := hs
    go_enter Try.func13, Try.ntmps13
    go_wp2_with fail
    refine (b10Long_no _ _ _ _ _ _ _ h1 h2).mono ?_
    rintro e0 w0 ⟨rfl, rfl⟩
    go_wp2_with fail
    refine (b10At_at _ _ _ C 0 0 rfl 65 _ hX (by omega) (by omega) (by omega)).mono ?_
    rintro e0 w0 ⟨v, hv, rfl, rfl⟩
    have hv' : v < 65 := by omega
    obtain ⟨k1, k2⟩ := okTab (v + 32) (by omega)
    rw [show (((v + 32 : Nat) : Int) - 64) = (v : Int) - 32 by omega] at k1 k2
    have hp1 : ∀ s, pick .f32 (fbin .quo .f32 (floatOfInt .f32 ((v : Int) - 32)) 1090519040) s = xW ((v : Int) - 32) := fun s => by
      have hq := k1
      simp only [okX, Bool.and_eq_true, Bool.not_eq_true'] at hq
      exact pick_num hq.1.1.2 s
    go_wp2_with ((with_reducible refine wpL_fbin ?_); refine ⟨_, _, _, rfl, rfl, rfl, fun s n => ?_⟩)
    refine (b10At_at _ _ _ D 0 0 rfl 65 _ (by exact hY) (by omega) (by omega) (by omega)).mono ?_
    rintro e0 w0 ⟨u, hu, rfl, rfl⟩
    have hu' : u < 65 := by omega
    obtain ⟨l1, l2⟩ := okTab (u + 32) (by omega)
    rw [show (((u + 32 : Nat) : Int) - 64) = (u : Int) - 32 by omega] at l1 l2
    have hp2 : ∀ s, pick .f32 (fbin .quo .f32 (floatOfInt .f32 ((u : Int) - 32)) 1090519040) s = xW ((u : Int) - 32) := fun s => by
      have hq := l1
      simp only [okX, Bool.and_eq_true, Bool.not_eq_true'] at hq
      exact pick_num hq.1.1.2 s
    obtain ⟨m1, m2⟩ := okTab (v + u) (by omega)
    have hp3 : ∀ s, pick .f32 (fbin .add .f32 (xW ((v : Int) - 32)) (xW ((u : Int) - 32))) s = xW (((v + u : Nat) : Int) - 64) := fun s => by
      rw [addTab v hv' u hu']
      have hq := m1
      simp only [okX, Bool.and_eq_true, Bool.not_eq_true'] at hq
      exact pick_num hq.1.1.2 s
    obtain ⟨t1, t2, t3⟩ := logTab v hv'
    have t4 := mulTab v hv' u hu'
    have b1 := eT_lt (v + 32) (by omega)
    have HK := Lib.hid (And.intro k1 (And.intro k2 (And.intro l1 (And.intro l2 (And.intro m1 m2)))))
    have HT := Lib.hid (And.intro t1 (And.intro t2 (And.intro t3 (And.intro t4 b1))))
    clear k1 k2 l1 l2 m1 m2 t1 t2 t3 t4 b1
    generalize xW ((v : Int) - 32) = X1 at *
    generalize xW ((u : Int) - 32) = X2 at *
    generalize xW (((v + u : Nat) : Int) - 64) = X3 at *
    obtain ⟨E0, hE0⟩ : ∃ E0, E0 = expV 0 := ⟨_, rfl⟩
    have hx0 := exp0
    rw [← hE0] at hx0
    have HE0 := Lib.hid hE0
    clear hE0
    obtain ⟨lk, hl1⟩ := log1
    have HL1 := Lib.hid lk
    obtain ⟨Z1, hZ1⟩ : ∃ Z1, Z1 = logV 1065353216 := ⟨_, rfl⟩
    rw [← hZ1] at hl1
    have HZ1 := Lib.hid hZ1
    clear hZ1 lk
    go_wp2_with (first | ((with_reducible refine wpL_fbin ?_); refine ⟨_, _, _, rfl, rfl, rfl, fun s n => ?_⟩) | (go_at_call 57; (with_reducible refine (Exp_at X1 _ HK.out.1 HK.out.2.1 _).mono ?_); rintro e0 w0 ⟨rfl, q, rfl⟩) | (go_at_call 57; (with_reducible refine (Exp_at X2 _ HK.out.2.2.1 HK.out.2.2.2.1 _).mono ?_); rintro e0 w0 ⟨rfl, q, rfl⟩) | (go_at_call 57; (with_reducible refine (Exp_at X3 _ HK.out.2.2.2.2.1 HK.out.2.2.2.2.2 _).mono ?_); rintro e0 w0 ⟨rfl, q, rfl⟩))
    obtain ⟨t1, c1, c3, c2', b1⟩ := HT.out
    have c2 : (FloatKind.f64.format.order (gapW (fbin .mul .f64 (fconv .f32 (eT (v + 32)) .f64) (fconv .f32 (eT (u + 32)) .f64)) (fconv .f32 (eT (v + u)) .f64)) (fbin .mul .f64 4562254508917369340 (fconv .f32 (eT (v + u)) .f64)) == some .lt) = true := c2'
    have HA := Lib.hid (logV_ans t1)
    clear c2' t1
    obtain ⟨Z0, hZ0⟩ : ∃ Z0, Z0 = logV (eT (v + 32)) := ⟨_, rfl⟩
    rw [← hZ0] at c1 HA
    clear hZ0
    refine (implLog_any _ b1 _).mono ?_
    rintro e0 w0 ⟨L, s0, q0, hans, rfl, rfl⟩
    obtain rfl : L = Z0 := hans.uniq HA.out
    clear hans b1
    generalize eT (v + 32) = A at *
    generalize eT (u + 32) = B at *
    generalize eT (v + u) = D3 at *
    have hf1 := fun X s => fconv_pick .f32 X s .f64
    have hgl := gapW_l
    have hgr := gapW_r
    have hpl := fbin_pick_l
    have hpr := fbin_pick_r
    have hol := order_pick_l .f64
    have hor := order_pick_r .f64
    have hol2 := order_pick_l .f32
    go_wp2_with (first | ((with_reducible refine wpL_fconv ?_); refine ⟨_, _, _, rfl, Option.isSome_iff_exists.2 ⟨_, Try.underlying23⟩, Try.underlying28, FloatKind.noConfusion, convOk_widen _, fun s n => ?_⟩) | ((with_reducible refine wpL_fconv_g ?_); refine ⟨rfl, _, _, _, rfl, Option.isSome_iff_exists.2 ⟨_, Try.underlying23⟩, Try.underlying28, FloatKind.noConfusion, convOk_widen _, fun s n => ?_⟩) | ((with_reducible refine wpL_fbin ?_); refine ⟨_, _, _, rfl, rfl, rfl, fun s n => ?_⟩) | ((with_reducible refine wpL_fbin_g ?_); refine ⟨rfl, _, _, _, rfl, rfl, rfl, fun s n => ?_⟩) | (go_at_call 58; refine (b10Gap_any _ _ _).mono ?_; rintro e0 w0 ⟨s, q, rfl, rfl⟩) | (go_at_call 57; refine (Exp_at 0 E0 ok0 HE0.out.symm _).mono ?_; rintro e0 w0 ⟨rfl, q, rfl⟩) | (go_at_call 59; refine (implLog_any _ (by decide) _).mono ?_; rintro e0 w0 ⟨L1, s1, q1, hans, rfl, rfl⟩; obtain rfl : L1 = Z1 := (LogAns.uniq hans (logV_ans HL1.out)).trans HZ1.out.symm; clear hans))
    go_ret
    exact ⟨rfl, Below.drewN (Below.refl _ _) _⟩
  · have h : 1048576 < n ∨ 1048576 < m := by omega
    go_enter Try.func13, Try.ntmps13
    go_wp2_with fail
    refine (b10Long_yes _ _ _ _ _ _ _ h).mono ?_
    rintro e0 w0 ⟨rfl, rfl⟩
    go_wp2
    go_ret
    exact ⟨rfl, Below.refl _ _⟩
set_option maxRecDepth 100000 in
theorem FnPowers_lifted (os : Os) (started : os.Started) (H : Type) (enc : TypeId × Value → H) :
    ReturnsInHanded {} Try.checked os 13 .any (Rows.fnPowersSpec.pre6 enc Try.prog Try.f13 Rows.fnPowersRow.domain false) (Rows.fnPowersSpec.post enc Try.prog Try.f13 false true false false) := by
  refine returnsInHanded_of_change (C := Try.checked) ownKnob_none started (by kernel_rfl) Try.func13
    (ChangeSpec.witness6 (enc := enc) (C := Try.checked) false ⟨#[], #[.slice none 0 0, .slice none 0 0], []⟩ 8 (by kernel_rfl) (by kernel_rfl) (by kernel_rfl) (by kernel_rfl)) ?_
  intro W base args ds gs before hval0 hW _ _
  have hval : ∀ (j : Nat) t v, Try.f13.params[j]? = some t → args[j]? = some v → Value.okWide Try.prog W .any base t v := hval0
  have hW' := hW
  obtain ⟨p, q, hA0, hV, rfl, _, _⟩ := hW
  have hA : DataW.TrodAll enc Try.prog W 0 (fun _ => true) true Try.f13.params.toList args.toList ds p := hA0
  rw [Try.params13] at hA hval
  obtain ⟨v0, v1, d0, d1, p0, p1, rfl, rfl, rfl, h0, h1⟩ := trodAll_two hA
  obtain ⟨rfl, rfl⟩ := trodVars_none hV
  obtain ⟨x0, n0, c0, rfl⟩ := okWide_slice Try.underlying44 (hval 0 44 v0 rfl rfl)
  have k0 := h0
  obtain ⟨lc0, cm0, a0, w0⟩ := open_bytes Try.underlying44 Try.underlying5 cellsB h0
  have b0 : ∀ x ∈ p0, x.block < W.heap.size := fun x hx => by have := hW'.lt x (by simp [hx]); simpa using this
  obtain ⟨x1, n1, c1, rfl⟩ := okWide_slice Try.underlying44 (hval 1 44 v1 rfl rfl)
  have k1 := h1
  obtain ⟨lc1, cm1, a1, w1⟩ := open_bytes Try.underlying44 Try.underlying5 cellsB h1
  have b1 : ∀ x ∈ p1, x.block < W.heap.size := fun x hx => by have := hW'.lt x (by simp [hx]); simpa using this
  clear hA0 hval0
  refine (lawPow_any W x0 n0 c0 a0 w0 (Nat.le_trans lc0 cm0) x1 n1 c1 a1 w1 (Nat.le_trans lc1 cm1)).mono fun e W' ⟨he, hb⟩ => ?_
  subst he
  have hA2 := trodAll_mk2 (enc := enc) (w := W') (base := 0) (spare := fun b => decide (b < W.heap.size)) (held := true) (Below.trod laidOut (by kernel_rfl) (of_decide_eq_true (by kernel_rfl)) k0 hb b0) (Below.trod laidOut (by kernel_rfl) (of_decide_eq_true (by kernel_rfl)) k1 hb b1)
  exact ⟨_, rfl, _, _, _, [], _, [], hW', trodAll_cons_mk (shut_bool Try.underlying4 _) trodAll_mk0, hA2, rfl, hb.frame _, fun h => by cases h⟩
theorem FnPowers_holds : Rows.FnPowersSaid :=
  OpenClaim.holds_of_wide 13 Try.f13 rfl rfl rfl rfl rfl rfl rfl ⟨rfl, rfl, rfl, rfl, rfl⟩ rfl rfl rfl rfl rfl (by kernel_rfl) Try.func13 (by kernel_rfl)
    (of_decide_eq_true (by kernel_rfl)) (by unfold Func.isWrapper; first | (rw [if_pos (by decide +kernel)]; kernel_rfl) | (rw [if_neg (by decide +kernel)]; exact ⟨rfl, rfl⟩))
    (fun os started H enc _ => FnPowers_lifted os started H enc)
end Go.Proofs.Ytdoaajmojfdjoab
