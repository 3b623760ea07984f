/- For all rows, and all numbers beside them and energies, the program counts the levels below just where the model does, and as many; the rows are not changed: for all arguments. -/
import Derived.Test.YtdoaajmojfdjoaaBelow
namespace Go.Proofs.Ytdoaajmojfdjoaa
open Go Go.ChangeShapes Go.WideShapes Go.ChangeAt Go.RowKit

/-- A number and a bool. -/
def PairRet (c : Nat) (ok : Bool) (w : World) (e : Ending) (w' : World) : Prop := e = .returned (.tuple #[.int .i64 (c : Int), .bool ok]) ∧ ∃ m, w' = w.drewN m
set_option maxHeartbeats 3200000 in
theorem specCount_yes (xa : Option Addr) (n cap : Nat) (X : Nat → Nat) (b E : Nat) (w : World) (hX : Rd w xa n X) (hok : rowsOk X n b = true) (hE : isFin .f32 E = true) :
    Calls Try.prog 44 #[.slice xa n cap, .float .f32 b, .float .f32 E] w (PairRet (cW X E b n) true w) := by
  obtain ⟨h1, h2⟩ := rowsOk_bounds hok
  go_enter Try.func44, Try.ntmps44
  go_wp2_with (first | (go_at_call 76; refine (l02Rows_any _ _ _ X b _ hX (by omega)).mono ?_; rintro e w' ⟨rfl, q, rfl⟩) | (go_at_call 54; refine (l01Finite_any _ _).mono ?_; rintro e w' ⟨rfl, q, rfl⟩) | (go_at_call 77; refine (l02Below_any _ _ _ X b E _ (by exact hX) h2).mono ?_; rintro e w' ⟨rfl, q, rfl⟩))
  go_ret2
  exact ⟨rfl, _, rfl⟩
theorem specCount_no1 (xa : Option Addr) (n cap : Nat) (X : Nat → Nat) (b E : Nat) (w : World) (hX : Rd w xa n X) (hn : n ≤ 1048576) (hok : rowsOk X n b = false) :
    Calls Try.prog 44 #[.slice xa n cap, .float .f32 b, .float .f32 E] w (PairRet 0 false w) := by
  go_enter Try.func44, Try.ntmps44
  go_wp2_with (first | (go_at_call 76; refine (l02Rows_any _ _ _ X b _ hX hn).mono ?_; rintro e w' ⟨rfl, q, rfl⟩))
  go_ret2
  exact ⟨rfl, _, rfl⟩
theorem specCount_no2 (xa : Option Addr) (n cap : Nat) (X : Nat → Nat) (b E : Nat) (w : World) (hX : Rd w xa n X) (hn : n ≤ 1048576) (hok : rowsOk X n b = true) (hE : isFin .f32 E = false) :
    Calls Try.prog 44 #[.slice xa n cap, .float .f32 b, .float .f32 E] w (PairRet 0 false w) := by
  go_enter Try.func44, Try.ntmps44
  go_wp2_with (first | (go_at_call 76; refine (l02Rows_any _ _ _ X b _ hX hn).mono ?_; rintro e w' ⟨rfl, q, rfl⟩) | (go_at_call 54; refine (l01Finite_any _ _).mono ?_; rintro e w' ⟨rfl, q, rfl⟩))
  go_ret2
  exact ⟨rfl, _, rfl⟩
theorem implCount_no1 (xa : Option Addr) (n cap : Nat) (X : Nat → Nat) (b E : Nat) (w : World) (hX : Rd w xa n X) (hn : n ≤ 1048576) (hok : rowsOk X n b = false) :
    Calls Try.prog 46 #[.slice xa n cap, .float .f32 b, .float .f32 E] w (PairRet 0 false w) := by
  go_enter Try.func46, Try.ntmps46
  go_wp2_with (first | (go_at_call 78; refine (validRows_any _ _ _ X b _ hX hn).mono ?_; rintro e w' ⟨rfl, q, rfl⟩))
  go_ret2
  exact ⟨rfl, _, rfl⟩
theorem implCount_no2 (xa : Option Addr) (n cap : Nat) (X : Nat → Nat) (b E : Nat) (w : World) (hX : Rd w xa n X) (hn : n ≤ 1048576) (hok : rowsOk X n b = true) (hE : isFin .f32 E = false) :
    Calls Try.prog 46 #[.slice xa n cap, .float .f32 b, .float .f32 E] w (PairRet 0 false w) := by
  go_enter Try.func46, Try.ntmps46
  go_wp2_with (first | (go_at_call 78; refine (validRows_any _ _ _ X b _ hX hn).mono ?_; rintro e w' ⟨rfl, q, rfl⟩) | (go_at_call 56; refine (IsFinite_any _ _).mono ?_; rintro e w' ⟨rfl, q, rfl⟩))
  go_ret2
  exact ⟨rfl, _, rfl⟩
set_option maxHeartbeats 3200000 in
theorem implCount_yes (xa : Option Addr) (n cap : Nat) (X : Nat → Nat) (b E : Nat) (w : World) (hX : Rd w xa n X) (hok : rowsOk X n b = true) (hE : isFin .f32 E = true) :
    Calls Try.prog 46 #[.slice xa n cap, .float .f32 b, .float .f32 E] w (PairRet (cW X E b n) true w) := by
  obtain ⟨h1, hn⟩ := rowsOk_bounds hok
  have hX0 := hX
  obtain ⟨xb, xo, hxa, hcx⟩ := hX
  have HX := Lib.hid hcx
  clear hcx
  go_enter Try.func46, Try.ntmps46
  go_wp2_with fail
  refine (validRows_any _ _ _ X b _ hX0 (by omega)).mono ?_
  rintro e w' ⟨rfl, q, rfl⟩
  go_wp2_with (go_at_call 56; refine (IsFinite_any _ _).mono ?_; rintro e w' ⟨rfl, q, rfl⟩)
  clear hX0
  go_loopw [8, 9, 23] (fun c q i wr => ∃ k m s : Nat, k ≤ n ∧ i = .int .i64 k ∧ wr = w.drewN m ∧ q = .float .f32 (pick .f32 (qW X E b k) s) ∧ c = .int .i64 (cW X E b k : Nat)) (fun _ _ i _ => n - (intOf i).toNat)
  case atStart => exact ⟨0, _, 0, Nat.zero_le _, rfl, rfl, by rw [show qW X E b 0 = 0 from rfl, show pick .f32 0 0 = 0 from pick_num (by decide +kernel) 0], rfl⟩
  case round =>
    obtain ⟨k, m, s, hk, rfl, rfl, rfl, rfl⟩ := hrel
    by_cases hlt : k < n
    · have e := hxa (by omega)
      subst e
      have h1 := HX.out k hlt
      have hC := cW_le X E b k
      have hp := fun op => fbin_pick_l op .f32
      have hr := fun op => fbin_pick_r op .f32
      have ho := order_pick_l .f32
      have hul := uz_lt
      obtain ⟨Q, hQ⟩ : ∃ Q, Q = qW X E b k := ⟨_, rfl⟩
      obtain ⟨Y, hY⟩ : ∃ Y, yW X E b k Q = Y := ⟨_, rfl⟩
      obtain ⟨C, hCe⟩ : ∃ C, C = cW X E b k := ⟨_, rfl⟩
      have HQ := Lib.hid hQ
      have HY := Lib.hid hY
      have HC := Lib.hid hCe
      rw [← hQ, ← hCe]
      rw [← hCe] at hC
      by_cases hk0 : k = 0
      · subst hk0
        have hy : fbin .sub .f32 (X 0) E = Y := hY
        rw [Nat.add_zero] at h1
        clear hQ hY hCe
        cases hz : (FloatKind.f32.format.order Y 0 == some .eq)
        · cases hl : (FloatKind.f32.format.order Y 0 == some .lt)
          · have HE := Lib.hid (q_same HQ.out HY.out hz hl)
            go_wp2_with (first | ((with_reducible refine wpL_fbin ?_); refine ⟨_, _, _, rfl, rfl, rfl, fun s n => ?_⟩) | (go_at_call 79; go_in))
            go_roundw
            case rel => exact ⟨1, _, _, by omega, by go_num, rfl, val_same _ HE.out.1.symm, val_cnt (by rw [HE.out.2, ← HC.out]; rfl)⟩
            case measure => simp [intOf]; omega
          · have HE := Lib.hid (q_same HQ.out HY.out hz hl)
            go_wp2_with (first | ((with_reducible refine wpL_fbin ?_); refine ⟨_, _, _, rfl, rfl, rfl, fun s n => ?_⟩) | (go_at_call 79; go_in))
            go_roundw
            case rel => exact ⟨1, _, _, by omega, by go_num, rfl, val_same _ HE.out.1.symm, val_cnt1 (by rw [HE.out.2, ← HC.out]; rfl)⟩
            case measure => simp [intOf]; omega
        · have HE := Lib.hid (q_const HQ.out HY.out hz)
          go_wp2_with (first | ((with_reducible refine wpL_fbin ?_); refine ⟨_, _, _, rfl, rfl, rfl, fun s n => ?_⟩) | (go_at_call 79; go_in))
          go_roundw
          case rel => exact ⟨1, _, 0, by omega, by go_num, rfl, val_const HE.out.1, val_cnt (by rw [HE.out.2, ← HC.out])⟩
          case measure => simp [intOf]; omega
      · have hy : fbin .sub .f32 (fbin .sub .f32 (X k) E) (fbin .quo .f32 (fbin .mul .f32 b b) Q) = Y := by rw [← hY, yW, if_neg hk0]
        have hkp : (0 : Int) < (k : Int) := by omega
        clear hQ hY hCe
        cases hz : (FloatKind.f32.format.order Y 0 == some .eq)
        · cases hl : (FloatKind.f32.format.order Y 0 == some .lt)
          · have HE := Lib.hid (q_same HQ.out HY.out hz hl)
            go_wp2_with (first | ((with_reducible refine wpL_fbin ?_); refine ⟨_, _, _, rfl, rfl, rfl, fun s n => ?_⟩) | (go_at_call 79; go_in))
            go_roundw
            case rel => exact ⟨k + 1, _, _, by omega, by go_num, rfl, val_same _ HE.out.1.symm, val_cnt (by rw [HE.out.2, ← HC.out]; rfl)⟩
            case measure => simp [intOf]; omega
          · have HE := Lib.hid (q_same HQ.out HY.out hz hl)
            go_wp2_with (first | ((with_reducible refine wpL_fbin ?_); refine ⟨_, _, _, rfl, rfl, rfl, fun s n => ?_⟩) | (go_at_call 79; go_in))
            go_roundw
            case rel => exact ⟨k + 1, _, _, by omega, by go_num, rfl, val_same _ HE.out.1.symm, val_cnt1 (by rw [HE.out.2, ← HC.out]; rfl)⟩
            case measure => simp [intOf]; omega
        · have HE := Lib.hid (q_const HQ.out HY.out hz)
          go_wp2_with (first | ((with_reducible refine wpL_fbin ?_); refine ⟨_, _, _, rfl, rfl, rfl, fun s n => ?_⟩) | (go_at_call 79; go_in))
          go_roundw
          case rel => exact ⟨k + 1, _, 0, by omega, by go_num, rfl, val_const HE.out.1, val_cnt (by rw [HE.out.2, ← HC.out])⟩
          case measure => simp [intOf]; omega
    · have hkn : k = n := by omega
      subst hkn
      go_wp2
      go_ret2
      exact ⟨rfl, m, rfl⟩
set_option maxHeartbeats 3200000 in
theorem lawCountBelow_any (W : World) (xa : Option Addr) (n cx : Nat) (X : Nat → Nat) (hX : Rd W xa n X) (b : Nat) (_ : (Lit.float .f32 b).wf = true) (E : Nat) (_ : (Lit.float .f32 E).wf = true) :
    Calls Try.prog 13 #[.slice xa n cx, .float .f32 b, .float .f32 E] W fun e w' => e = .returned (.bool true) ∧ Below W.heap.size W w' := by
  have HB := Blw.refl W
  by_cases h1 : n ≤ 1048576
  · obtain ⟨c, ok, hspec, himpl⟩ : ∃ c ok, (∀ xa cx w, Rd w xa n X → Calls Try.prog 44 #[.slice xa n cx, .float .f32 b, .float .f32 E] w (PairRet c ok w)) ∧ (∀ xa cx w, Rd w xa n X → Calls Try.prog 46 #[.slice xa n cx, .float .f32 b, .float .f32 E] w (PairRet c ok w)) := by
      cases h2 : rowsOk X n b
      · exact ⟨_, _, fun xa cx w h => specCount_no1 xa n cx X b E w h h1 h2, fun xa cx w h => implCount_no1 xa n cx X b E w h h1 h2⟩
      · cases h3 : isFin .f32 E
        · exact ⟨_, _, fun xa cx w h => specCount_no2 xa n cx X b E w h h1 h2 h3, fun xa cx w h => implCount_no2 xa n cx X b E w h h1 h2 h3⟩
        · exact ⟨_, _, fun xa cx w h => specCount_yes xa n cx X b E w h h2 h3, fun xa cx w h => implCount_yes xa n cx X b E w h h2 h3⟩
    have HS := Lib.hid hspec
    have HI := Lib.hid himpl
    clear hspec himpl
    go_enter Try.func13, Try.ntmps13
    go_wp2_with fail
    refine (toF_any _ _ _ _ _ (by exact hX) h1).mono ?_
    rintro e0 w0 ⟨rfl, O0, B0⟩
    have X1 := rd_copied O0
    replace hX := Rd.below (by exact hX) B0
    replace HB := Blw.next (by exact HB) B0
    clear O0 B0
    go_wp2_with fail
    refine (HS.out _ _ _ (by exact X1)).mono ?_
    rintro e0 w0 ⟨rfl, q, rfl⟩
    clear X1
    go_wp2_with fail
    refine (toF_any _ _ _ _ _ (by exact hX) h1).mono ?_
    rintro e0 w0 ⟨rfl, O0, B0⟩
    have X2 := rd_copied O0
    replace hX := Rd.below (by exact hX) B0
    replace HB := Blw.next (by exact HB) B0
    clear O0 B0
    go_wp2_with fail
    refine (HI.out _ _ _ (by exact X2)).mono ?_
    rintro e0 w0 ⟨rfl, q, rfl⟩
    go_wp2_with fail
    refine (toF_any _ _ _ _ _ (by exact hX) h1).mono ?_
    rintro e0 w0 ⟨rfl, O0, B0⟩
    have X3 := rd_copied O0
    replace hX := Rd.below (by exact hX) B0
    replace X2 := Rd.below (by exact X2) B0
    replace HB := Blw.next (by exact HB) B0
    clear O0 B0
    go_wp2_with fail
    refine (eqF_any _ _ _ _ _ X X _ (by exact X2) (by exact X3) h1 (fun _ _ => rfl)).mono ?_
    rintro e0 w0 ⟨rfl, q, rfl⟩
    go_wp2
    go_ret
    exact ⟨rfl, Blw.out (by exact HB)⟩
  · have h1' : (1048576 : Int) < (n : Int) := by omega
    go_enter Try.func13, Try.ntmps13
    go_wp2
    go_ret
    exact ⟨rfl, HB.out⟩
set_option maxRecDepth 100000 in
theorem FnExactCountBelow_lifted (os : Os) (started : os.Started) (H : Type) (enc : TypeId × Value → H) :
    ReturnsInHanded {} Try.checked os 13 .any (Rows.fnExactCountBelowSpec.pre6 enc Try.prog Try.f13 Rows.fnExactCountBelowRow.domain false) (Rows.fnExactCountBelowSpec.post enc Try.prog Try.f13 false true false false) := by
  refine returnsInHanded_of_change (C := Try.checked) ownKnob_none started (by kernel_rfl) Try.func13
    (ChangeSpec.witness6 (enc := enc) (C := Try.checked) false ⟨#[], #[.slice none 0 0, .float .f32 0, .float .f32 0], []⟩ 8 (by kernel_rfl) (by kernel_rfl) (by kernel_rfl) (by kernel_rfl)) ?_
  intro W base args ds gs before hval0 hW _ _
  have hval : ∀ (j : Nat) t v, Try.f13.params[j]? = some t → args[j]? = some v → Value.okWide Try.prog W .any base t v := hval0
  have hW' := hW
  obtain ⟨p, q, hA0, hV, rfl, _, _⟩ := hW
  have hA : DataW.TrodAll enc Try.prog W 0 (fun _ => true) true Try.f13.params.toList args.toList ds p := hA0
  rw [Try.params13] at hA hval
  obtain ⟨v0, v1, v2, d0, d1, d2, p0, p1, p2, rfl, rfl, rfl, h0, h1, h2⟩ := trodAll_three hA
  obtain ⟨rfl, rfl⟩ := trodVars_none hV
  obtain ⟨x0, n0, c0, rfl⟩ := okWide_slice Try.underlying22 (hval 0 22 v0 rfl rfl)
  have k0 := h0
  obtain ⟨_, _, a0, w0, _⟩ := open_f32s Try.underlying22 Try.underlying32 cellsF h0
  have b0 : ∀ x ∈ p0, x.block < W.heap.size := fun x hx => by have := hW'.lt x (by simp [hx]); simpa using this
  obtain ⟨a1, rfl, rfl, rfl, w1⟩ := open_float Try.underlying32 (hval 1 32 v1 rfl rfl) h1
  obtain ⟨a2, rfl, rfl, rfl, w2⟩ := open_float Try.underlying32 (hval 2 32 v2 rfl rfl) h2
  clear hA0 hval0
  refine (lawCountBelow_any W x0 n0 c0 a0 w0 a1 w1 a2 w2).mono fun e W' ⟨he, hb⟩ => ?_
  subst he
  have hA2 := trodAll_mk3 (Below.trod laidOut (by kernel_rfl) (of_decide_eq_true (by kernel_rfl)) k0 hb b0) (shut_float Try.underlying32 w1) (shut_float Try.underlying32 w2)
  exact ⟨_, rfl, _, _, _, [], _, [], hW', trodAll_cons_mk (shut_bool Try.underlying4 _) trodAll_mk0, hA2, rfl, hb.frame _, fun h => by cases h⟩
theorem FnExactCountBelow_holds : Rows.FnExactCountBelowSaid :=
  OpenClaim.holds_of_wide 13 Try.f13 rfl rfl rfl rfl rfl rfl rfl ⟨rfl, rfl, rfl, rfl, rfl⟩ rfl rfl rfl rfl rfl (by kernel_rfl) Try.func13 (by kernel_rfl)
    (of_decide_eq_true (by kernel_rfl)) (by unfold Func.isWrapper; first | (rw [if_pos (by decide +kernel)]; kernel_rfl) | (rw [if_neg (by decide +kernel)]; exact ⟨rfl, rfl⟩))
    (fun os started H enc _ => FnExactCountBelow_lifted os started H enc)
end Go.Proofs.Ytdoaajmojfdjoaa
