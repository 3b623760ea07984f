/- For all numbers the program tells the sine at which an order goes out just where the model does, and the same: for all arguments. -/
import Derived.Test.YtfnapaijfdiflaaSame
import Derived.Test.YtfnapaijfdiflaaPushS
import Derived.Test.YtfnapaijfdiflaaGtz
import Derived.Test.YtfnapaijfdiflaaPq
import Derived.Test.YtfnapaijfdiflaaNu5
import Derived.Test.YtfnapaijfdiflaaIn
import Derived.Test.YtfnapaijfdiflaaLaw
namespace Go.Proofs.Ytfnapaijfdiflaa
open Go Go.ChangeShapes Go.WideShapes Go.ChangeAt Go.RowKit

def groD (w g s : Nat) (k : Int) : Nat := fbin .sub .f32 (fbin .quo .f32 (fbin .mul .f32 (floatOfInt .f32 k) w) g) s
def okGro (w g s : Nat) (k : Int) : Bool := (isP w && isP g) && (isFin .f32 s && inB k (-100) 100)
theorem ord_fin {k : Int} (h1 : -100 ≤ k) (h2 : k ≤ 100) : isFin .f32 (floatOfInt .f32 k) = true := by
  have H : ∀ j : Fin 201, isFin .f32 (floatOfInt .f32 ((j.val : Int) - 100)) = true := by decide +kernel
  have := H ⟨(k + 100).toNat, by omega⟩
  rw [show (((k + 100).toNat : Nat) : Int) - 100 = k by omega] at this
  exact this
theorem groD_num {w g s : Nat} {k : Int} (h : okGro w g s k = true) : isNaN .f32 (groD w g s k) = false := by
  unfold okGro at h
  simp only [Bool.and_eq_true] at h
  have hr := inB_rng h.2.2
  exact nan_sub (nan_quo_pos (nan_mul (ord_fin hr.1 hr.2) (isP_fin h.1.1)) (pos_read h.1.2)) h.2.1
theorem m1_num : isNaN .f32 3212836864 = false := by decide +kernel
theorem p1_num : isNaN .f32 1065353216 = false := by decide +kernel
/-- Whether it is a sine. -/
def in1 (D : Nat) : Bool := (FloatKind.f32.format.order D 3212836864 == some .gt || FloatKind.f32.format.order D 3212836864 == some .eq) && (FloatKind.f32.format.order D 1065353216 == some .lt || FloatKind.f32.format.order D 1065353216 == some .eq)
set_option maxRecDepth 100000 in
set_option maxHeartbeats 3200000 in
theorem specGro_no (x g t : Nat) (k : Int) (w : World) (hk : okGro x g t k = false) : Calls Try.prog 15 #[.float .f32 x, .float .f32 g, .float .f32 t, .int .i64 k] w (NRet 0 false w) := by
  cases c1 : isP x
  · skip
    clear hk
    go_enter Try.func15, Try.ntmps15
    go_wp2_with (first | (go_at_call 48; refine (l01Finite_any _ _).mono ?_; rintro e w' ⟨rfl, q, rfl⟩) | (go_at_call 47; refine (l02Above_any _ _).mono ?_; rintro e w' ⟨rfl, q, rfl⟩) | (go_at_call 49; refine (l00In_any _ _ _ _).mono ?_; rintro e w' ⟨rfl, rfl⟩))
    go_ret2
    refine ⟨0, by rw [pick_nul]; rfl, ?_⟩
    (repeat (first | with_reducible exact Below.refl _ _ | with_reducible refine Below.drewN ?_ _ | with_reducible refine Below.setCell ?_ (by simp; try omega) _ | with_reducible refine Below.alloc ?_ (by simp; try omega) _))
  · skip
    cases c2 : isP g
    · skip
      clear hk
      go_enter Try.func15, Try.ntmps15
      go_wp2_with (first | (go_at_call 48; refine (l01Finite_any _ _).mono ?_; rintro e w' ⟨rfl, q, rfl⟩) | (go_at_call 47; refine (l02Above_any _ _).mono ?_; rintro e w' ⟨rfl, q, rfl⟩) | (go_at_call 49; refine (l00In_any _ _ _ _).mono ?_; rintro e w' ⟨rfl, rfl⟩))
      go_ret2
      refine ⟨0, by rw [pick_nul]; rfl, ?_⟩
      (repeat (first | with_reducible exact Below.refl _ _ | with_reducible refine Below.drewN ?_ _ | with_reducible refine Below.setCell ?_ (by simp; try omega) _ | with_reducible refine Below.alloc ?_ (by simp; try omega) _))
    · skip
      cases c3 : isFin .f32 t
      · skip
        clear hk
        go_enter Try.func15, Try.ntmps15
        go_wp2_with (first | (go_at_call 48; refine (l01Finite_any _ _).mono ?_; rintro e w' ⟨rfl, q, rfl⟩) | (go_at_call 47; refine (l02Above_any _ _).mono ?_; rintro e w' ⟨rfl, q, rfl⟩) | (go_at_call 49; refine (l00In_any _ _ _ _).mono ?_; rintro e w' ⟨rfl, rfl⟩))
        go_ret2
        refine ⟨0, by rw [pick_nul]; rfl, ?_⟩
        (repeat (first | with_reducible exact Below.refl _ _ | with_reducible refine Below.drewN ?_ _ | with_reducible refine Below.setCell ?_ (by simp; try omega) _ | with_reducible refine Below.alloc ?_ (by simp; try omega) _))
      · skip
        cases c4 : inB k (-100) 100
        · skip
          clear hk
          go_enter Try.func15, Try.ntmps15
          go_wp2_with (first | (go_at_call 48; refine (l01Finite_any _ _).mono ?_; rintro e w' ⟨rfl, q, rfl⟩) | (go_at_call 47; refine (l02Above_any _ _).mono ?_; rintro e w' ⟨rfl, q, rfl⟩) | (go_at_call 49; refine (l00In_any _ _ _ _).mono ?_; rintro e w' ⟨rfl, rfl⟩))
          go_ret2
          refine ⟨0, by rw [pick_nul]; rfl, ?_⟩
          (repeat (first | with_reducible exact Below.refl _ _ | with_reducible refine Below.drewN ?_ _ | with_reducible refine Below.setCell ?_ (by simp; try omega) _ | with_reducible refine Below.alloc ?_ (by simp; try omega) _))
        · skip
          exfalso
          simp [okGro, *] at hk
set_option maxRecDepth 100000 in
set_option maxHeartbeats 3200000 in
theorem implGro_no (x g t : Nat) (k : Int) (w : World) (hk : okGro x g t k = false) : Calls Try.prog 16 #[.float .f32 x, .float .f32 g, .float .f32 t, .int .i64 k] w (NRet 0 false w) := by
  have hf := pL_two x g
  cases c1 : pL (duo x g) 2
  · skip
    clear hk hf
    go_enter Try.func16, Try.ntmps16
    go_wp2_with (first | (go_at_call 52; refine (IsFinite_any _ _).mono ?_; rintro e w' ⟨rfl, q, rfl⟩) | (go_at_call 51; refine (areGtz_any _ _ _ (duo _ _) _ (by exact rd_two' _ _ _ _ (by simp)) (by omega)).mono ?_; rintro e w' ⟨rfl, q, rfl⟩))
    go_ret2
    refine ⟨0, by rw [pick_nul]; rfl, ?_⟩
    (repeat (first | with_reducible exact Below.refl _ _ | with_reducible refine Below.drewN ?_ _ | with_reducible refine Below.setCell ?_ (by simp; try omega) _ | with_reducible refine Below.alloc ?_ (by simp; try omega) _))
  · skip
    cases c2 : isFin .f32 t
    · skip
      clear hk hf
      go_enter Try.func16, Try.ntmps16
      go_wp2_with (first | (go_at_call 52; refine (IsFinite_any _ _).mono ?_; rintro e w' ⟨rfl, q, rfl⟩) | (go_at_call 51; refine (areGtz_any _ _ _ (duo _ _) _ (by exact rd_two' _ _ _ _ (by simp)) (by omega)).mono ?_; rintro e w' ⟨rfl, q, rfl⟩))
      go_ret2
      refine ⟨0, by rw [pick_nul]; rfl, ?_⟩
      (repeat (first | with_reducible exact Below.refl _ _ | with_reducible refine Below.drewN ?_ _ | with_reducible refine Below.setCell ?_ (by simp; try omega) _ | with_reducible refine Below.alloc ?_ (by simp; try omega) _))
    · skip
      cases c3 : decide (k < -100)
      rotate_left
      · skip
        clear hk hf
        go_enter Try.func16, Try.ntmps16
        go_wp2_with (first | (go_at_call 52; refine (IsFinite_any _ _).mono ?_; rintro e w' ⟨rfl, q, rfl⟩) | (go_at_call 51; refine (areGtz_any _ _ _ (duo _ _) _ (by exact rd_two' _ _ _ _ (by simp)) (by omega)).mono ?_; rintro e w' ⟨rfl, q, rfl⟩))
        go_ret2
        refine ⟨0, by rw [pick_nul]; rfl, ?_⟩
        (repeat (first | with_reducible exact Below.refl _ _ | with_reducible refine Below.drewN ?_ _ | with_reducible refine Below.setCell ?_ (by simp; try omega) _ | with_reducible refine Below.alloc ?_ (by simp; try omega) _))
      · skip
        cases c4 : decide (100 < k)
        rotate_left
        · skip
          clear hk hf
          go_enter Try.func16, Try.ntmps16
          go_wp2_with (first | (go_at_call 52; refine (IsFinite_any _ _).mono ?_; rintro e w' ⟨rfl, q, rfl⟩) | (go_at_call 51; refine (areGtz_any _ _ _ (duo _ _) _ (by exact rd_two' _ _ _ _ (by simp)) (by omega)).mono ?_; rintro e w' ⟨rfl, q, rfl⟩))
          go_ret2
          refine ⟨0, by rw [pick_nul]; rfl, ?_⟩
          (repeat (first | with_reducible exact Below.refl _ _ | with_reducible refine Below.drewN ?_ _ | with_reducible refine Below.setCell ?_ (by simp; try omega) _ | with_reducible refine Below.alloc ?_ (by simp; try omega) _))
        · skip
          exfalso
          have h1 := of_decide_eq_false c3
          have h2 := of_decide_eq_false c4
          rw [okGro, ← hf, c1, c2, inB_yes (by omega) (by omega)] at hk
          cases hk
theorem groNo {a b : Bool} {D : Nat} {w : World} (h : (a && b) = false) (w' : World) (hb : Below w.heap.size w w') : NRet (if (a && b) = true then D else 0) (a && b) w (.returned (.tuple #[.float .f32 0, .bool false])) w' := by
  rw [h]
  exact ⟨0, by rw [if_neg (by simp), pick_nul], hb⟩
set_option maxRecDepth 100000 in
set_option maxHeartbeats 3200000 in
theorem specGro_yes (x g t : Nat) (k : Int) (w : World) (hk : okGro x g t k = true) (D : Nat) (a b : Bool) (hD : Hid (D = groD x g t k))
    (ha : Hid (a = (FloatKind.f32.format.order D 3212836864 == some .gt || FloatKind.f32.format.order D 3212836864 == some .eq))) (hb : Hid (b = (FloatKind.f32.format.order D 1065353216 == some .lt || FloatKind.f32.format.order D 1065353216 == some .eq))) :
    Calls Try.prog 15 #[.float .f32 x, .float .f32 g, .float .f32 t, .int .i64 k] w (NRet (if (a && b) = true then D else 0) (a && b) w) := by
  have h1 : (isP x = true ∧ isP g = true) ∧ isFin .f32 t = true ∧ inB k (-100) 100 = true := by simpa [okGro] using hk
  obtain ⟨⟨h1, h2⟩, h3, h4⟩ := h1
  clear hk
  have hp := fun op => fbin_pick_l op .f32
  have ho1 := order_pick_l .f32
  have eD : fbin .sub .f32 (fbin .quo .f32 (fbin .mul .f32 (floatOfInt .f32 k) x) g) t = D := hD.out.symm
  have ha' := ha.out.symm
  have hb' := hb.out.symm
  clear ha hb hD
  cases a
  · have HN := Lib.hid (fun w' hb => groNo (a := false) (b := b) (D := D) (w := w) (by simp) w' hb)
    go_enter Try.func15, Try.ntmps15
    go_wp2_with (first | (first | ((with_reducible refine wpL_fbin ?_); refine ⟨_, _, _, rfl, rfl, rfl, fun s n => ?_⟩) | (go_at_call 48; refine (l01Finite_any _ _).mono ?_; rintro e w' ⟨rfl, q, rfl⟩) | (go_at_call 47; refine (l02Above_any _ _).mono ?_; rintro e w' ⟨rfl, q, rfl⟩) | (go_at_call 49; refine (l00In_any _ _ _ _).mono ?_; rintro e w' ⟨rfl, rfl⟩) | ((with_reducible refine wpL_fsame ?_); refine ⟨_, _, rfl, Option.isSome_iff_exists.2 ⟨_, Try.underlying22⟩, Try.underlying22, ?_⟩)) | go_in)
    go_ret2
    refine HN.out _ ?_
    (repeat (first | with_reducible exact Below.refl _ _ | with_reducible refine Below.drewN ?_ _ | with_reducible refine Below.setCell ?_ (by simp; try omega) _ | with_reducible refine Below.alloc ?_ (by simp; try omega) _))
  · cases b
    · have HN := Lib.hid (fun w' hb => groNo (a := true) (b := false) (D := D) (w := w) (by simp) w' hb)
      go_enter Try.func15, Try.ntmps15
      go_wp2_with (first | (first | ((with_reducible refine wpL_fbin ?_); refine ⟨_, _, _, rfl, rfl, rfl, fun s n => ?_⟩) | (go_at_call 48; refine (l01Finite_any _ _).mono ?_; rintro e w' ⟨rfl, q, rfl⟩) | (go_at_call 47; refine (l02Above_any _ _).mono ?_; rintro e w' ⟨rfl, q, rfl⟩) | (go_at_call 49; refine (l00In_any _ _ _ _).mono ?_; rintro e w' ⟨rfl, rfl⟩) | ((with_reducible refine wpL_fsame ?_); refine ⟨_, _, rfl, Option.isSome_iff_exists.2 ⟨_, Try.underlying22⟩, Try.underlying22, ?_⟩)) | go_in)
      go_ret2
      refine HN.out _ ?_
      (repeat (first | with_reducible exact Below.refl _ _ | with_reducible refine Below.drewN ?_ _ | with_reducible refine Below.setCell ?_ (by simp; try omega) _ | with_reducible refine Below.alloc ?_ (by simp; try omega) _))
    · have HN := Lib.hid (fun s w' hb => (⟨s, rfl, hb⟩ : NRet (if (true && true) = true then D else 0) (true && true) w (.returned (.tuple #[.float .f32 (pick .f32 D s), .bool true])) w'))
      go_enter Try.func15, Try.ntmps15
      go_wp2_with (first | (first | ((with_reducible refine wpL_fbin ?_); refine ⟨_, _, _, rfl, rfl, rfl, fun s n => ?_⟩) | (go_at_call 48; refine (l01Finite_any _ _).mono ?_; rintro e w' ⟨rfl, q, rfl⟩) | (go_at_call 47; refine (l02Above_any _ _).mono ?_; rintro e w' ⟨rfl, q, rfl⟩) | (go_at_call 49; refine (l00In_any _ _ _ _).mono ?_; rintro e w' ⟨rfl, rfl⟩) | ((with_reducible refine wpL_fsame ?_); refine ⟨_, _, rfl, Option.isSome_iff_exists.2 ⟨_, Try.underlying22⟩, Try.underlying22, ?_⟩)) | go_in)
      go_ret2
      refine HN.out _ _ ?_
      (repeat (first | with_reducible exact Below.refl _ _ | with_reducible refine Below.drewN ?_ _ | with_reducible refine Below.setCell ?_ (by simp; try omega) _ | with_reducible refine Below.alloc ?_ (by simp; try omega) _))
set_option maxRecDepth 100000 in
set_option maxHeartbeats 3200000 in
theorem implGro_yes (x g t : Nat) (k : Int) (w : World) (hk : okGro x g t k = true) (D : Nat) (a b : Bool) (hD : Hid (D = groD x g t k))
    (ha : Hid (a = (FloatKind.f32.format.order D 3212836864 == some .gt || FloatKind.f32.format.order D 3212836864 == some .eq))) (hb : Hid (b = (FloatKind.f32.format.order D 1065353216 == some .lt || FloatKind.f32.format.order D 1065353216 == some .eq))) :
    Calls Try.prog 16 #[.float .f32 x, .float .f32 g, .float .f32 t, .int .i64 k] w (NRet (if (a && b) = true then D else 0) (a && b) w) := by
  have h1 : (isP x = true ∧ isP g = true) ∧ isFin .f32 t = true ∧ inB k (-100) 100 = true := by simpa [okGro] using hk
  obtain ⟨⟨h1, h2⟩, h3, h4⟩ := h1
  have hn := groD_num hk
  rw [← hD.out] at hn
  have hr := inB_rng h4
  have hf : pL (duo x g) 2 = true := by rw [pL_two, h1, h2]; rfl
  have d1 : decide (k < -100) = false := decide_eq_false (by omega)
  have d2 : decide (100 < k) = false := decide_eq_false (by omega)
  have hp := fun op => fbin_pick_l op .f32
  have ho1 := order_pick_l .f32
  have eD : fbin .sub .f32 (fbin .quo .f32 (fbin .mul .f32 (floatOfInt .f32 k) x) g) t = D := hD.out.symm
  have ha' : (FloatKind.f32.format.order D 3212836864 == some .lt) = !a := by rw [ha.out, geq_of hn m1_num, Bool.not_not]
  have hb' : (FloatKind.f32.format.order D 1065353216 == some .gt) = !b := by rw [hb.out, leq_of hn p1_num, Bool.not_not]
  clear ha hb hD hk h1 h2 h4 hr hn
  cases a
  · have HN := Lib.hid (fun w' hb => groNo (a := false) (b := b) (D := D) (w := w) (by simp) w' hb)
    clear hb'
    rw [Bool.not_false] at ha'
    go_enter Try.func16, Try.ntmps16
    go_wp2_with (first | (first | ((with_reducible refine wpL_fbin ?_); refine ⟨_, _, _, rfl, rfl, rfl, fun s n => ?_⟩) | (go_at_call 52; refine (IsFinite_any _ _).mono ?_; rintro e w' ⟨rfl, q, rfl⟩) | (go_at_call 51; refine (areGtz_any _ _ _ (duo _ _) _ (by exact rd_two' _ _ _ _ (by simp)) (by omega)).mono ?_; rintro e w' ⟨rfl, q, rfl⟩) | ((with_reducible refine wpL_fsame ?_); refine ⟨_, _, rfl, Option.isSome_iff_exists.2 ⟨_, Try.underlying22⟩, Try.underlying22, ?_⟩)) | go_in)
    go_ret2
    refine HN.out _ ?_
    (repeat (first | with_reducible exact Below.refl _ _ | with_reducible refine Below.drewN ?_ _ | with_reducible refine Below.setCell ?_ (by simp; try omega) _ | with_reducible refine Below.alloc ?_ (by simp; try omega) _))
  · rw [Bool.not_true] at ha'
    cases b
    · have HN := Lib.hid (fun w' hb => groNo (a := true) (b := false) (D := D) (w := w) (by simp) w' hb)
      rw [Bool.not_false] at hb'
      go_enter Try.func16, Try.ntmps16
      go_wp2_with (first | (first | ((with_reducible refine wpL_fbin ?_); refine ⟨_, _, _, rfl, rfl, rfl, fun s n => ?_⟩) | (go_at_call 52; refine (IsFinite_any _ _).mono ?_; rintro e w' ⟨rfl, q, rfl⟩) | (go_at_call 51; refine (areGtz_any _ _ _ (duo _ _) _ (by exact rd_two' _ _ _ _ (by simp)) (by omega)).mono ?_; rintro e w' ⟨rfl, q, rfl⟩) | ((with_reducible refine wpL_fsame ?_); refine ⟨_, _, rfl, Option.isSome_iff_exists.2 ⟨_, Try.underlying22⟩, Try.underlying22, ?_⟩)) | go_in)
      go_ret2
      refine HN.out _ ?_
      (repeat (first | with_reducible exact Below.refl _ _ | with_reducible refine Below.drewN ?_ _ | with_reducible refine Below.setCell ?_ (by simp; try omega) _ | with_reducible refine Below.alloc ?_ (by simp; try omega) _))
    · have HN := Lib.hid (fun s w' hb => (⟨s, rfl, hb⟩ : NRet (if (true && true) = true then D else 0) (true && true) w (.returned (.tuple #[.float .f32 (pick .f32 D s), .bool true])) w'))
      rw [Bool.not_true] at hb'
      go_enter Try.func16, Try.ntmps16
      go_wp2_with (first | (first | ((with_reducible refine wpL_fbin ?_); refine ⟨_, _, _, rfl, rfl, rfl, fun s n => ?_⟩) | (go_at_call 52; refine (IsFinite_any _ _).mono ?_; rintro e w' ⟨rfl, q, rfl⟩) | (go_at_call 51; refine (areGtz_any _ _ _ (duo _ _) _ (by exact rd_two' _ _ _ _ (by simp)) (by omega)).mono ?_; rintro e w' ⟨rfl, q, rfl⟩) | ((with_reducible refine wpL_fsame ?_); refine ⟨_, _, rfl, Option.isSome_iff_exists.2 ⟨_, Try.underlying22⟩, Try.underlying22, ?_⟩)) | go_in)
      go_ret2
      refine HN.out _ _ ?_
      (repeat (first | with_reducible exact Below.refl _ _ | with_reducible refine Below.drewN ?_ _ | with_reducible refine Below.setCell ?_ (by simp; try omega) _ | with_reducible refine Below.alloc ?_ (by simp; try omega) _))
/-- What is told of GratingOut. -/
def RetGratingOut (r0 : Nat) (r1 : Bool) (w : World) (e : Ending) (w' : World) : Prop := ∃ (s0 : Nat), e = .returned (.tuple #[.float .f32 (pick .f32 r0 s0), .bool r1]) ∧ Below w.heap.size w w'
theorem bothGratingOut (x : Nat) (_ : (Lit.float .f32 x).wf = true) (g : Nat) (_ : (Lit.float .f32 g).wf = true) (t : Nat) (_ : (Lit.float .f32 t).wf = true) (k : Int) (_ : (Lit.int .i64 k).wf = true) : ∃ (r : Nat) (ok : Bool),
    (∀ (w : World), Calls Try.prog 15 #[.float .f32 x, .float .f32 g, .float .f32 t, .int .i64 k] w (RetGratingOut r ok w)) ∧ ∀ (w : World), Calls Try.prog 16 #[.float .f32 x, .float .f32 g, .float .f32 t, .int .i64 k] w (RetGratingOut r ok w) := by
  cases hk : okGro x g t k
  · exact ⟨0, false, fun w => specGro_no x g t k w hk, fun w => implGro_no x g t k w hk⟩
  · exact ⟨_, _, fun w => specGro_yes x g t k w hk _ _ _ (Lib.hid rfl) (Lib.hid rfl) (Lib.hid rfl), fun w => implGro_yes x g t k w hk _ _ _ (Lib.hid rfl) (Lib.hid rfl) (Lib.hid rfl)⟩
set_option maxRecDepth 100000 in
set_option maxHeartbeats 6400000 in
theorem lawGratingOut_in (W : World) (a0 : Nat) (_wf0 : (Lit.float .f32 a0).wf = true) (a1 : Nat) (_wf1 : (Lit.float .f32 a1).wf = true) (a2 : Nat) (_wf2 : (Lit.float .f32 a2).wf = true) (a3 : Int) (_wf3 : (Lit.int .i64 a3).wf = true)  (r0 : Nat) (r1 : Bool) (HS : Hid (∀  (w : World),  Calls Try.prog 15 #[.float .f32 a0, .float .f32 a1, .float .f32 a2, .int .i64 a3] w (RetGratingOut r0 r1 w))) (HI : Hid (∀  (w : World),  Calls Try.prog 16 #[.float .f32 a0, .float .f32 a1, .float .f32 a2, .int .i64 a3] w (RetGratingOut r0 r1 w))) :
    Calls Try.prog 3 #[.float .f32 a0, .float .f32 a1, .float .f32 a2, .int .i64 a3] W fun e w' => e = .returned (.bool true) ∧ Below W.heap.size W w' := by
  have hcv := fun (R : Nat) (s t : Nat) => show canon .f64 (pick .f64 (fconv .f32 (pick .f32 R s) .f64) t) = canon .f64 (fconv .f32 R .f64) by rw [canon_pick, fconv_pick]
  have hcw := fun (R : Nat) (s t : Nat) => show canon .f64 (pick .f64 R s) = canon .f64 (pick .f64 R t) by rw [canon_pick, canon_pick]
  have HCV := Lib.hid hcv
  have HCW := Lib.hid hcw
  clear hcv hcw
  have hnb1 : (r1 != r1) = false := by simp
  have HB := Blw.refl W
  go_enter Try.func3, Try.ntmps3
  go_wp2_with fail
  refine (HS.out  _ ).mono ?_
  rintro e0 w1 ⟨sw0, rfl, B0⟩
  replace HB := Blw.next (by exact HB) B0
  clear B0
  have HL := Blw.refl w1
  have Eg := (Blw.out (by exact HL)).size
  go_wp2_with fail
  refine (HI.out  _ ).mono ?_
  rintro e0 w2 ⟨sg0, rfl, B0⟩
  replace HL := Blw.next (by exact HL) B0
  clear B0
  go_wp2_with (first | ((with_reducible refine wpL_fconv ?_); refine ⟨_, _, _, rfl, Option.isSome_iff_exists.2 ⟨_, Try.underlying22⟩, Try.underlying26, FloatKind.noConfusion, convOk_widen _, fun s n => ?_⟩) | ((with_reducible refine wpL_fconv_g ?_); refine ⟨rfl, _, _, _, rfl, Option.isSome_iff_exists.2 ⟨_, Try.underlying22⟩, Try.underlying26, FloatKind.noConfusion, convOk_widen _, fun s n => ?_⟩))
  refine (sameFloat_any _ _ _ ((HCV.out _ _ _).trans (HCV.out _ _ _).symm)).mono ?_
  rintro e0 w0 ⟨rfl, q, rfl⟩
  go_wp2
  go_ret
  exact ⟨rfl, (Blw.out (by exact HB)).trans ((Blw.out (by exact HL)).mono (Blw.out (by exact HB)).size)⟩
set_option maxHeartbeats 1600000 in
theorem lawGratingOut_any (W : World) (a0 : Nat) (_wf0 : (Lit.float .f32 a0).wf = true) (a1 : Nat) (_wf1 : (Lit.float .f32 a1).wf = true) (a2 : Nat) (_wf2 : (Lit.float .f32 a2).wf = true) (a3 : Int) (_wf3 : (Lit.int .i64 a3).wf = true) :
    Calls Try.prog 3 #[.float .f32 a0, .float .f32 a1, .float .f32 a2, .int .i64 a3] W fun e w' => e = .returned (.bool true) ∧ Below W.heap.size W w' := by
  obtain ⟨r0, r1, hs, hi⟩ := bothGratingOut a0 _wf0 a1 _wf1 a2 _wf2 a3 _wf3
  exact lawGratingOut_in W a0 _wf0 a1 _wf1 a2 _wf2 a3 _wf3  r0 r1 (Lib.hid hs) (Lib.hid hi)
set_option maxRecDepth 100000 in
theorem FnExactGratingOut_lifted (os : Os) (started : os.Started) (H : Type) (enc : TypeId × Value → H) :
    ReturnsInHanded {} Try.checked os 3 .any (Rows.fnExactGratingOutSpec.pre6 enc Try.prog Try.f3 Rows.fnExactGratingOutRow.domain false) (Rows.fnExactGratingOutSpec.post enc Try.prog Try.f3 false true false false) := by
  refine returnsInHanded_of_change (C := Try.checked) ownKnob_none started (by kernel_rfl) Try.func3
    (ChangeSpec.witness6 (enc := enc) (C := Try.checked) false ⟨#[], #[.float .f32 0, .float .f32 0, .float .f32 0, .int .i64 0], []⟩ 8 (by kernel_rfl) (by kernel_rfl) (by kernel_rfl) (by kernel_rfl)) ?_
  intro W base args ds gs before hval0 hW _ _
  have hval : ∀ (j : Nat) t v, Try.f3.params[j]? = some t → args[j]? = some v → Value.okWide Try.prog W .any base t v := hval0
  have hW' := hW
  obtain ⟨p, q, hA0, hV, rfl, _, _⟩ := hW
  have hA : DataW.TrodAll enc Try.prog W 0 (fun _ => true) true Try.f3.params.toList args.toList ds p := hA0
  rw [Try.params3] at hA hval
  obtain ⟨v0, v1, v2, v3, d0, d1, d2, d3, p0, p1, p2, p3, rfl, rfl, rfl, h0, h1, h2, h3⟩ := trodAll_four hA
  obtain ⟨rfl, rfl⟩ := trodVars_none hV
  obtain ⟨a0, rfl, rfl, rfl, w0⟩ := open_float Try.underlying22 (hval 0 22 v0 rfl rfl) h0
  obtain ⟨a1, rfl, rfl, rfl, w1⟩ := open_float Try.underlying22 (hval 1 22 v1 rfl rfl) h1
  obtain ⟨a2, rfl, rfl, rfl, w2⟩ := open_float Try.underlying22 (hval 2 22 v2 rfl rfl) h2
  obtain ⟨a3, rfl, rfl, rfl, w3⟩ := open_int Try.underlying2 (hval 3 2 v3 rfl rfl) h3
  clear hA0 hval0
  refine (lawGratingOut_any W a0 w0 a1 w1 a2 w2 a3 w3).mono fun e W' ⟨he, hb⟩ => ?_
  subst he
  have hA2 := trodAll_mk4 (enc := enc) (w := W') (base := 0) (spare := fun b => decide (b < W.heap.size)) (held := true) (shut_float Try.underlying22 w0) (shut_float Try.underlying22 w1) (shut_float Try.underlying22 w2) (shut_int Try.underlying2 w3)
  exact ⟨_, rfl, _, _, _, [], _, [], hW', trodAll_cons_mk (shut_bool Try.underlying4 _) trodAll_mk0, hA2, rfl, hb.frame _, fun h => by cases h⟩
theorem FnExactGratingOut_holds : Rows.FnExactGratingOutSaid :=
  OpenClaim.holds_of_wide 3 Try.f3 rfl rfl rfl rfl rfl rfl rfl ⟨rfl, rfl, rfl, rfl, rfl⟩ rfl rfl rfl rfl rfl (by kernel_rfl) Try.func3 (by kernel_rfl)
    (of_decide_eq_true (by kernel_rfl)) (by unfold Func.isWrapper; first | (rw [if_pos (by decide +kernel)]; kernel_rfl) | (rw [if_neg (by decide +kernel)]; exact ⟨rfl, rfl⟩))
    (fun os started H enc _ => FnExactGratingOut_lifted os started H enc)
end Go.Proofs.Ytfnapaijfdiflaa
