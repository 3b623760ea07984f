
/- A softened scan: as the model tells it. -/
import Derived.Test.YtogmcinaoemnpaaSfi
import Derived.Test.YtogmcinaoemnpaaPushS
import Derived.Test.YtogmcinaoemnpaaPush0
namespace Go.Proofs.Ytogmcinaoemnpaa
set_option linter.all false
open Go Go.ChangeShapes Go.WideShapes Go.ChangeAt Go.RowKit

set_option maxRecDepth 100000 in
set_option maxHeartbeats 6400000 in
theorem specSf_yes (xa : Option Addr) (n cx k : Nat) (X : Nat → Nat) (w : World) (hX : Rd w xa n X) (hB : binB X n 2 = true) (hk : k ≤ 2) :
    Calls Try.prog 25 #[.slice xa n cx, .int .i64 (k : Int)] w (OutRet (sfR X n (k : Int)) n true w) := by
  obtain ⟨i0, hi, hz0, hz1, hz2⟩ := info_parts infoF
  obtain ⟨h1, h2, hf⟩ := binB_at hB
  have HB := Lib.hid (fun (cx : Nat) w hX => specBins_any xa n cx X 2 w hX (by omega))
  rw [hB] at HB
  have HIn := Lib.hid (show inB (k : Int) 0 2 = true from inB_yes (by omega) (by omega))
  have HF := Lib.hid (sfR_fin (k : Int) (by omega) h2 hf)
  obtain ⟨xb, xo, hxa, hcx⟩ := id hX
  have e := hxa (by omega)
  subst e
  have HX := Lib.hid hcx
  have hX1 := Lib.hid hX
  have hpl := fun op => fbin_pick_l op .f32
  have hpr := fun op => fbin_pick_r op .f32
  have hcp := fun X s => fconv_pick .f32 X s .f64
  clear hB hcx hxa hf hX
  go_enter Try.func25, Try.ntmps25
  go_wp2_with (first | (go_at_call 65; refine (HB.out _ _ (by exact hX1.out)).mono ?_; rintro e w' ⟨rfl, q, rfl⟩) | (go_at_call 66; refine (l00In_any _ _ _ _).mono ?_; rw [HIn.out]; rintro e w' ⟨rfl, rfl⟩))
  obtain ⟨w1, hw1⟩ : ∃ w1, w1 = (w.drewN q).alloc (Obj.cells #[] 32) := ⟨_, rfl⟩
  rw [← hw1]
  have HO : w1.ownsRow w.heap.size 32 1 (.slice (some ⟨w.heap.size, 0, none⟩) 0 0) 0 (rowOf (fun _ => 0) 0) := by rw [hw1]; exact own_empty (w.drewN q) _
  have HB1 : Below w.heap.size w w1 := by rw [hw1]; exact (Below.drewN (Below.refl _ _) _).alloc (Nat.le_refl _) _
  clear hw1 HB HIn
  go_loopw [6, 7] (fun v i wr => ∃ (c : Nat) (Z : Nat → Nat), c ≤ n ∧ i = .int .i64 (c : Int) ∧ wr.ownsRow w.heap.size 32 1 v c (rowOf Z c) ∧ Hid (LikeP Z (sfR X n (k : Int)) c) ∧ Below w.heap.size w wr) (fun _ i _ => n - (intOf i).toNat)
  case atStart => exact ⟨0, _, Nat.zero_le _, rfl, HO, Lib.hid fun _ h => absurd h (Nat.not_lt_zero _), HB1⟩
  case round =>
    obtain ⟨c, Z, hc, rfl, hown, HZ, hBk⟩ := hrel
    clear HO HB1
    by_cases hlt : c < n
    · have hci : (c : Int) < (n : Int) := by omega
      have hxw := HX.out c hlt
      have hx1 : wr.cell? ⟨xb, xo + c, none⟩ = _ := (hBk.cell (p := ⟨xb, xo + c, none⟩) (World.block_lt_of_cell? w _ hxw)).trans hxw
      have hsz := hBk.size
      have hcn : c ≤ 1048576 := by omega
      have HOk := Lib.hid (fun q => own_drew hown q)
      have HBk := Lib.hid (fun q => Below.drewN hBk q)
      have hxl := World.block_lt_of_cell? w _ hxw
      obtain ⟨T, hT⟩ : ∃ T, fbin .quo .f32 (floatOfInt .f32 (c : Int)) (floatOfInt .f32 (n : Int)) = T := ⟨_, rfl⟩
      have HR := Lib.hid (show sfR X n (k : Int) c = fbin .mul .f32 (X c) (sfK (k : Int) T) by rw [← hT]; rfl)
      clear hown hBk hxw
      rcases (by omega : k = 0 ∨ k = 1 ∨ k = 2) with hk0 | hk0 | hk0
      · have d1 : ((k : Int) == 1) = false := by simp; omega
        have d2 : ((k : Int) == 2) = false := by simp; omega
        have hK : sfK (k : Int) T = sfK ((0 : Nat) : Int) T := by rw [hk0]
        clear hk0
        have HR := Lib.hid (show sfR X n (k : Int) c = fbin .mul .f32 (X c) 1065353216 from by rw [HR.out, hK]; rfl)
        clear hK
        go_wp2_with (first | ((with_reducible refine wpL_fbin ?_); refine ⟨_, _, _, rfl, rfl, rfl, fun sF nF => ?_⟩) | (at_builtin; refine wpL_pushA hi hz0 hz1 hz2 rfl rfl rfl rfl (by first | rfl | simp) (by exact HOk.out _) hcn (by exact hsz) ?_; intro v' w3 hown3 hB3))
        have HP2 : ∀ s, LikeP (fun j => if j = c then pick .f32 (fbin .mul .f32 (X c) 1065353216) s else Z j) (sfR X _ (k : Int)) (c + 1) := fun s => LikeP.push HZ.out (s := s) (by rw [HR.out])
        go_roundw
        case rel => exact ⟨c + 1, _, by omega, by go_num, hown3, Lib.hid (HP2 sF), (HBk.out _).trans hB3⟩
        case measure => simp [intOf]; omega
      · have d1 : ((k : Int) == 1) = true := by simp; omega
        have d2 : ((k : Int) == 2) = false := by simp; omega
        have hK : sfK (k : Int) T = sfK ((1 : Nat) : Int) T := by rw [hk0]
        clear hk0
        have HR := Lib.hid (show sfR X n (k : Int) c = fbin .mul .f32 (X c) (fbin .sub .f32 1065353216 T) from by rw [HR.out, hK]; rfl)
        clear hK
        go_wp2_with (first | ((with_reducible refine wpL_fbin ?_); refine ⟨_, _, _, rfl, rfl, rfl, fun sF nF => ?_⟩) | (at_builtin; refine wpL_pushA hi hz0 hz1 hz2 rfl rfl rfl rfl (by first | rfl | simp) (by exact HOk.out _) hcn (by exact hsz) ?_; intro v' w3 hown3 hB3))
        have HP2 : ∀ s, LikeP (fun j => if j = c then pick .f32 (fbin .mul .f32 (X c) (fbin .sub .f32 1065353216 T)) s else Z j) (sfR X _ (k : Int)) (c + 1) := fun s => LikeP.push HZ.out (s := s) (by rw [HR.out])
        go_roundw
        case rel => exact ⟨c + 1, _, by omega, by go_num, hown3, Lib.hid (HP2 sF), (HBk.out _).trans hB3⟩
        case measure => simp [intOf]; omega
      · have d1 : ((k : Int) == 1) = false := by simp; omega
        have d2 : ((k : Int) == 2) = true := by simp; omega
        have hK : sfK (k : Int) T = sfK ((2 : Nat) : Int) T := by rw [hk0]
        clear hk0
        have HR := Lib.hid (show sfR X n (k : Int) c = fbin .mul .f32 (X c) (fbin .mul .f32 1056964608 (fbin .add .f32 1065353216 (sfC T))) from by rw [HR.out, hK]; rfl)
        clear hK
        obtain ⟨Y, hY⟩ : ∃ Y, sfY T = Y := ⟨_, rfl⟩
        have hZ1 : fconv .f32 (fbin .mul .f32 1056964608 T) .f64 = Y := hY
        obtain ⟨C, hC⟩ : ∃ C, sfC T = C := ⟨_, rfl⟩
        have HP := Lib.hid (show ∀ (s : Nat) (w : World), Calls Try.prog 67 #[.float .f64 (pick .f64 Y s)] w (RetC C (phaT Y).2 w) from fun s w => by
          have := specPha_any (pick .f64 Y s) w
          rw [phaT_pickS] at this
          rw [← hC]
          unfold sfC
          rw [hY]
          exact this)
        rw [hC] at HR
        clear hY hC
        go_wp2_with (first | ((with_reducible refine wpL_fbin ?_); refine ⟨_, _, _, rfl, rfl, rfl, fun sF nF => ?_⟩) | ((with_reducible refine wpL_fconv ?_); refine ⟨_, _, _, rfl, Option.isSome_iff_exists.2 ⟨_, Try.underlying32⟩, Try.underlying76, FloatKind.noConfusion, convOk_widen _, fun sG nG => ?_⟩) | (go_at_call 67; refine (HP.out _ _).mono ?_; rintro e w' ⟨s', t', m', rfl, rfl⟩) | (at_builtin; refine wpL_pushA hi hz0 hz1 hz2 rfl rfl rfl rfl (by first | rfl | simp) (by exact HOk.out _) hcn (by exact hsz) ?_; intro v' w3 hown3 hB3))
        have HP2 : ∀ s, LikeP (fun j => if j = c then pick .f32 (fbin .mul .f32 (X c) (fbin .mul .f32 1056964608 (fbin .add .f32 1065353216 C))) s else Z j) (sfR X _ (k : Int)) (c + 1) := fun s => LikeP.push HZ.out (s := s) (by rw [HR.out])
        go_roundw
        case rel => exact ⟨c + 1, _, by omega, by go_num, hown3, Lib.hid (HP2 sF), (HBk.out _).trans hB3⟩
        case measure => simp [intOf]; omega
    · obtain rfl : c = n := by omega
      obtain ⟨va, vc, rfl, _, _, _⟩ := rd_of_own hown
      have hfl := finL_like HZ.out.like
      rw [HF.out] at hfl
      go_wp2_with (go_at_call 48; refine (l02List_any _ w.heap.size _ Z _ (by exact hown) (by omega)).mono ?_; rw [hfl]; rintro e w' ⟨rfl, q, rfl⟩)
      go_ret2
      exact ⟨_, Z, rfl, own_drew hown _, HZ.out.like, Below.drewN hBk _⟩
end Go.Proofs.Ytogmcinaoemnpaa
