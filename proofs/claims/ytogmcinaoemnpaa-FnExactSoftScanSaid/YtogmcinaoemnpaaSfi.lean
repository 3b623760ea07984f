
/- A softened scan: as the program tells it. -/
import Derived.Test.YtogmcinaoemnpaaSfp
import Derived.Test.YtogmcinaoemnpaaBin
import Derived.Test.YtogmcinaoemnpaaPush
import Derived.Test.YtogmcinaoemnpaaLaw
import Derived.Test.YtogmcinaoemnpaaArr
import Derived.Test.YtogmcinaoemnpaaQ5
import Derived.Test.YtogmcinaoemnpaaRo
import Derived.Deep.RegionLaw
namespace Go.Proofs.Ytogmcinaoemnpaa
set_option linter.all false
open Go Go.ChangeShapes Go.WideShapes Go.ChangeAt Go.RowKit

theorem sfY_lt (t s : Nat) : pick .f64 (sfY t) s < 18446744073709551616 := by
  have := pick_wf (fconv_wf .f32 (fbin .mul .f32 1056964608 t) .f64) s
  simpa [Lit.wf, sfY] using this
theorem phaT_pickS (Y s : Nat) : phaT (pick .f64 Y s) = phaT Y := by
  cases hn : isNaN .f64 Y
  · rw [pick_num hn]
  · have hf : isFin .f64 Y = false := by unfold isFin; unfold isNaN at hn; rw [hn]; rfl
    have hf' : isFin .f64 (pick .f64 Y s) = false := by rw [isFin_pick, hf]
    unfold phaT
    rw [if_neg (by rw [hf']; simp), if_neg (by rw [hf]; simp)]
/-- What a softness tells of a part. -/
def SoftRet (r : Nat) (w : World) (e : Ending) (w' : World) : Prop := ∃ s m, e = .returned (.float .f32 (pick .f32 r s)) ∧ w' = w.drewN m
set_option maxHeartbeats 800000 in
theorem soft1_any (x : Nat) (w : World) : Calls Try.prog 108 #[.float .f32 x] w (SoftRet 1065353216 w) := by
  go_enter Try.func108, Try.ntmps108
  go_wp2
  go_ret
  exact ⟨0, 0, by rw [pick_num (by decide +kernel)]; rfl, rfl⟩
set_option maxHeartbeats 800000 in
theorem soft2_any (t s0 : Nat) (w : World) : Calls Try.prog 109 #[.float .f32 (pick .f32 t s0)] w (SoftRet (sfL t) w) := by
  have hpr := fun op => fbin_pick_r op .f32
  go_enter Try.func109, Try.ntmps109
  go_wp2_with ((with_reducible refine wpL_fbin ?_); refine ⟨_, _, _, rfl, rfl, rfl, fun s n => ?_⟩)
  go_ret
  exact ⟨s, n, rfl, rfl⟩
set_option maxRecDepth 100000 in
set_option maxHeartbeats 1600000 in
theorem soft3_any (t s0 : Nat) (w : World) : Calls Try.prog 110 #[.float .f32 (pick .f32 t s0)] w (SoftRet (sfW t) w) := by
  have hpl := fun op => fbin_pick_l op .f32
  have hpr := fun op => fbin_pick_r op .f32
  have hcp := fun X s => fconv_pick .f32 X s .f64
  have hh := half_eq t
  obtain ⟨Y, hY⟩ : ∃ Y, sfY t = Y := ⟨_, rfl⟩
  have hZ1 : fconv .f32 (fbin .quo .f32 t 1073741824) .f64 = Y := by rw [← hh]; exact hY
  obtain ⟨C, hC⟩ : ∃ C, sfC t = C := ⟨_, rfl⟩
  have HP := Lib.hid (show ∀ (s : Nat) (w : World), Calls Try.prog 111 #[.float .f64 (pick .f64 Y s)] w (RetC C (phaT Y).2 w) from fun s w => by
    have := implPha_any (pick .f64 Y s) (by rw [← hY]; exact sfY_lt _ _) w
    rw [phaT_pickS] at this
    rw [← hC]
    unfold sfC
    rw [hY]
    exact this)
  have HW := Lib.hid (show sfW t = fbin .quo .f32 (fbin .add .f32 1065353216 C) 1073741824 by rw [← half_eq, ← hC]; rfl)
  clear hh hY hC
  go_enter Try.func110, Try.ntmps110
  go_wp2_with (first | ((with_reducible refine wpL_fbin ?_); refine ⟨_, _, _, rfl, rfl, rfl, fun s n => ?_⟩) | ((with_reducible refine wpL_fconv ?_); refine ⟨_, _, _, rfl, Option.isSome_iff_exists.2 ⟨_, Try.underlying32⟩, Try.underlying76, FloatKind.noConfusion, convOk_widen _, fun s n => ?_⟩) | (go_at_call 111; refine (HP.out _ _).mono ?_; rintro e w' ⟨s', t', m', rfl, rfl⟩))
  go_ret
  exact ⟨_, _, by rw [HW.out]; rfl, by first | rfl | rw [World.drewN_drewN]⟩
set_option maxRecDepth 100000 in
theorem softnessOf_any (k : Nat) (hk : k ≤ 2) (w : World) : Calls Try.prog 69 #[.int .i64 (k : Int)] w fun e w' => e = .returned (.func (.func (if k = 0 then 108 else if k = 1 then 109 else 110)) #[] #[]) ∧ w' = w := by
  have hi : ∀ w : World, (Instr.index 130 (.agg #[.func (.func 108) #[] #[], .func (.func 109) #[] #[], .func (.func 110) #[] #[]]) (.int .i64 (k : Int))).run Try.prog w = .ok (.func (.func (if k = 0 then 108 else if k = 1 then 109 else 110)) #[] #[]) w := by
    rcases (by omega : k = 0 ∨ k = 1 ∨ k = 2) with rfl | rfl | rfl <;> (intro w; kernel_rfl)
  generalize (if k = 0 then 108 else if k = 1 then 109 else 110) = F at hi ⊢
  go_enter Try.func69, Try.ntmps69
  go_wp2
  go_ret
  exact ⟨rfl, rfl⟩
theorem mkS_any (w : World) (c : Nat) (h2 : c ≤ 128) (O : Obj) (hO : O = .cells (madeCells #[.float .f32 0] c) 32) : (Instr.makeSlice 22 (.int .i64 (c : Int)) (.int .i64 (c : Int))).run Try.prog w = .ok (.slice (some ⟨w.heap.size, 0, none⟩) c c) (w.alloc O) := by
  obtain ⟨i0, hi, hz0, hz1, hz2⟩ := info_parts infoF
  have h := run_make (P := Try.prog) w 22 32 i0 (.float .f32 0) Try.underlying22 hi hz0 .i64 .i64 (c : Int) (c : Int) (by omega) (Int.le_refl _) (by rw [hz2]; omega) (by omega)
  rw [hz1, Nat.mul_one, Int.toNat_natCast] at h
  rw [hO]
  exact h
theorem mkS_own (w : World) (g c : Nat) (h2 : c ≤ 128) (O : Obj) (hO : O = .cells (madeCells #[.float .f32 0] c) 32) (base : Nat) (hg : w.heap.size = g) (hb : base ≤ w.heap.size) : (w.alloc O).ownsRow base 32 1 (.slice (some ⟨g, 0, none⟩) c c) c (rowOf (fun _ => 0) c) := by
  subst hg
  have h := World.ownsRow_lit (e := 32) (base := base) (size := 1) w (madeCells #[Value.float .f32 0] c) c hb (by unfold maxLen; omega) (by rw [size_madeCells, Nat.mul_one])
  rw [madeF] at h
  rw [hO]
  exact h
set_option maxRecDepth 100000 in
set_option maxHeartbeats 3200000 in
theorem implSf_yes (xa : Option Addr) (n cx k : Nat) (X : Nat → Nat) (w : World) (hX : Rd w xa n X) (hB : binB X n 2 = true) (hk : k ≤ 2) (F : Nat) (hF : F = if k = 0 then 108 else if k = 1 then 109 else 110)
    (HE : Hid (∀ args w, (callFunc F args).run Try.prog w = .ok (.enter F args) w))
    (HC : Hid (∀ (t s0 : Nat) (w : World), Calls Try.prog F #[.float .f32 (pick .f32 t s0)] w (SoftRet (sfK (k : Int) t) w))) :
    Calls Try.prog 26 #[.slice xa n cx, .int .i64 (k : Int)] w (OutRet (sfR X n (k : Int)) n true w) := by
  obtain ⟨i0, hi, hz0, hz1, hz2⟩ := info_parts infoF
  obtain ⟨h1, h2, hf⟩ := binB_at hB
  have HB := Lib.hid (fun (cx : Nat) w hX => isScan_any xa n cx X w hX (by omega))
  rw [hB] at HB
  have HS := Lib.hid (fun w => softnessOf_any k hk w)
  rw [← hF] at HS
  have hX0 := hX
  obtain ⟨xb, xo, hxa, hcx⟩ := hX0
  have e := hxa (by omega)
  subst e
  have HX := Lib.hid hcx
  obtain ⟨O, hO⟩ : ∃ O : Obj, O = .cells (madeCells #[.float .f32 0] n) 32 := ⟨_, rfl⟩
  have hmk := fun w => mkS_any w n (by omega) O hO
  have HOL := Lib.hid (fun w0 g hg h => mkS_own w0 g n (by omega) O hO w.heap.size hg h)
  clear hO
  have d1 : decide ((k : Int) < 0) = false := decide_eq_false (by omega)
  have d2 : decide ((2 : Int) < (k : Int)) = false := decide_eq_false (by omega)
  have hX1 := Lib.hid hX
  clear hB hF hcx hxa hf hX
  go_enter Try.func26, Try.ntmps26
  go_wp2_with (go_at_call 68; refine (HB.out _ _ (by exact hX1.out)).mono ?_; rintro e w' ⟨rfl, q, rfl⟩)
  go_region_with (first | (go_at_call 69; refine (HS.out _).mono ?_; rintro e w' ⟨rfl, rfl⟩))
  all_goals
    have HO := Lib.hid (HOL.out (w.drewN (q + 1)) w.heap.size (by simp) (by simp))
    have HBz := Lib.hid ((Below.drewN (Below.refl _ w) (q + 1)).alloc (Nat.le_refl _) O)
    obtain ⟨wz, hwz⟩ : ∃ wz, wz = (w.drewN (q + 1)).alloc O := ⟨_, rfl⟩
    rw [← hwz] at HO HBz
    go_wp2
    first | rw [← hwz] | (rw [show (w.drewN q).drew.alloc O = wz from hwz.symm])
    clear hwz hmk HOL HS HB
    go_loopw [28] (fun i wr => ∃ (c : Nat) (Z : Nat → Nat), c ≤ n ∧ i = .int .i64 (c : Int) ∧ wr.ownsRow w.heap.size 32 1 (.slice (some ⟨w.heap.size, 0, none⟩) n n) n (rowOf Z n) ∧ LikeP Z (fun p => if p < c then sfR X n (k : Int) p else 0) n ∧ Below w.heap.size w wr) (fun i _ => n - (intOf i).toNat)
    case atStart => exact ⟨0, fun _ => 0, Nat.zero_le _, rfl, HO.out, fun j _ => ⟨0, by show (0 : Nat) = pick .f32 (if j < 0 then sfR X n (k : Int) j else 0) 0; rw [if_neg (Nat.not_lt_zero _), pick_num (by decide +kernel)]⟩, HBz.out⟩
    case round =>
      clear HO HBz
      obtain ⟨c, Z, hc, rfl, hO1, hL, hBk⟩ := hrel
      by_cases hlt : c < n
      · have hxw := HX.out c hlt
        have hx1 : wr.cell? ⟨xb, xo + c, none⟩ = _ := (hBk.cell (p := ⟨xb, xo + c, none⟩) (World.block_lt_of_cell? w _ hxw)).trans hxw
        have hci : (c : Int) < (n : Int) := by omega
        have HOs := Lib.hid (fun q u => own_stored (own_drew hO1 q) c u)
        have HBs := Lib.hid (fun q u => (Below.drewN hBk q).setCell (p := ⟨w.heap.size, c, none⟩) (Nat.le_refl _) (.float .f32 u))
        have HLs := Lib.hid hL
        have st := fun q u => own_store hO1 hlt q u
        have hpr := fun op => fbin_pick_r op .f32
        obtain ⟨T, hT⟩ : ∃ T, fbin .quo .f32 (floatOfInt .f32 (c : Int)) (floatOfInt .f32 (n : Int)) = T := ⟨_, rfl⟩
        obtain ⟨E, hE⟩ : ∃ E, fbin .mul .f32 (X c) (sfK (k : Int) T) = E := ⟨_, rfl⟩
        have HR := Lib.hid (show sfR X n (k : Int) c = E by rw [← hE, ← hT]; rfl)
        obtain ⟨Q, hQ⟩ : ∃ Q, sfK (k : Int) T = Q := ⟨_, rfl⟩
        have HCc := Lib.hid (HC.out T)
        have heg := HE.out
        rw [hQ] at hE HCc
        clear hO1 hL hBk hxw hQ
        go_wp2_with (first | ((with_reducible refine wpL_fbin ?_); refine ⟨_, _, _, rfl, rfl, rfl, fun sF nF => ?_⟩) | ((with_reducible refine Calls.mono (HCc.out _ _) ?_); rintro e w' ⟨s', m', rfl, rfl⟩))
        go_roundw
        case rel =>
          refine ⟨c + 1, _, by omega, by go_num, HOs.out _ _, ?_, HBs.out _ _⟩
          exact HLs.out.set rfl |>.congr (fun p hp => by
            by_cases e : p = c
            · rw [if_pos e, e, if_pos (by omega), HR.out]
            · rw [if_neg e]
              by_cases h : p < c
              · rw [if_pos h, if_pos (by omega)]
              · rw [if_neg h, if_neg (by omega)])
        case measure => simp [intOf]; omega
      · obtain rfl : c = n := by omega
        have hL2 : LikeP Z (sfR X c (k : Int)) c := hL.congr fun p hp => by rw [if_pos hp]
        clear hL
        go_wp2
        go_ret2
        exact ⟨_, Z, rfl, hO1, hL2.like, hBk⟩
end Go.Proofs.Ytogmcinaoemnpaa
