
/- The power of e of a number that is not above 0: as the program tells it, and as the model does. -/
import Derived.Test.YtmpcalpapkedhaaCroP
import Derived.Test.YtmpcalpapkedhaaSameA
import Derived.Test.YtmpcalpapkedhaaRowKit
namespace Go.Proofs.Ytmpcalpapkedhaa
open Go Go.ChangeShapes Go.WideShapes Go.ChangeAt Go.RowKit

def NumX (X : Nat) (w : World) (e : Ending) (w' : World) : Prop := e = .returned (.float .f32 X) ∧ ∃ n, w' = w.drewN n
theorem val_one64 : Value.float .f64 4607182418800017408 = .float .f64 (pick .f64 4607182418800017408 0) := by rw [pick_num (by decide +kernel)]
theorem val_eq64 {a b s : Nat} (h : a = b) : Value.float .f64 (pick .f64 a s) = .float .f64 (pick .f64 b s) := by rw [h]
set_option maxRecDepth 100000 in
set_option maxHeartbeats 1600000 in
theorem implExp_any (x : Nat) (hx : NegX x) (R : Nat) (hR : Hid (R = expF x)) (w : World) : Calls Try.prog 265 #[.float .f32 x] w (NumX R w) := by
  obtain ⟨h1, _, _, hb⟩ := exp_facts hx
  cases h2 : (FloatKind.f32.format.order x 3276275712 == some .lt)
  · have hR' : R = expV x := by rw [hR.out, expF, h2, if_neg (by simp)]
    have hpb := hb h2
    have hc : convOk .f64 (expWd x) .f32 := convOk_narrow hpb.bd (by decide)
    have hn : isNaN .f32 (expV x) = false := by unfold expV; rw [isNaN_fconv, hpb.bd.num]
    have HO := Lib.hid (fun s => convOk_pick (t := s) hc)
    have HN := Lib.hid (show ∀ s, pick .f32 (expV x) s = expV x from fun s => pick_num hn s)
    have HR := Lib.hid hR'
    have hp := fbin_pick_l
    have hr := fbin_pick_r
    obtain ⟨T, hT⟩ : ∃ T, T = expT x := ⟨_, rfl⟩
    have hT' : fbin .quo .f64 (fconv .f32 x .f64) 4643211215818981376 = T := hT.symm
    have HW := Lib.hid (show expWd x = sqP (pR T 12) 8 by rw [hT]; rfl)
    clear hpb hc hn hT hb hx hR hR'
    go_enter Try.func265, Try.ntmps265
    go_wp2_with (first | ((with_reducible refine wpL_fconv ?_); refine ⟨_, _, _, rfl, Option.isSome_iff_exists.2 ⟨_, Try.underlying22⟩, Try.underlying76, FloatKind.noConfusion, convOk_widen _, fun s n => ?_⟩) | ((with_reducible refine wpL_fbin ?_); refine ⟨_, _, _, rfl, rfl, rfl, fun s n => ?_⟩))
    clear hT' h1 h2
    go_loopw [4, 5] (fun p i wr => ∃ c m s : Nat, c ≤ 12 ∧ i = .int .i64 (12 - (c : Int)) ∧ wr = w.drewN m ∧ p = .float .f64 (pick .f64 (pR T c) s)) (fun _ i _ => (intOf i).toNat)
    case atStart => exact ⟨0, _, 0, by omega, rfl, rfl, val_one64⟩
    case round =>
      obtain ⟨c, m, s, hc, rfl, rfl, rfl⟩ := hrel
      by_cases hlt : c < 12
      · have hge : (1 : Int) ≤ 12 - (c : Int) := by omega
        obtain ⟨P, hP⟩ : ∃ P, P = pR T c := ⟨_, rfl⟩
        have HP := Lib.hid (show pR T (c + 1) = fbin .add .f64 4607182418800017408 (fbin .quo .f64 (fbin .mul .f64 T P) (floatOfInt .f64 (12 - (c : Int)))) by rw [hP]; rfl)
        rw [← hP]
        clear hP
        go_wp2_with ((with_reducible refine wpL_fbin ?_); refine ⟨_, _, _, rfl, rfl, rfl, fun s n => ?_⟩)
        go_roundw
        case rel => exact ⟨c + 1, _, _, by omega, by go_num, rfl, val_eq64 (by rw [HP.out])⟩
        case measure => simp [intOf]; omega
      · have hc12 : c = 12 := by omega
        rw [show (12 : Int) - (c : Int) = 0 by omega]
        subst hc12
        obtain ⟨P, hP⟩ : ∃ P, P = pR T 12 := ⟨_, rfl⟩
        rw [← hP]
        have HP := Lib.hid hP
        clear hP hlt hc
        go_wp2
        go_loopw [4, 26] (fun p i wr => ∃ c m s : Nat, c ≤ 8 ∧ i = .int .i64 (c : Int) ∧ wr = w.drewN m ∧ p = .float .f64 (pick .f64 (sqP P c) s)) (fun _ i _ => 8 - (intOf i).toNat)
        case atStart => exact ⟨0, m, s, by omega, rfl, rfl, rfl⟩
        case round =>
          obtain ⟨d, m2, s2, hd, rfl, rfl, rfl⟩ := hrel
          by_cases hlt : d < 8
          · obtain ⟨Q, hQ⟩ : ∃ Q, Q = sqP P d := ⟨_, rfl⟩
            have HQ := Lib.hid (show sqP P (d + 1) = fbin .mul .f64 Q Q by rw [hQ]; rfl)
            rw [← hQ]
            clear hQ
            go_wp2_with ((with_reducible refine wpL_fbin ?_); refine ⟨_, _, _, rfl, rfl, rfl, fun s n => ?_⟩)
            go_roundw
            case rel => exact ⟨d + 1, _, _, by omega, by go_num, rfl, val_eq64 (by rw [HQ.out])⟩
            case measure => simp [intOf]; omega
          · have hd8 : d = 8 := by omega
            subst hd8
            have HE := Lib.hid (show sqP P 8 = expWd x by rw [HW.out, HP.out])
            rw [HE.out]
            have hf := fun X s => fconv_pick .f64 X s .f32
            have hv : fconv .f64 (expWd x) .f32 = expV x := rfl
            have hk := HN.out
            go_wp2_with (first | ((with_reducible refine wpL_fconv ?_); refine ⟨_, _, _, rfl, Option.isSome_iff_exists.2 ⟨_, Try.underlying76⟩, Try.underlying22, FloatKind.noConfusion, HO.out _, fun s n => ?_⟩) | (go_at_call 208; go_in))
            go_ret
            exact ⟨by rw [HR.out] <;> rfl, _, rfl⟩
  · have HR := Lib.hid (show R = 0 by rw [hR.out, expF, h2, if_pos rfl])
    clear hb hx hR
    go_enter Try.func265, Try.ntmps265
    go_wp2
    go_ret
    exact ⟨by rw [HR.out] <;> rfl, 0, rfl⟩
set_option maxRecDepth 100000 in
set_option maxHeartbeats 1600000 in
theorem specExp_any (x : Nat) (hx : NegX x) (R : Nat) (hR : Hid (R = expF x)) (w : World) : Calls Try.prog 225 #[.float .f32 x] w (NumX R w) := by
  obtain ⟨_, h1, h2', hb⟩ := exp_facts hx
  have hnx := negX_num hx
  have hnw : isNaN .f64 (fconv .f32 x .f64) = false := by rw [isNaN_fconv, hnx]
  have hpk : ∀ s, pick .f64 (fconv .f32 x .f64) s = fconv .f32 x .f64 := fun s => pick_num hnw s
  have h0 : (FloatKind.f64.format.order (fconv .f32 x .f64) (fconv .f32 x .f64) != some .eq) = false := by rw [order_neq_self, hnw]
  cases h2 : (FloatKind.f32.format.order x 3276275712 == some .lt)
  · rw [h2] at h2'
    have hR' : R = expV x := by rw [hR.out, expF, h2, if_neg (by simp)]
    have hpb := hb h2
    have hc : convOk .f64 (expWd x) .f32 := convOk_narrow hpb.bd (by decide)
    have hn : isNaN .f32 (expV x) = false := by unfold expV; rw [isNaN_fconv, hpb.bd.num]
    have HO := Lib.hid (fun s => convOk_pick (t := s) hc)
    have HN := Lib.hid (show ∀ s, pick .f32 (expV x) s = expV x from fun s => pick_num hn s)
    have HR := Lib.hid hR'
    have hp := fbin_pick_l
    have hr := fbin_pick_r
    obtain ⟨T, hT⟩ : ∃ T, T = expT x := ⟨_, rfl⟩
    have hT' : fbin .quo .f64 (fconv .f32 x .f64) 4643211215818981376 = T := hT.symm
    have HW := Lib.hid (show expWd x = sqP (pR T 12) 8 by rw [hT]; rfl)
    clear hpb hc hn hT hb hx hR hR' hnx hnw h2
    go_enter Try.func225, Try.ntmps225
    go_wp2_with (first | ((with_reducible refine wpL_fconv ?_); refine ⟨_, _, _, rfl, Option.isSome_iff_exists.2 ⟨_, Try.underlying22⟩, Try.underlying76, FloatKind.noConfusion, convOk_widen _, fun s n => ?_⟩) | ((with_reducible refine wpL_fbin ?_); refine ⟨_, _, _, rfl, rfl, rfl, fun s n => ?_⟩) | (go_at_call 249; go_in))
    clear hT' h1 h0 h2'
    go_loopw [4, 5] (fun p i wr => ∃ c m s : Nat, c ≤ 12 ∧ i = .int .i64 (12 - (c : Int)) ∧ wr = w.drewN m ∧ p = .float .f64 (pick .f64 (pR T c) s)) (fun _ i _ => (intOf i).toNat)
    case atStart => exact ⟨0, _, 0, by omega, rfl, rfl, val_one64⟩
    case round =>
      obtain ⟨c, m, s, hc, rfl, rfl, rfl⟩ := hrel
      by_cases hlt : c < 12
      · have hge : (1 : Int) ≤ 12 - (c : Int) := by omega
        obtain ⟨P, hP⟩ : ∃ P, P = pR T c := ⟨_, rfl⟩
        have HP := Lib.hid (show pR T (c + 1) = fbin .add .f64 4607182418800017408 (fbin .quo .f64 (fbin .mul .f64 T P) (floatOfInt .f64 (12 - (c : Int)))) by rw [hP]; rfl)
        rw [← hP]
        clear hP
        go_wp2_with ((with_reducible refine wpL_fbin ?_); refine ⟨_, _, _, rfl, rfl, rfl, fun s n => ?_⟩)
        go_roundw
        case rel => exact ⟨c + 1, _, _, by omega, by go_num, rfl, val_eq64 (by rw [HP.out])⟩
        case measure => simp [intOf]; omega
      · have hc12 : c = 12 := by omega
        rw [show (12 : Int) - (c : Int) = 0 by omega]
        subst hc12
        obtain ⟨P, hP⟩ : ∃ P, P = pR T 12 := ⟨_, rfl⟩
        rw [← hP]
        have HP := Lib.hid hP
        clear hP hlt hc
        go_wp2
        go_loopw [4, 6] (fun p i wr => ∃ c m s : Nat, c ≤ 8 ∧ i = .int .i64 (c : Int) ∧ wr = w.drewN m ∧ p = .float .f64 (pick .f64 (sqP P c) s)) (fun _ i _ => 8 - (intOf i).toNat)
        case atStart => exact ⟨0, m, s, by omega, rfl, rfl, rfl⟩
        case round =>
          obtain ⟨d, m2, s2, hd, rfl, rfl, rfl⟩ := hrel
          by_cases hlt : d < 8
          · obtain ⟨Q, hQ⟩ : ∃ Q, Q = sqP P d := ⟨_, rfl⟩
            have HQ := Lib.hid (show sqP P (d + 1) = fbin .mul .f64 Q Q by rw [hQ]; rfl)
            rw [← hQ]
            clear hQ
            go_wp2_with ((with_reducible refine wpL_fbin ?_); refine ⟨_, _, _, rfl, rfl, rfl, fun s n => ?_⟩)
            go_roundw
            case rel => exact ⟨d + 1, _, _, by omega, by go_num, rfl, val_eq64 (by rw [HQ.out])⟩
            case measure => simp [intOf]; omega
          · have hd8 : d = 8 := by omega
            subst hd8
            have HE := Lib.hid (show sqP P 8 = expWd x by rw [HW.out, HP.out])
            rw [HE.out]
            have hf := fun X s => fconv_pick .f64 X s .f32
            have hv : fconv .f64 (expWd x) .f32 = expV x := rfl
            have hk := HN.out
            go_wp2_with (first | ((with_reducible refine wpL_fconv ?_); refine ⟨_, _, _, rfl, Option.isSome_iff_exists.2 ⟨_, Try.underlying76⟩, Try.underlying22, FloatKind.noConfusion, HO.out _, fun s n => ?_⟩) | (go_at_call 204; go_in))
            go_ret
            exact ⟨by rw [HR.out] <;> rfl, _, rfl⟩
  · rw [h2] at h2'
    have HR := Lib.hid (show R = 0 by rw [hR.out, expF, h2, if_pos rfl])
    have hc : convOk .f64 0 .f32 := .inr (.inr (by decide +kernel))
    have hz : ∀ s, pick .f32 (fconv .f64 0 .f32) s = 0 := fun s => by rw [show fconv .f64 0 .f32 = 0 by decide +kernel, pick_num (by decide +kernel)]
    clear hb hx hR h2 hnx hnw
    go_enter Try.func225, Try.ntmps225
    go_wp2_with (first | ((with_reducible refine wpL_fconv ?_); refine ⟨_, _, _, rfl, Option.isSome_iff_exists.2 ⟨_, Try.underlying22⟩, Try.underlying76, FloatKind.noConfusion, convOk_widen _, fun s n => ?_⟩) | ((with_reducible refine wpL_fconv ?_); refine ⟨_, _, _, rfl, Option.isSome_iff_exists.2 ⟨_, Try.underlying76⟩, Try.underlying22, FloatKind.noConfusion, hc, fun s n => ?_⟩) | (go_at_call 249; go_in) | (go_at_call 204; go_in))
    go_ret
    exact ⟨by rw [HR.out] <;> rfl, _, rfl⟩
end Go.Proofs.Ytmpcalpapkedhaa
