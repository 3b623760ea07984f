
/- Levels in balance: as the program tells them. -/
import Derived.Test.YtogmcinaoemnpaaLbp
import Derived.Test.YtogmcinaoemnpaaSlu
import Derived.Test.YtogmcinaoemnpaaLvb
import Derived.Test.YtogmcinaoemnpaaLve
import Derived.Test.YtogmcinaoemnpaaPushS
import Derived.Test.YtogmcinaoemnpaaPush0
import Derived.Test.YtogmcinaoemnpaaLev
import Derived.Test.YtogmcinaoemnpaaSto
import Derived.Test.YtogmcinaoemnpaaQ5
namespace Go.Proofs.Ytogmcinaoemnpaa
set_option linter.all false
open Go Go.ChangeShapes Go.WideShapes Go.ChangeAt Go.RowKit

set_option maxRecDepth 100000 in
set_option maxHeartbeats 6400000 in
theorem implLb_yes (N : Nat) (ra : Option Addr) (L rc : Nat) (A : Nat → Nat) (w : World) (hA : Rd w ra L A) (hok : lvOk (N : Int) L A = true) (hrc : L ≤ rc) (hLm : L ≤ 1048576) (hL : L = N * N) (hN6 : N ≤ 6) (hN1 : 1 ≤ N) (hAw : ∀ k, A k < 4294967296)
    (p : Nat) (ok : Bool) (hg : Hid (ok = lbG N A)) (hp : Hid (p = if ok = true then N else 0)) :
    Calls Try.prog 12 #[.int .i64 (N : Int), .slice ra L rc] w (OutRet (lbR N A) p ok w) := by
  obtain ⟨i0, hi, hz0, hz1, hz2⟩ := info_parts infoF
  obtain ⟨i1, hj, hy0, hy1, hy2⟩ := info_parts infoT
  have HF := Lib.hid (flowOf_any (N : Int) ra L rc A w hA hLm true (Lib.hid hok.symm))
  have HA := Lib.hid hA
  have HL := Lib.hid hL
  have HW := Lib.hid (lbM_words (n := N) hAw)
  have HG := Lib.hid (lbG_prog hN1 hAw)
  have HAw := Lib.hid hAw
  clear hok hA hL hAw
  go_enter Try.func12, Try.ntmps12
  go_wp2_with fail
  refine HF.out.mono ?_
  rintro e w1 (⟨h, rfl, b1⟩ | ⟨_, rfl, b1⟩)
  · cases h
  have HQ := boxF_alloc w1 N L rc ra 69
  have b2 := b1.trans ((Below.refl _ w1).alloc b1.size (.cells #[.int .i64 (N : Int), .slice ra L rc] 69))
  obtain ⟨w2, hw2⟩ : ∃ w2, w2 = w1.alloc (.cells #[.int .i64 (N : Int), .slice ra L rc] 69) := ⟨_, rfl⟩
  rw [← hw2] at HQ b2
  have hs2 : w1.heap.size < w2.heap.size := by rw [hw2]; simp
  obtain ⟨q0, q1⟩ := id HQ
  go_wp2
  rw [← hw2]
  have hsub : (N : Int) - 1 = ((N - 1 : Nat) : Int) := by omega
  rw [hsub]
  have HQ2 := Lib.hid HQ
  have HB2 := Lib.hid b2
  have HA2 := Lib.hid (HA.out.below b2)
  clear hw2 HQ b2 b1 q0 q1 HF
  go_loopw [8, 25] (fun v i wr => ∃ (k : Nat) (R C : Nat → Nat) (V : Nat → Nat → Nat), k ≤ N - 1 ∧ i = .int .i64 (k : Int) ∧ Bld wr w2.heap.size (N + 1) k v R C V ∧ Hid (LikeM k (N + 1) V (lbM N A)) ∧ Below w2.heap.size w2 wr) (fun _ i _ => N - (intOf i).toNat)
  case atStart => exact ⟨0, fun _ => 0, fun _ => 0, fun _ _ => 0, Nat.zero_le _, rfl, Bld.nil _ _ _ _ _ _, Lib.hid (fun i hi => absurd hi (Nat.not_lt_zero _)), Below.refl _ _⟩
  case round =>
    obtain ⟨k, R, C, V, hk, rfl, hBl, HLk, hBk⟩ := hrel
    have HQr := HQ2.out.below hBk
    obtain ⟨q0, q1⟩ := id HQr
    have hszr := hBk.size
    by_cases hlt : k < N - 1
    · obtain ⟨wo, hwo⟩ : ∃ wo, wo = wr := ⟨_, rfl⟩
      subst hwo
      have hkN : k < N := by omega
      have HI := Lib.hid (into_any N k ra L rc A wo (HA2.out.below hBk) HL.out hN6 hN1 hkN)
      have HBl := Lib.hid hBl
      have HBk := Lib.hid hBk
      clear hBl hBk
      go_wp2_with fail
      refine HI.out.mono ?_
      rintro e w3 ⟨g, rfl, o3, b3⟩
      have HQ3 := HQr.below b3
      obtain ⟨q0, q1⟩ := id HQ3
      have hz3 := b3.size
      have HO := Lib.hid (away_any N k ra L rc A w3 (HA2.out.below (HBk.out.trans (b3.mono hszr))) HL.out hrc hN6 hN1 hkN)
      go_wp2_with fail
      refine HO.out.mono ?_
      rintro e w4 ⟨s4, rfl, b4⟩
      have o4 := own_below o3 b4
      have hz4 := b4.size
      have st := fun q u => own_store o4 hkN q u
      have hcl := own_cell o4 hkN
      have hfz := o4.frozenAt k
      have B4 := b3.trans (b4.mono hz3)
      have hpr := fun op => fbin_pick_r op .f32
      have hkNi : (k : Int) < (N : Int) := by omega
      have h5 : wo.heap.size ≤ w4.heap.size := by omega
      have HO4 := Lib.hid (fun q u => own_stored (own_drew o4 q) k u)
      have HB4 := Lib.hid (fun q u => Below.setCell (p := ⟨g, k, none⟩) (Below.drewN B4 q) (own_ge o4) u)
      clear o3 o4 b3 b4 HQ3 HQr
      go_wp2_with (first | ((with_reducible refine wpL_fbin ?_); refine ⟨_, _, _, rfl, rfl, rfl, fun s n => ?_⟩) | (at_builtin; refine wpL_pushA hi hz0 hz1 hz2 rfl rfl rfl rfl (by simp) (by exact HO4.out _ _) (by omega) (by simp; omega) ?_; intro v5 w5 ho5 hb5; go_loud (obtain ⟨g5, c5, rfl⟩ := own_some2 ho5 (by omega)); go_loud (have HB5 := (HB4.out _ _).trans hb5); go_loud (have hBl5 := HBl.out.below HB5); go_loud (have hz5 := HB5.size); clear hb5) | (at_builtin; refine wpL_pushS hj hy0 hy1 hy2 rfl rfl rfl rfl (by simp) (by rfl) (by exact hBl5.outer) (by omega) (by omega) ?_; intro v6 w6 ho6 hg6 hat6))
      have hge5 := own_ge ho5
      have hBl6 := hBl5.push (own_mono0 ho5 hszr) (fun i hi => by have := HBl.out.lt hi; omega) ho6 hg6
      have hB6 := (HBk.out.trans (HB5.mono hszr)).trans (below_push hBl5.outer (by omega) hg6)
      have HL6 := Lib.hid (HLk.out.next (X := fun j => if j = N then 0 else if j = k then pick .f32 (fbin .sub .f32 0 (lvO N A k)) s else lvI N A k j) (lb_row HAw.out (by omega) s))
      go_roundw
      case rel => exact ⟨k + 1, _, _, _, by omega, by go_num, hBl6, HL6, hB6⟩
      case measure => simp [intOf]; omega
    · obtain rfl : k = N - 1 := by omega
      obtain ⟨wo, hwo⟩ : ∃ wo, wo = wr := ⟨_, rfl⟩
      subst hwo
      have hlf : ¬ (((N - 1 : Nat) : Int) < ((N - 1 : Nat) : Int)) := by omega
      have hb : i0.bytes * (N + 1) ≤ 281474976710656 := by rw [hz2]; omega
      have hmx : N + 1 ≤ maxLen := by unfold maxLen; omega
      have hadd : IntKind.i64.wrap ((N : Int) + 1) = ((N + 1 : Nat) : Int) := by rw [IntKind.wrap_i64]; omega
      clear hsub
      have HBl := Lib.hid hBl
      have HBk := Lib.hid hBk
      have hw0 : w2.heap.size ≤ wo.heap.size := hszr
      clear hBl hBk
      go_wp2_with (at_make; refine wpList_make_full _ rfl _ _ 22 rfl wo.heap.size 32 i0 (.float .f32 0) 1 Try.underlying22 hi hz0 hz1 _ _ _ _ (N + 1) rfl rfl (by first | rfl | simp) (by first | rfl | simp) hb hmx (by simp) ?_)
      intro wm hown hgr
      rw [madeF] at hown
      have hBm : Below wo.heap.size wo wm := (Below.refl wo.heap.size wo).grown hgr (by simp) (fun _ h => by cases h)
      have HBo := HBl
      have HBl := Lib.hid (HBl.out.below hBm)
      have HBk := Lib.hid (HBk.out.trans (hBm.mono hw0))
      clear hgr hb hmx HQr q0 q1
      go_wp2
      go_loopw [51] (fun i wr => ∃ c : Nat, c ≤ N + 1 ∧ i = .int .i64 (c : Int) ∧ wr.ownsRow wo.heap.size 32 1 (.slice (some ⟨wo.heap.size, 0, none⟩) (N + 1) (N + 1)) (N + 1) (rowOf (fun j => if j < c then 1065353216 else 0) (N + 1)) ∧ Only wo.heap.size wm wr) (fun i _ => N + 1 - (intOf i).toNat)
      case atStart => exact ⟨0, Nat.zero_le _, rfl, by simpa using hown, Only.refl _ _⟩
      case round =>
        obtain ⟨c, hc, rfl, hoc, hOc⟩ := hrel
        by_cases hlc : c < N + 1
        · have hcN : (c : Int) < ((N + 1 : Nat) : Int) := by omega
          have hcl := own_cell hoc hlc
          have hfz := hoc.frozenAt c
          have hst := own_stored hoc c 1065353216
          rw [rowOf_congr (Y := fun j => if j < c + 1 then 1065353216 else 0) (fun j _ => by
            by_cases e : j = c
            · rw [if_pos e, if_pos (by omega)]
            · rw [if_neg e]
              by_cases e2 : j < c
              · rw [if_pos e2, if_pos (by omega)]
              · rw [if_neg e2, if_neg (by omega)])] at hst
          have hOc' := hOc.setCell c (.float .f32 1065353216)
          have st := own_store0 hoc hlc 1065353216
          clear hoc hOc
          go_wp2
          go_roundw
          case rel => exact ⟨c + 1, by omega, by go_num, hst, hOc'⟩
          case measure => simp [intOf]; omega
        · obtain rfl : c = N + 1 := by omega
          obtain ⟨wt, hwt⟩ : ∃ wt, wt = wr := ⟨_, rfl⟩
          subst hwt
          have hBt : Below wo.heap.size wm wt := only_below (Nat.le_refl _) hBm.size hOc
          have hzm := hBm.size
          have hzt := hBt.size
          have HRK : ∀ i, i < N - 1 → R i ≠ wo.heap.size := fun i hi => by have := HBo.out.lt hi; omega
          have hBl := HBo.out.below (hBm.trans hBt)
          have HBk := Lib.hid (HBk.out.trans (hBt.mono hw0))
          have hzk : w2.heap.size ≤ wt.heap.size := by omega
          have HOc := Lib.hid hoc
          have hN1' : N - 1 + 1 = N := by omega
          clear hOc hoc hBt HBl
          go_wp2_with (at_builtin; refine wpL_pushS hj hy0 hy1 hy2 rfl rfl rfl rfl (by simp) (by rfl) (by exact hBl.outer) (by omega) (by omega) ?_; intro v6 w6 ho6 hg6 hat6; clear hat6)
          have hBl6 := hBl.push (own_mono0 HOc.out hw0) HRK ho6 hg6
          have hB6 := HBk.out.trans (below_push hBl.outer hzk hg6)
          rw [hN1'] at hBl6
          have HL6 := LikeM.next HLk.out (X := fun j => if j < N + 1 then 1065353216 else 0) lb_last
          rw [hN1'] at HL6
          obtain ⟨xb, cap, rfl⟩ := outer_some hBl6.outer hN1
          have HSv := Lib.hid (solve_any N w2.heap.size xb cap _ _ _ (lbM N A) w6 (N + 1) rfl hBl6.mat HL6 HW.out hN1 (by omega) (own_cap hBl6.outer).1 hB6.size)
          obtain ⟨hG1, hG2⟩ := HG.out
          rw [← hg.out] at hG1 hG2
          have HG1 := Lib.hid hG1
          have HG2 := Lib.hid hG2
          have hB6' := HB2.out.trans (hB6.mono HB2.out.size)
          clear hBl6 HL6 ho6 hg6 hBl hB6 hG1 hG2
          go_wp2_with fail
          refine HSv.out.mono ?_
          rintro e w7 (⟨hno, rfl, b7⟩ | ⟨hyes, g, Y, rfl, oY, hLY, b7⟩)
          · have hf := HG1.out
            rw [hno] at hf
            have e : ok = false := hf.symm
            subst e
            have e : p = 0 := by rw [hp.out]; rfl
            subst e
            have hb7 := hB6'.trans (b7.mono HB2.out.size)
            go_wp2
            go_ret2
            exact OutRet.no hb7
          · have hb7 := hB6'.trans (b7.mono HB2.out.size)
            have hf := HG1.out
            rw [hyes, ← finL_like hLY.like] at hf
            have hf : finL Y N = ok := hf
            have oY' := own_mono0 oY HB2.out.size
            cases ok
            · have e : p = 0 := by rw [hp.out]; rfl
              subst e
              go_wp2_with (go_at_call 53; refine (onlyFinite_any _ w.heap.size _ Y _ (by exact oY') (by omega)).mono ?_; rintro e w9 ⟨he, q, rfl⟩; rw [hf] at he; subst he)
              go_ret2
              exact OutRet.no (Below.drewN hb7 _)
            · have e : p = N := by rw [hp.out]; rfl
              subst e
              have hR := HG2.out rfl
              rw [hR] at hLY
              go_wp2_with (go_at_call 53; refine (onlyFinite_any _ w.heap.size _ Y _ (by exact oY') (by omega)).mono ?_; rintro e w9 ⟨he, q, rfl⟩; rw [hf] at he; subst he)
              go_ret2
              exact ⟨_, Y, rfl, own_drew oY' _, hLY.like, Below.drewN hb7 _⟩
end Go.Proofs.Ytogmcinaoemnpaa
