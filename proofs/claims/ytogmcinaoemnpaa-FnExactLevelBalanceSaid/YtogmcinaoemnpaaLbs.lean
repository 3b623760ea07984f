
/- Levels in balance: as the model tells them. -/
import Derived.Test.YtogmcinaoemnpaaLbp
import Derived.Test.YtogmcinaoemnpaaSly
import Derived.Test.YtogmcinaoemnpaaLvo
import Derived.Test.YtogmcinaoemnpaaSto
import Derived.Test.YtogmcinaoemnpaaPushS
import Derived.Test.YtogmcinaoemnpaaPush0
import Derived.Deep.Cut
import Derived.Deep.DeepCutAuto
namespace Go.Proofs.Ytogmcinaoemnpaa
set_option linter.all false
open Go Go.ChangeShapes Go.WideShapes Go.ChangeAt Go.RowKit

set_option maxRecDepth 100000 in
set_option maxHeartbeats 6400000 in
theorem specLb_yes (N : Nat) (ra : Option Addr) (L rc : Nat) (A : Nat → Nat) (w : World) (hA : Rd w ra L A) (hok : lvOk (N : Int) L A = true) (hLm : L ≤ 1048576) (hL : L = N * N) (hN6 : N ≤ 6) (hN1 : 1 ≤ N) (hgL : gL A L = true) (hAw : ∀ k, A k < 4294967296)
    (p : Nat) (ok : Bool) (hg : Hid (ok = lbG N A)) (hp : Hid (p = if ok = true then N else 0)) :
    Calls Try.prog 10 #[.int .i64 (N : Int), .slice ra L rc] w (OutRet (lbR N A) p ok w) := by
  obtain ⟨i0, hi, hz0, hz1, hz2⟩ := info_parts infoF
  obtain ⟨i1, hj, hy0, hy1, hy2⟩ := info_parts infoT
  have HR := Lib.hid (specRates_any (N : Int) ra L rc A w hA hLm true (Lib.hid hok.symm))
  have HO := Lib.hid (fun w hA k hk => specOut_any N ra L rc A k w hA hL hN6 hN1 hk hgL)
  have HA := Lib.hid hA
  have HL := Lib.hid hL
  have HW := Lib.hid (lbM_words (n := N) hAw)
  have HAw := Lib.hid hAw
  obtain ⟨xb, xo, hxa, hcx⟩ := id hA
  have HX := Lib.hid hcx
  have e := hxa (by rw [hL]; exact Nat.mul_pos hN1 hN1)
  subst e
  clear hok hA hL hAw hgL hcx hxa
  go_enter Try.func10, Try.ntmps10
  go_wp2_with (go_at_call 45; refine HR.out.mono ?_; rintro e w' ⟨rfl, q, rfl⟩)
  obtain ⟨B, hBv⟩ : ∃ B, B = w.heap.size := ⟨_, rfl⟩
  obtain ⟨w0, hw0⟩ : ∃ w0, w0 = w.drewN q := ⟨_, rfl⟩
  have hs0 : w0.heap.size = B := by rw [hw0, hBv]; rfl
  obtain ⟨wb, hwb⟩ : ∃ wb, wb = (w0.alloc (.cells #[] 22)).alloc (.cells #[] 32) := ⟨_, rfl⟩
  have HBl0 : Bld wb B N 0 (.slice (some ⟨B, 0, none⟩) 0 0) (fun _ => 0) (fun _ => 0) (fun _ _ => 0) := by rw [hwb, ← hs0]; exact (Bld.empty w0 N _ _ _).alloc _
  have HO0 : wb.ownsRow B 32 1 (.slice (some ⟨B + 1, 0, none⟩) 0 0) 0 (rowOf (fun _ => 0) 0) := by
    rw [hwb, ← hs0]
    have := own_empty (w0.alloc (.cells #[] 22)) (fun _ => 0)
    exact own_mono0 (by simpa using this) (by simp)
  have HBb : Below B w0 wb := by rw [hwb, ← hs0]; exact ((Below.refl _ _).alloc (Nat.le_refl _) _).alloc (by simp) _
  go_wp2
  rw [← hw0, ← hwb, ← hBv]
  have hB0 : B ≤ w0.heap.size := by omega
  have HB0 := Lib.hid (show Below w.heap.size w w0 by rw [hw0]; exact Below.drewN (Below.refl _ _) _)
  have HBw := Lib.hid hBv
  have hne0 : ∀ i, i < 0 → some ((fun _ : Nat => (0 : Nat)) i) ≠ (Value.slice (some ⟨B + 1, 0, none⟩) 0 0).ownBlock := fun i hi => absurd hi (Nat.not_lt_zero _)
  clear hwb hw0 hs0 hBv
  go_loopw [6, 7, 8] (fun x y i wr => ∃ (k : Nat) (R C : Nat → Nat) (V : Nat → Nat → Nat) (vo vr : Value), k ≤ N ∧ vo = x ∧ vr = y ∧ i = .int .i64 (k : Int) ∧ Bld wr B N k vo R C V ∧ wr.ownsRow B 32 1 vr k (rowOf (fun _ => 0) k) ∧ (∀ i, i < k → some (R i) ≠ vr.ownBlock) ∧ Hid (LikeM k N V (lbM N A)) ∧ Below B w0 wr) (fun _ _ i _ => N - (intOf i).toNat)
  case atStart => exact ⟨0, _, _, _, _, _, Nat.zero_le _, rfl, rfl, rfl, HBl0, HO0, hne0, Lib.hid (fun i hi => absurd hi (Nat.not_lt_zero _)), HBb⟩
  case round =>
    clear HBl0 HO0 HBb hne0
    obtain ⟨k, R, C, V, vo, vr, hk, rfl, rfl, rfl, hBl, hVr, hne, HLk, hBk⟩ := hrel
    have hszr := hBk.size
    by_cases hlt : k < N
    · obtain ⟨wo, hwo⟩ : ∃ wo, wo = wr := ⟨_, rfl⟩
      subst hwo
      have HBl := Lib.hid hBl
      have HVr := Lib.hid hVr
      have HNe := Lib.hid hne
      have HBk := Lib.hid hBk
      have hkN : (k : Int) < (N : Int) := by omega
      have hwB : B ≤ wo.heap.size := by omega
      clear hBl hVr hne hBk
      go_wp2
      go_loopw [9, 10] (fun v i wr => ∃ (c : Nat) (Y : Nat → Nat), c ≤ N ∧ i = .int .i64 (c : Int) ∧ wr.ownsRow wo.heap.size 32 1 v c (rowOf Y c) ∧ Hid (∀ j, j < c → ∃ t, Y j = pick .f32 (lbM N A k j) t) ∧ Below wo.heap.size wo wr) (fun _ i _ => N - (intOf i).toNat)
      case atStart => exact ⟨0, fun _ => 0, Nat.zero_le _, rfl, own_empty _ _, Lib.hid (fun j hj => absurd hj (Nat.not_lt_zero _)), Below.alloc (Below.refl _ _) (Nat.le_refl _) _⟩
      case round =>
        obtain ⟨c, Y, hc, rfl, hownc, HY, hBc⟩ := hrel
        by_cases hltc : c < N
        · obtain ⟨wu, hwu⟩ : ∃ wu, wu = wr := ⟨_, rfl⟩
          subst hwu
          have hidx : c * N + k < L := by rw [HL.out]; exact idx_lt hltc hlt
          have r1 := HX.out (c * N + k) hidx
          have HBu := Lib.hid (HB0.out.trans (HBk.out.mono (by have := HBw.out; omega)) |>.trans (hBc.mono (by have := HBw.out; have := HB0.out.size; omega)))
          have r2 : wu.cell? ⟨xb, xo + (c * N + k), none⟩ = some (.float .f32 (A (c * N + k))) := (HBu.out.cell (p := ⟨xb, xo + (c * N + k), none⟩) (World.block_lt_of_cell? w _ r1)).trans r1
          have hAu : Rd wu (some ⟨xb, xo, none⟩) L A := HA.out.below HBu.out
          have HOu := Lib.hid (HO.out wu hAu k hlt)
          have hmw := mul_wrap hN6 (show c ≤ 6 by omega)
          have haw : ((c * N : Nat) : Int) + (k : Int) = ((c * N + k : Nat) : Int) := by omega
          have hL36 := idx_small hN6 hN6
          rw [← HL.out] at hL36
          obtain ⟨p, hp'⟩ : ∃ p, p = c * N + k := ⟨_, rfl⟩
          obtain ⟨m, hmn⟩ : ∃ m, m = c * N := ⟨_, rfl⟩
          have HP := Lib.hid hp'
          rw [← hp'] at r2 hidx haw
          rw [← hmn] at hmw haw
          have hpw : IntKind.i64.wrap ((m : Int) + (k : Int)) = (p : Int) := by rw [haw, IntKind.wrap_i64]; omega
          have hp36 : (p : Int) < (L : Int) := by omega
          have hszu := hBc.size
          have hcN : (c : Int) < (N : Int) := by omega
          have hpr := fun op => fbin_pick_r op .f32
          have HOc := Lib.hid hownc
          have HBc := Lib.hid hBc
          clear r1 hp' hmn haw hAu hownc hBc
          by_cases hkn : k = N - 1
          · have d1 : ((k : Int) == (N : Int) - 1) = true := by simp; omega
            have HKN := Lib.hid hkn
            clear hkn
            by_cases hck : c = k
            · have d0 : ((c : Int) == (k : Int)) = true := by simp; omega
              have HCK := Lib.hid hck
              clear hck
              go_wp2_with (first | ((with_reducible refine wpL_fbin ?_); refine ⟨_, _, _, rfl, rfl, rfl, fun s n => ?_⟩) | (go_at_call 46; refine HOu.out.mono ?_; rintro e w' ⟨rfl, rfl⟩) | (at_builtin; refine wpL_pushA hi hz0 hz1 hz2 rfl rfl rfl rfl (by simp) (by exact own_drew HOc.out _) (by omega) (by first | omega | (simp; omega)) ?_; intro v' w3 hown3 hB3))
              go_roundw
              case rel => exact ⟨c + 1, _, by omega, by go_num, hown3, Lib.hid (row_next HY.out (lb_one HKN.out)), (Below.drewN HBc.out _).trans hB3⟩
              case measure => simp [intOf]; omega
            · have d0 : ((c : Int) == (k : Int)) = false := by simp; omega
              have HCK := Lib.hid hck
              clear hck
              go_wp2_with (first | ((with_reducible refine wpL_fbin ?_); refine ⟨_, _, _, rfl, rfl, rfl, fun s n => ?_⟩) | (at_builtin; refine wpL_pushA hi hz0 hz1 hz2 rfl rfl rfl rfl (by simp) (by exact HOc.out) (by omega) (by first | omega | (simp; omega)) ?_; intro v' w3 hown3 hB3))
              go_roundw
              case rel => exact ⟨c + 1, _, by omega, by go_num, hown3, Lib.hid (row_next HY.out (lb_one HKN.out)), HBc.out.trans hB3⟩
              case measure => simp [intOf]; omega
          · have d1 : ((k : Int) == (N : Int) - 1) = false := by simp; omega
            have HKN := Lib.hid hkn
            clear hkn
            by_cases hck : c = k
            · have d0 : ((c : Int) == (k : Int)) = true := by simp; omega
              have HCK := Lib.hid hck
              clear hck
              go_wp2_with (first | ((with_reducible refine wpL_fbin ?_); refine ⟨_, _, _, rfl, rfl, rfl, fun s n => ?_⟩) | (go_at_call 46; refine HOu.out.mono ?_; rintro e w' ⟨rfl, rfl⟩) | (at_builtin; refine wpL_pushA hi hz0 hz1 hz2 rfl rfl rfl rfl (by simp) (by exact own_drew HOc.out _) (by omega) (by first | omega | (simp; omega)) ?_; intro v' w3 hown3 hB3))
              go_roundw
              case rel => exact ⟨c + 1, _, by omega, by go_num, hown3, Lib.hid (row_next HY.out (lb_diag HKN.out HCK.out hltc _)), (Below.drewN HBc.out _).trans hB3⟩
              case measure => simp [intOf]; omega
            · have d0 : ((c : Int) == (k : Int)) = false := by simp; omega
              have HCK := Lib.hid hck
              clear hck
              go_wp2_with (first | ((with_reducible refine wpL_fbin ?_); refine ⟨_, _, _, rfl, rfl, rfl, fun s n => ?_⟩) | (at_builtin; refine wpL_pushA hi hz0 hz1 hz2 rfl rfl rfl rfl (by simp) (by exact HOc.out) (by omega) (by first | omega | (simp; omega)) ?_; intro v' w3 hown3 hB3))
              go_roundw
              case rel => exact ⟨c + 1, _, by omega, by go_num, hown3, Lib.hid (row_next HY.out (lb_off HAw.out HKN.out HCK.out hltc HP.out)), HBc.out.trans hB3⟩
              case measure => simp [intOf]; omega
        · obtain rfl : c = N := by omega
          obtain ⟨g, cg, rfl⟩ := own_some2 hownc hN1
          have hge := own_ge hownc
          obtain ⟨wu, hwu⟩ : ∃ wu, wu = wr := ⟨_, rfl⟩
          subst hwu
          have hszu := hBc.size
          have hBl2 := HBl.out.below hBc
          have hVr2 := own_below HVr.out hBc
          have hBk2 := HBk.out.trans (hBc.mono hwB)
          have hRg : ∀ i, i < k → R i ≠ g := fun i hi => by have := HBl.out.lt hi; omega
          have hvg : vr.ownBlock ≠ some g := fun e => by have := (HVr.out.lt g e).2; omega
          have HOc := Lib.hid hownc
          clear hownc hBc
          go_wp2_with (first | (at_builtin; refine wpL_pushS hj hy0 hy1 hy2 rfl rfl rfl rfl (by first | rfl | simp) (by rfl) (by exact hBl2.outer) (by omega) (by omega) ?_; intro v6 w6 ho6 hg6 hat6; have hBl6 := hBl2.push (own_mono0 HOc.out hwB) hRg ho6 hg6; have hB6 := below_push hBl2.outer (by omega) hg6; have hV6 := (hVr2.alloc _).kept hg6 (own_types (hVr2) hBl2.outer types_ne); have hz6 := hB6.size; clear ho6 hg6 hat6) | (at_builtin; refine wpL_pushT hi hz0 hz1 hz2 rfl rfl rfl rfl (by first | rfl | simp) (by exact hV6) (by omega) (by omega) ?_; intro v7 w7 ho7 hg7 hat7))
          have hB7 := below_push hV6 (by omega) hg7
          have hg7' := (World.grownBy_alloc w6 (.cells #[.float .f32 0] 32) vr.ownBlock).trans hg7
          have hR6 : ∀ i, i < k + 1 → some (if i = k then g else R i) ≠ vr.ownBlock := fun i hi => by
            by_cases e : i = k
            · rw [if_pos e]; exact fun e' => hvg e'.symm
            · rw [if_neg e]; exact HNe.out i (by omega)
          have hBl7 := hBl6.keep hg7' hR6 (own_types hBl6.outer hV6 types_ne.symm)
          have hne7 : ∀ i, i < k + 1 → some (if i = k then g else R i) ≠ v7.ownBlock := fun i hi => by
            rcases hat7 with e | e
            · rw [e]; exact hR6 i hi
            · rw [e]
              have := hBl6.lt hi
              intro e'
              simp only [Option.some.injEq] at e'
              omega
          rw [rowOf_congr (Y := fun _ => 0) (fun j _ => by split <;> rfl)] at ho7
          have HL7 := Lib.hid (HLk.out.next HY.out)
          have HB7 := (hBk2.trans (hB6.mono (by omega))).trans hB7
          go_roundw
          case rel => exact ⟨k + 1, _, _, _, _, _, by omega, rfl, rfl, by go_num, hBl7, ho7, hne7, HL7, HB7⟩
          case measure => simp [intOf]; omega
    · obtain rfl : k = N := by omega
      obtain ⟨xbo, capo, rfl⟩ := outer_some hBl.outer hN1
      obtain ⟨rb, cr, rfl⟩ := own_some2 hVr hN1
      obtain ⟨wo, hwo⟩ : ∃ wo, wo = wr := ⟨_, rfl⟩
      subst hwo
      have hnl : ¬ ((k : Int) < (k : Int)) := by omega
      have hkk : k - 1 < k := by omega
      have hcl := own_cell hVr hkk
      have hfz := hVr.frozenAt (k - 1)
      have st := own_store0 hVr hkk 1065353216
      have hw1 : IntKind.i64.wrap ((k : Int) - 1) = ((k - 1 : Nat) : Int) := by rw [IntKind.wrap_i64]; omega
      have hki : ((k - 1 : Nat) : Int) < (k : Int) := by omega
      have hneR : ∀ i, i < k → R i ≠ rb := fun i hi e => hne i hi (by simp [Value.ownBlock, e])
      have hxr : xbo ≠ rb := fun e => by
        rcases own_types hVr hBl.outer types_ne with h1 | h1
        · simp [Value.ownBlock] at h1
        · exact h1 (by simp [Value.ownBlock, e])
      obtain ⟨w5, hw5⟩ : ∃ w5, w5 = wo.setCell ⟨rb, k - 1, none⟩ (.float .f32 1065353216) := ⟨_, rfl⟩
      have hO5 : Only rb wo w5 := by rw [hw5]; exact (Only.refl _ _).setCell _ _
      have hV5 := own_stored hVr (k - 1) 1065353216
      rw [← hw5] at hV5
      have hBl5 := hBl.only hxr hneR hO5
      have hSys := hBl5.sys hV5 hneR
      have hB5 : Below B w0 w5 := by rw [hw5]; exact hBk.setCell (p := ⟨rb, k - 1, none⟩) (own_ge hVr) _
      have hL5 := lb_sys HLk.out
      have HSv := Lib.hid (l04Solve_any k B xbo rb capo cr _ _ _ (lbM k A) w5 hSys hL5 HW.out hN1 (by omega) (by have := hB5.size; omega))
      have hBW := HBw.out
      have hB6 := HB0.out.trans (hB5.mono (by omega))
      have hB0z := HB0.out.size
      clear hSys hL5 hBl5 hV5 hO5 hBl hVr hne hneR hBk
      go_upto_region 21 with (fail)
      rw [← hw5]
      clear hw5 hcl hfz st
      have hBw' : w.heap.size ≤ B := by omega
      have hk6 : k ≤ 1048576 := by omega
      clear hBW hw1 hki hkk hxr hB5 hB0z hszr hk hlt
      go_wp2_with fail
      refine HSv.out.mono ?_
      rintro e w7 (⟨hno, rfl, b7⟩ | ⟨hyes, g, Y, rfl, oY, hLY, b7⟩)
      · have hf := hg.out
        unfold lbG at hf
        rw [hno] at hf
        have e : ok = false := hf
        clear hf
        subst e
        have e : p = 0 := by rw [hp.out]; rfl
        subst e
        have hb7 := hB6.trans (b7.mono hBw')
        go_wp2
        go_ret2
        exact OutRet.no hb7
      · have hb7 := hB6.trans (b7.mono hBw')
        have hf := hg.out
        unfold lbG at hf
        rw [hyes] at hf
        have hf2 : finL Y k = ok := by rw [finL_like hLY.like, hf]; rfl
        clear hf
        have hf := hf2
        clear hf2
        have oY' := own_mono0 oY hBw'
        clear oY
        cases ok
        · have e : p = 0 := by rw [hp.out]; rfl
          subst e
          go_wp2_with (go_at_call 48; refine (l02List_any _ w.heap.size _ Y _ (by exact oY') (by omega)).mono ?_; rw [hf]; rintro e w9 ⟨rfl, q, rfl⟩)
          go_ret2
          exact OutRet.no (Below.drewN hb7 _)
        · have e : k = p := by rw [hp.out]; rfl
          subst e
          go_wp2_with (go_at_call 48; refine (l02List_any _ w.heap.size _ Y _ (by exact oY') (by omega)).mono ?_; rw [hf]; rintro e w9 ⟨rfl, q, rfl⟩)
          go_ret2
          exact ⟨_, Y, rfl, own_drew oY' _, hLY.like, Below.drewN hb7 _⟩
end Go.Proofs.Ytogmcinaoemnpaa
