
/- The curve of a lamp: as the program tells it. -/
import Derived.Test.YtogmcinaoemnpaaLcq
import Derived.Test.YtogmcinaoemnpaaSlu
import Derived.Test.YtogmcinaoemnpaaPushS
import Derived.Test.YtogmcinaoemnpaaPush0
import Derived.Test.YtogmcinaoemnpaaQ5
import Derived.Test.YtogmcinaoemnpaaRo
import Derived.Test.YtogmcinaoemnpaaSto
import Derived.Deep.Cut
import Derived.Deep.DeepCutAuto
import Derived.Deep.RegionLawGrows
namespace Go.Proofs.Ytogmcinaoemnpaa
set_option linter.all false
open Go Go.ChangeShapes Go.WideShapes Go.ChangeAt Go.RowKit

set_option maxRecDepth 100000 in
set_option maxHeartbeats 6400000 in
theorem implLc_yes (xa ya : Option Addr) (n cx cy : Nat) (X Y : Nat → Nat) (w : World) (hX : Rd w xa n X) (hY : Rd w ya n Y) (hk : prsB X Y n n 3 16 = true) (hn3 : 3 ≤ n) (hn16 : n ≤ 16)
    (p : Nat) (ok : Bool) (hg : Hid (ok = lcG X Y n)) (hp : Hid (p = if ok = true then 3 else 0)) :
    Calls Try.prog 17 #[.slice xa n cx, .slice ya n cy] w (OutRet (lcR X Y n) p ok w) := by
  obtain ⟨i0, hi, hz0, hz1, hz2⟩ := info_parts infoF
  obtain ⟨i1, hj, hy0, hy1, hy2⟩ := info_parts infoT
  have HPR := Lib.hid (fun w => arePairs_any xa ya n n cx cy X Y 3 16 w)
  rw [hk] at HPR
  have HX := Lib.hid hX
  have HY := Lib.hid hY
  have HW := Lib.hid (lcM_words X Y n)
  have HG := Lib.hid (lcG_prog X Y n)
  have hn : n ≤ 1048576 := by omega
  clear hk hX hY
  go_enter Try.func17, Try.ntmps17
  go_wp2_with fail
  refine (HPR.out _ (by exact HX.out) (by exact HY.out) hn hn).mono ?_
  rintro e w1 ⟨rfl, q, rfl⟩
  go_wp2
  obtain ⟨wz, hwz⟩ : ∃ wz, wz = ((w.drewN q).alloc (Obj.cells #[Value.float FloatKind.f32 0, Value.float FloatKind.f32 0, Value.float FloatKind.f32 0, Value.float FloatKind.f32 0, Value.float FloatKind.f32 0] 79)).alloc (Obj.cells #[Value.float FloatKind.f32 0, Value.float FloatKind.f32 0, Value.float FloatKind.f32 0] 80) := ⟨_, rfl⟩
  rw [← hwz]
  obtain ⟨b1, hb1⟩ : ∃ b1, b1 = w.heap.size := ⟨_, rfl⟩
  obtain ⟨b2, hb2⟩ : ∃ b2, b2 = w.heap.size + 1 := ⟨_, rfl⟩
  have hO1 : wz.ownsRow w.heap.size 79 1 (.slice (some ⟨b1, 0, none⟩) 5 5) 5 (rowOf (fun _ => 0) 5) := by
    rw [hwz, hb1]
    exact (own_arr (w.drewN q) _ _ 5 (fun _ => 0) rfl (by omega)).alloc _
  have hO2 : wz.ownsRow w.heap.size 80 1 (.slice (some ⟨b2, 0, none⟩) 3 3) 3 (rowOf (fun _ => 0) 3) := by
    have := own_arr ((w.drewN q).alloc (Obj.cells #[Value.float FloatKind.f32 0, Value.float FloatKind.f32 0, Value.float FloatKind.f32 0, Value.float FloatKind.f32 0, Value.float FloatKind.f32 0] 79)) #[Value.float FloatKind.f32 0, Value.float FloatKind.f32 0, Value.float FloatKind.f32 0] 80 3 (fun _ => 0) rfl (by omega)
    rw [← hwz] at this
    rw [hb2]
    exact own_mono0 (by simpa using this) (by simp)
  have hBz : Below w.heap.size w wz := by rw [hwz]; exact ((Below.drewN (Below.refl _ _) _).alloc (Nat.le_refl _) _).alloc (by simp) _
  have hbn : b1 ≠ b2 := by omega
  have hb1B : w.heap.size ≤ b1 := by omega
  have hb2B : w.heap.size ≤ b2 := by omega
  rw [← hb2, ← hb1]
  have hp1 := fun op => fbin_pick_l op .f32
  have hq1 := fun op => fbin_pick_r op .f32
  clear hwz hb1 hb2
  go_loopw [22] (fun i wr => ∃ (c : Nat) (Z U : Nat → Nat), c ≤ n ∧ i = .int .i64 (c : Int) ∧ wr.ownsRow w.heap.size 79 1 (.slice (some ⟨b1, 0, none⟩) 5 5) 5 (rowOf Z 5) ∧ wr.ownsRow w.heap.size 80 1 (.slice (some ⟨b2, 0, none⟩) 3 3) 3 (rowOf U 3) ∧ LikeP Z (lcS X c) 5 ∧ LikeP U (lcT X Y c) 3 ∧ Below w.heap.size w wr) (fun i _ => n - (intOf i).toNat)
  case atStart => exact ⟨0, _, _, Nat.zero_le _, rfl, hO1, hO2, fun j _ => ⟨0, by show 0 = pick .f32 0 0; rw [pick_nul]⟩, fun j _ => ⟨0, by show 0 = pick .f32 0 0; rw [pick_nul]⟩, hBz⟩
  case round =>
    clear hO1 hO2 hBz
    obtain ⟨c, Z, U, hc, rfl, hO1, hO2, hL1, hL2, hBr⟩ := hrel
    by_cases hlt : c < n
    · obtain ⟨xb, xo, ex, hcx⟩ := (HX.out.below hBr).cell hlt
      obtain ⟨yb, yo, ey, hcy⟩ := (HY.out.below hBr).cell hlt
      subst ex
      subst ey
      have hci : (c : Int) < (n : Int) := by omega
      obtain ⟨wo, hwo⟩ : ∃ wo, wo = wr := ⟨_, rfl⟩
      subst hwo
      have HL1 := Lib.hid hL1
      have HL2 := Lib.hid hL2
      have HO1 := Lib.hid hO1
      have HO2 := Lib.hid hO2
      have HBr := Lib.hid hBr
      obtain ⟨yb', yo', ey, hyw⟩ := HY.out.cell hlt
      cases ey
      have HYc := Lib.hid hyw
      have HYl := Lib.hid (World.block_lt_of_cell? w _ hyw)
      clear hyw
      clear hL1 hL2 hO1 hO2 hBr
      go_wp2
      go_loopw [10, 27] (fun pw i wr => ∃ (k s : Nat) (Z U : Nat → Nat), k ≤ 5 ∧ i = .int .i64 (k : Int) ∧ pw = .float .f32 (pick .f32 (lcP X c k) s) ∧ wr.ownsRow w.heap.size 79 1 (.slice (some ⟨b1, 0, none⟩) 5 5) 5 (rowOf Z 5) ∧ wr.ownsRow w.heap.size 80 1 (.slice (some ⟨b2, 0, none⟩) 3 3) 3 (rowOf U 3) ∧
        LikeP Z (fun j => if j < k then lcS X (c + 1) j else lcS X c j) 5 ∧ LikeP U (fun j => if j < k then lcT X Y (c + 1) j else lcT X Y c j) 3 ∧ Below w.heap.size w wr) (fun _ i _ => 5 - (intOf i).toNat)
      case atStart => exact ⟨0, 0, Z, U, by omega, rfl, by rw [show lcP X c 0 = 1065353216 from rfl, pick_num (by decide +kernel)], HO1.out, HO2.out, by simpa using HL1.out, by simpa using HL2.out, HBr.out⟩
      case round =>
        obtain ⟨k, s, Z, U, hk5, rfl, rfl, hO1, hO2, hL1, hL2, hBk⟩ := hrel
        by_cases hlk : k < 5
        · obtain ⟨wu, hwu⟩ : ∃ wu, wu = wr := ⟨_, rfl⟩
          subst hwu
          obtain ⟨s1, e1⟩ := hL1.old hlk
          have z1 := own_cell hO1 hlk
          rw [e1] at z1
          have st := fun q u => own_store hO1 hlk q u
          have hk5i : (k : Int) < 5 := by omega
          obtain ⟨P, hP⟩ : ∃ P, P = lcP X c k := ⟨_, rfl⟩
          obtain ⟨E, hE⟩ : ∃ E, E = fbin .add .f32 (lcS X c k) P := ⟨_, rfl⟩
          have HE := Lib.hid (show lcS X (c + 1) k = E by rw [hE, hP]; rfl)
          rw [← hP]
          obtain ⟨S, hS⟩ : ∃ S, S = lcS X c k := ⟨_, rfl⟩
          rw [← hS] at hE z1
          have hE2 : fbin .add .f32 S P = E := hE.symm
          have HO1 := Lib.hid (fun q u => own_stored (own_drew hO1 q) k u)
          have HO2 := Lib.hid (fun q u => own_other (own_drew hO2 q) (Ne.symm hbn) ((Only.refl b1 (wu.drewN q)).setCell k (.float .f32 u)))
          have HBu := Lib.hid (fun q u => (Below.drewN hBk q).setCell (p := ⟨b1, k, none⟩) hb1B (.float .f32 u))
          have HL1 := Lib.hid hL1
          have HL2 := Lib.hid hL2
          have HP := Lib.hid hP
          clear hO1 hO2 hL1 hL2 hBk hE hS hP e1
          go_upto_region 13 with (first | ((with_reducible refine wpL_fbin ?_); refine ⟨_, _, _, rfl, rfl, rfl, fun sE nE => ?_⟩))
          obtain ⟨w3, hw3⟩ : ∃ w3, w3 = (wu.drewN nE).setCell ⟨b1, k, none⟩ (.float .f32 (pick .f32 E sE)) := ⟨_, rfl⟩
          rw [← hw3]
          have hO1 := HO1.out nE (pick .f32 E sE)
          have hO2 := HO2.out nE (pick .f32 E sE)
          have hBu := HBu.out nE (pick .f32 E sE)
          rw [← hw3] at hO1 hO2 hBu
          have hL1 := HL1.out.part (u := pick .f32 E sE) (s := sE) (by rw [HE.out])
          have HO1 := Lib.hid hO1
          have HL1 := Lib.hid hL1
          have hcy := (hBu.cell (p := ⟨yb, yo + c, none⟩) HYl.out).trans HYc.out
          have HBu := Lib.hid hBu
          have HPn := Lib.hid (show lcP X c (k + 1) = fbin .mul .f32 P (X c) by rw [HP.out]; rfl)
          clear hw3 hO1 hBu hL1 z1 st hE2
          by_cases hk3 : k < 3
          · have hk3i : (k : Int) < 3 := by omega
            obtain ⟨s2, e2⟩ := HL2.out.old hk3
            have z2 := own_cell hO2 hk3
            rw [e2] at z2
            have hfz := hO2.frozenAt k
            obtain ⟨T, hT⟩ : ∃ T, T = lcT X Y c k := ⟨_, rfl⟩
            obtain ⟨D, hD⟩ : ∃ D, D = fbin .add .f32 T (fbin .mul .f32 P (Y c)) := ⟨_, rfl⟩
            have HD := Lib.hid (show lcT X Y (c + 1) k = D by rw [hD, hT, HP.out]; rfl)
            rw [← hT] at z2
            have hD2 : fbin .add .f32 T (fbin .mul .f32 P (Y c)) = D := hD.symm
            have m1 := mul32_runS
            have m2 := run_add32
            have st := run_store_f32
            have HO2 := Lib.hid hO2
            clear hO2 hT hD e2
            go_wp2_with fail
            go_region
            generalize hsd : pick .f32 D _ = uD
            have HU := Lib.hid (show ∃ s, uD = pick .f32 D s from ⟨_, hsd.symm⟩)
            clear hsd hD2 z2 hfz m1 m2 st
            go_wp2_with (first | ((with_reducible refine wpL_fbin ?_); refine ⟨_, _, _, rfl, rfl, rfl, fun sF nF => ?_⟩))
            go_roundw
            case rel =>
              obtain ⟨t, ht⟩ := HU.out
              exact ⟨k + 1, sF, _, _, by omega, by go_num, by rw [HPn.out], own_drew (own_other (own_drew HO1.out _) hbn ((Only.refl b2 _).setCell k _)) _, own_drew (own_stored (own_drew HO2.out _) k _) _, HL1.out, HL2.out.part (by rw [HD.out]; exact ht), Below.drewN ((Below.drewN HBu.out _).setCell (p := ⟨b2, k, none⟩) hb2B _) _⟩
            case measure => simp [intOf]; omega
          · have hk3i : ¬ (k : Int) < 3 := by omega
            have HO2 := Lib.hid hO2
            clear hO2
            go_wp2_with (first | ((with_reducible refine wpL_fbin ?_); refine ⟨_, _, _, rfl, rfl, rfl, fun sF nF => ?_⟩))
            go_roundw
            case rel =>
              exact ⟨k + 1, sF, _, _, by omega, by go_num, by rw [HPn.out], own_drew HO1.out _, own_drew HO2.out _, HL1.out, HL2.out.over (by omega), Below.drewN HBu.out _⟩
            case measure => simp [intOf]; omega
        · obtain rfl : k = 5 := by omega
          have hL1 := hL1.full (Nat.le_refl _)
          have hL2 := hL2.full (by omega : 3 ≤ 5)
          clear hlk hk5
          go_wp2
          go_roundw
          case rel => exact ⟨c + 1, Z, U, by omega, by go_num, hO1, hO2, hL1, hL2, hBk⟩
          case measure => simp [intOf]; omega
    · obtain rfl : c = n := by omega
      obtain ⟨wo, hwo⟩ : ∃ wo, wo = wr := ⟨_, rfl⟩
      subst hwo
      have hnl : ¬ (c : Int) < (c : Int) := by omega
      have HL1 := Lib.hid hL1
      have HL2 := Lib.hid hL2
      have HO1 := Lib.hid hO1
      have HO2 := Lib.hid hO2
      have HBr := Lib.hid hBr
      clear hL1 hL2 hO1 hO2 hBr
      go_wp2_with (at_make; refine wpList_make_full _ rfl _ _ 64 rfl w.heap.size 22 i1 (.slice none 0 0) 1 Try.underlying64 hj hy0 hy1 _ _ _ _ 3 rfl rfl rfl rfl (by rw [hy2]; omega) (by unfold maxLen; omega) (by have := HBr.out.size; omega) ?_)
      intro wm hown hgr
      obtain ⟨xb, hxb⟩ : ∃ xb, xb = wo.heap.size := ⟨_, rfl⟩
      rw [← hxb] at hown ⊢
      have hBm : Below wo.heap.size wo wm := (Below.refl wo.heap.size wo).grown hgr (by simp) (fun _ h => by cases h)
      have hszo := HBr.out.size
      rw [made3S] at hown
      have hR0 : Rows3 wm w.heap.size xb 0 (fun _ => 0) (fun _ => 0) (fun _ _ => 0) := ⟨hown, fun i hi => absurd hi (Nat.not_lt_zero _), fun i _ hi => absurd hi (Nat.not_lt_zero _)⟩
      have hO1 := own_below HO1.out hBm
      have hO2 := own_below HO2.out hBm
      have hB0 := HBr.out.trans (hBm.mono hszo)
      have hxl0 : w.heap.size ≤ xb := by omega
      have hxn1 : b1 ≠ xb := fun e => by have := own_lt HO1.out; omega
      have hxn2 : b2 ≠ xb := fun e => by have := own_lt HO2.out; omega
      clear hown hgr hBm HO1 HO2 HBr hxb
      go_wp2
      go_loopw [57] (fun i wr => ∃ (k : Nat) (R C : Nat → Nat) (V : Nat → Nat → Nat), k ≤ 3 ∧ i = .int .i64 (k : Int) ∧ Rows3 wr w.heap.size xb k R C V ∧ Hid (LikeM k 4 V (lcM X Y c)) ∧ wr.ownsRow w.heap.size 79 1 (.slice (some ⟨b1, 0, none⟩) 5 5) 5 (rowOf Z 5) ∧ wr.ownsRow w.heap.size 80 1 (.slice (some ⟨b2, 0, none⟩) 3 3) 3 (rowOf U 3) ∧ Below w.heap.size w wr) (fun i _ => 3 - (intOf i).toNat)
      case atStart => exact ⟨0, _, _, _, by omega, rfl, hR0, Lib.hid (fun i hi => absurd hi (Nat.not_lt_zero _)), hO1, hO2, hB0⟩
      case round =>
        clear hR0 hO1 hO2 hB0
        obtain ⟨k, R, C, V, hk, rfl, hR, HLk, hO1, hO2, hBk⟩ := hrel
        by_cases hlk : k < 3
        · obtain ⟨wu, hwu⟩ : ∃ wu, wu = wr := ⟨_, rfl⟩
          subst hwu
          have hki : (k : Int) < 3 := by omega
          have r1 := hR.outer.cellAt k (by omega)
          rw [show ((List.range 3).map fun i => if i < k then Value.slice (some ⟨R i, 0, none⟩) 4 (C i) else .slice none 0 0)[k]? = some (.slice none 0 0) by simp [hlk]] at r1
          have f1 := hR.outer.frozenAt k
          have hxl := own_lt hR.outer
          have z0 := own_cell hO1 (show k < 5 by omega)
          have z1 := own_cell hO1 (show k + 1 < 5 by omega)
          have z2 := own_cell hO1 (show k + 2 < 5 by omega)
          have u0 := own_cell hO2 hlk
          have hl1 := own_lt hO1
          have hw3 : IntKind.i64.wrap ((k : Int) + 3) = (k : Int) + 3 := by rw [IntKind.wrap_i64]; omega
          have hsl : ∀ W, (Instr.sliceAt 79 (.pointer (some ⟨b1, 0, none⟩)) (some (.int .i64 (k : Int))) (some (.int .i64 ((k : Int) + 3))) (some (.int .i64 ((k : Int) + 3)))).run Try.prog W = .ok (.slice (some ⟨b1, k, none⟩) 3 3) W := by
            rcases (by omega : k = 0 ∨ k = 1 ∨ k = 2) with rfl | rfl | rfl <;> (intro W; kernel_rfl)
          have hst := run_store_s
          have HR := Lib.hid hR
          have HO1 := Lib.hid hO1
          have HO2 := Lib.hid hO2
          have HBk := Lib.hid hBk
          clear hR hO1 hO2 hBk
          go_wp2_with fail
          have hol := lc_olds z0 z1 z2 (.cells #[.float .f32 (U k)] 32)
          have hnw := cell_one_new wu.drew (.float .f32 (U k)) 32
          have hon : ∀ u ∈ [Value.float .f32 (U k)], u.oneCell' = true := fun u hu => by simp at hu; subst hu; rfl
          go_region_law (refine step_append_grows rfl (.tmp 67) (.tmp 71) 22 rfl 32 i0 (.float .f32 0) 1 4 Try.underlying22 hi hz0 hz1 hz2 rfl (by decide) (some ⟨b1, k, none⟩) 3 3 [.float .f32 (Z k), .float .f32 (Z (k + 1)), .float .f32 (Z (k + 2))] rfl (fun h => by cases h) rfl (by exact hol) ⟨wu.heap.size, 0, none⟩ 1 1 [.float .f32 (U k)] rfl rfl (by exact hnw) (by exact hon) (by omega) (by unfold maxLen; omega) (by omega) ?_; intro v6 w6 ho6 hg6; have B6 := below_box (w := wu) hg6; obtain ⟨g6, c6, rfl⟩ := own_some2 ho6 (by omega); rw [row4] at ho6; have ho6 := own_mono0 (B' := wu.heap.size) ho6 (by simp); have x1 := (B6.cell (p := ⟨xb, k, none⟩) hxl).trans r1; have x2 := (B6.frozen (p := ⟨xb, k, none⟩) hxl).trans f1; clear hg6)
          all_goals (have hge6 := own_ge ho6)
          all_goals (have hR6 := HR.out.lay hlk B6 (own_mono0 ho6 HBk.out.size) hge6)
          all_goals (have HL6 := Lib.hid (likeM_next HLk.out (lc_row HL1.out HL2.out hlk)))
          all_goals (have hO6 : Only xb w6 (w6.setCell ⟨xb, k, none⟩ (.slice (some ⟨g6, 0, none⟩) 4 c6)) := (Only.refl _ _).setCell _ _)
          all_goals (have hA1 := own_other (own_below HO1.out B6) hxn1 hO6)
          all_goals (have hA2 := own_other (own_below HO2.out B6) hxn2 hO6)
          all_goals (have hB6 := (HBk.out.trans (B6.mono HBk.out.size)).setCell (p := ⟨xb, k, none⟩) hxl0 (.slice (some ⟨g6, 0, none⟩) 4 c6))
          all_goals clear x1 x2 ho6 hO6 B6 hol hnw hon hsl
          all_goals go_wp2
          all_goals go_roundw
          all_goals first | exact ⟨k + 1, _, _, _, by omega, by go_num, hR6, HL6, hA1, hA2, hB6⟩ | (simp [intOf]; omega)
        · obtain rfl : k = 3 := by omega
          have hBl := hR.bld
          have HSv := Lib.hid (solve_any 3 w.heap.size xb 3 _ _ _ (lcM X Y c) wr 4 rfl hBl.mat HLk.out HW.out (by omega) (by omega) (by omega) hBk.size)
          obtain ⟨hG1, hG2⟩ := HG.out
          rw [← hg.out] at hG1 hG2
          have HG1 := Lib.hid hG1
          have HG2 := Lib.hid hG2
          clear hR hBl hO1 hO2 hG1 hG2
          go_wp2_with fail
          refine HSv.out.mono ?_
          rintro e w7 (⟨hno, rfl, b7⟩ | ⟨hyes, g, Y', rfl, oY, hLY, b7⟩)
          · have hf := HG1.out
            rw [hno] at hf
            have e : ok = false := hf.symm
            clear hf
            subst e
            have e : p = 0 := by rw [hp.out]; rfl
            subst e
            have hb7 := hBk.trans b7
            go_wp2
            go_ret2
            exact OutRet.no hb7
          · have hb7 := hBk.trans b7
            have hf := HG1.out
            rw [hyes, ← finL_like hLY.like] at hf
            have hf : finL Y' 3 = ok := hf
            cases ok
            · have e : p = 0 := by rw [hp.out]; rfl
              subst e
              go_wp2_with (go_at_call 53; refine (onlyFinite_any _ w.heap.size _ Y' _ (by exact oY) (by omega)).mono ?_; rintro e w9 ⟨he, q, rfl⟩; rw [hf] at he; subst he)
              go_ret2
              exact OutRet.no (Below.drewN hb7 _)
            · have e : p = 3 := by rw [hp.out]; rfl
              subst e
              have hR := HG2.out rfl
              rw [hR] at hLY
              go_wp2_with (go_at_call 53; refine (onlyFinite_any _ w.heap.size _ Y' _ (by exact oY) (by omega)).mono ?_; rintro e w9 ⟨he, q, rfl⟩; rw [hf] at he; subst he)
              go_ret2
              exact ⟨_, Y', rfl, own_drew oY _, hLY.like, Below.drewN hb7 _⟩
end Go.Proofs.Ytogmcinaoemnpaa
