
/- The curve of a lamp: as the model tells it. -/
import Derived.Test.YtogmcinaoemnpaaLcq
import Derived.Test.YtogmcinaoemnpaaSly
import Derived.Test.YtogmcinaoemnpaaPushS
import Derived.Test.YtogmcinaoemnpaaPush0
import Derived.Test.YtogmcinaoemnpaaRo
import Derived.Test.YtogmcinaoemnpaaSto
import Derived.Deep.Cut
import Derived.Deep.RegionHeld3
import Derived.Deep.DeepCutAuto
namespace Go.Proofs.Ytogmcinaoemnpaa
set_option linter.all false
open Go Go.ChangeShapes Go.WideShapes Go.ChangeAt Go.RowKit

set_option maxRecDepth 100000 in
set_option maxHeartbeats 6400000 in
theorem specLc_yes (xa ya : Option Addr) (n cx cy : Nat) (X Y : Nat → Nat) (w : World) (hX : Rd w xa n X) (hY : Rd w ya n Y) (hk : prsB X Y n n 3 16 = true) (hn3 : 3 ≤ n) (hn16 : n ≤ 16)
    (p : Nat) (ok : Bool) (hg : Hid (ok = lcG X Y n)) (hp : Hid (p = if ok = true then 3 else 0)) :
    Calls Try.prog 16 #[.slice xa n cx, .slice ya n cy] w (OutRet (lcR X Y n) p ok w) := by
  obtain ⟨i0, hi, hz0, hz1, hz2⟩ := info_parts infoF
  have HPR := Lib.hid (fun w => l06Lamps_any xa ya n n cx cy X Y 3 w)
  rw [hk] at HPR
  have HX := Lib.hid hX
  have HY := Lib.hid hY
  have HW := Lib.hid (lcM_words X Y n)
  have hn : n ≤ 1048576 := by omega
  clear hk hX hY
  go_enter Try.func16, Try.ntmps16
  go_wp2_with fail
  refine (HPR.out _ (by exact HX.out) (by exact HY.out) hn hn).mono ?_
  rintro e w1 ⟨rfl, q, rfl⟩
  obtain ⟨w0, hw0⟩ : ∃ w0, w0 = w.drewN q := ⟨_, rfl⟩
  have hB0 : Below w.heap.size w w0 := by rw [hw0]; exact Below.drewN (Below.refl _ _) _
  rw [← hw0]
  clear hw0
  have hb5 : i0.bytes * 5 ≤ 281474976710656 := by rw [hz2]; omega
  have hb3 : i0.bytes * 3 ≤ 281474976710656 := by rw [hz2]; omega
  obtain ⟨B, hBv⟩ : ∃ B, B = w0.heap.size := ⟨_, rfl⟩
  go_wp2_with (first | (at_make; refine wpList_make_full _ rfl _ _ 22 rfl w0.heap.size 32 i0 (.float .f32 0) 1 Try.underlying22 hi hz0 hz1 _ _ _ _ 5 rfl rfl rfl rfl hb5 (by unfold maxLen; omega) (Nat.le_refl _) ?_; intro w1 hown1 hgr1; have hsz1 := hgr1.size) | (at_make; refine wpList_make_full _ rfl _ _ 22 rfl w0.heap.size 32 i0 (.float .f32 0) 1 Try.underlying22 hi hz0 hz1 _ _ _ _ 3 rfl rfl rfl rfl hb3 (by unfold maxLen; omega) (by omega) ?_; intro w2 hown2 hgr2))
  rw [show madeCells (Value.float .f32 0).cells (5 * 1) = madeCells #[Value.float .f32 0] 5 from rfl, madeF] at hown1
  rw [show madeCells (Value.float .f32 0).cells (3 * 1) = madeCells #[Value.float .f32 0] 3 from rfl, madeF] at hown2
  obtain ⟨b1, hb1⟩ : ∃ b1, b1 = w0.heap.size := ⟨_, rfl⟩
  obtain ⟨b2, hb2⟩ : ∃ b2, b2 = w1.heap.size := ⟨_, rfl⟩
  rw [← hb1, ← hb2]
  have hB1 : Below w0.heap.size w0 w1 := (Below.refl w0.heap.size w0).grown hgr1 (Nat.le_refl _) (fun _ h => by cases h)
  have hB2 : Below w1.heap.size w1 w2 := (Below.refl w1.heap.size w1).grown hgr2 (Nat.le_refl _) (fun _ h => by cases h)
  have hlt1 := own_lt hown1
  have hO1 := own_below hown1 hB2
  rw [← hb1] at hO1
  have hO2 := hown2
  rw [← hb2] at hO2
  have hbn : b1 ≠ b2 := by omega
  have hBz : Below w.heap.size w w2 := hB0.trans ((hB1.trans (hB2.mono hsz1)).mono hB0.size)
  have HO1 := Lib.hid (own_mono0 (B' := w.heap.size) hO1 (by have := hB0.size; omega))
  have HO2 := Lib.hid (own_mono0 hO2 hB0.size)
  have hb1B : w.heap.size ≤ b1 := by have := hB0.size; omega
  have hb2B : w.heap.size ≤ b2 := by have := hB0.size; omega
  have hp1 := fun op => fbin_pick_l op .f32
  have hq1 := fun op => fbin_pick_r op .f32
  clear hown1 hown2 hgr1 hgr2 hsz1 hlt1 hB1 hB2 hb1 hb2 hBv hB0 hb5 hb3 hO1 hO2
  go_wp2
  go_loopw [8] (fun i wr => ∃ (c : Nat) (Z U : Nat → Nat), c ≤ n ∧ i = .int .i64 (c : Int) ∧ wr.ownsRow w.heap.size 32 1 (.slice (some ⟨b1, 0, none⟩) 5 5) 5 (rowOf Z 5) ∧ wr.ownsRow w.heap.size 32 1 (.slice (some ⟨b2, 0, none⟩) 3 3) 3 (rowOf U 3) ∧ LikeP Z (lcS X c) 5 ∧ LikeP U (lcT X Y c) 3 ∧ Below w.heap.size w wr) (fun i _ => n - (intOf i).toNat)
  case atStart => exact ⟨0, _, _, Nat.zero_le _, rfl, HO1.out, HO2.out, fun j _ => ⟨0, by show 0 = pick .f32 0 0; rw [pick_nul]⟩, fun j _ => ⟨0, by show 0 = pick .f32 0 0; rw [pick_nul]⟩, hBz⟩
  case round =>
    clear HO1 HO2 hBz
    obtain ⟨c, Z, U, hc, rfl, hO1, hO2, hL1, hL2, hBr⟩ := hrel
    by_cases hlt : c < n
    · obtain ⟨xb, xo, ex, hxw⟩ := HX.out.cell hlt
      obtain ⟨yb, yo, ey, hyw⟩ := HY.out.cell hlt
      subst ex
      subst ey
      have HXc := Lib.hid hxw
      have HXl := Lib.hid (World.block_lt_of_cell? w _ hxw)
      have HYc := Lib.hid hyw
      have HYl := Lib.hid (World.block_lt_of_cell? w _ hyw)
      have hci : (c : Int) < (n : Int) := by omega
      obtain ⟨wo, hwo⟩ : ∃ wo, wo = wr := ⟨_, rfl⟩
      subst hwo
      have HL1 := Lib.hid hL1
      have HL2 := Lib.hid hL2
      have HO1 := Lib.hid hO1
      have HO2 := Lib.hid hO2
      have HBr := Lib.hid hBr
      clear hL1 hL2 hO1 hO2 hBr hxw hyw
      go_wp2
      go_loopw [9, 10] (fun pw i wr => ∃ (k s : Nat) (Z U : Nat → Nat), k ≤ 5 ∧ i = .int .i64 (k : Int) ∧ pw = .float .f32 (pick .f32 (lcP X c k) s) ∧ wr.ownsRow w.heap.size 32 1 (.slice (some ⟨b1, 0, none⟩) 5 5) 5 (rowOf Z 5) ∧ wr.ownsRow w.heap.size 32 1 (.slice (some ⟨b2, 0, none⟩) 3 3) 3 (rowOf U 3) ∧
        LikeP Z (fun j => if j < k then lcS X (c + 1) j else lcS X c j) 5 ∧ LikeP U (fun j => if j < k then lcT X Y (c + 1) j else lcT X Y c j) 3 ∧ Below w.heap.size w wr) (fun _ i _ => 5 - (intOf i).toNat)
      case atStart => exact ⟨0, 0, Z, U, by omega, rfl, by rw [show lcP X c 0 = 1065353216 from rfl, pick_num (by decide +kernel)], HO1.out, HO2.out, by simpa using HL1.out, by simpa using HL2.out, HBr.out⟩
      case round =>
        obtain ⟨k, s, Z, U, hk5, rfl, rfl, hO1, hO2, hL1, hL2, hBk⟩ := hrel
        by_cases hlk : k < 5
        · obtain ⟨wu, hwu⟩ : ∃ wu, wu = wr := ⟨_, rfl⟩
          subst hwu
          obtain ⟨s1, e1⟩ := hL1.old hlk
          have z1 := own_cell hO1 hlk
          rw [e1] at z1
          have st := fun q u => own_store hO1 hlk q u
          have hk5i : (k : Int) < 5 := by omega
          obtain ⟨P, hP⟩ : ∃ P, P = lcP X c k := ⟨_, rfl⟩
          obtain ⟨E, hE⟩ : ∃ E, E = fbin .add .f32 (lcS X c k) P := ⟨_, rfl⟩
          have HE := Lib.hid (show lcS X (c + 1) k = E by rw [hE, hP]; rfl)
          rw [← hP]
          obtain ⟨S, hS⟩ : ∃ S, S = lcS X c k := ⟨_, rfl⟩
          rw [← hS] at hE z1
          have hE2 : fbin .add .f32 S P = E := hE.symm
          have HO1 := Lib.hid (fun q u => own_stored (own_drew hO1 q) k u)
          have HO2 := Lib.hid (fun q u => own_other (own_drew hO2 q) (Ne.symm hbn) ((Only.refl b1 (wu.drewN q)).setCell k (.float .f32 u)))
          have HBu := Lib.hid (fun q u => (Below.drewN hBk q).setCell (p := ⟨b1, k, none⟩) hb1B (.float .f32 u))
          have HL1 := Lib.hid hL1
          have HL2 := Lib.hid hL2
          have HP := Lib.hid hP
          clear hO1 hO2 hL1 hL2 hBk hE hS hP e1
          go_upto_region 13 with (first | ((with_reducible refine wpL_fbin ?_); refine ⟨_, _, _, rfl, rfl, rfl, fun sE nE => ?_⟩))
          obtain ⟨w3, hw3⟩ : ∃ w3, w3 = (wu.drewN nE).setCell ⟨b1, k, none⟩ (.float .f32 (pick .f32 E sE)) := ⟨_, rfl⟩
          rw [← hw3]
          have hO1 := HO1.out nE (pick .f32 E sE)
          have hO2 := HO2.out nE (pick .f32 E sE)
          have hBu := HBu.out nE (pick .f32 E sE)
          rw [← hw3] at hO1 hO2 hBu
          have hL1 := HL1.out.part (u := pick .f32 E sE) (s := sE) (by rw [HE.out])
          have HO1 := Lib.hid hO1
          have HL1 := Lib.hid hL1
          have hcy := (hBu.cell (p := ⟨yb, yo + c, none⟩) HYl.out).trans HYc.out
          have hcx := (hBu.cell (p := ⟨xb, xo + c, none⟩) HXl.out).trans HXc.out
          have HBu := Lib.hid hBu
          have HPn := Lib.hid (show lcP X c (k + 1) = fbin .mul .f32 P (X c) by rw [HP.out]; rfl)
          have hYl : yb < w.heap.size := HYl.out
          have hXl : xb < w.heap.size := HXl.out
          have n1 : ¬ xb = b2 := by omega
          have n2 : ¬ b2 = xb := by omega
          clear hw3 hO1 hBu hL1 z1 st hE2 hYl hXl
          by_cases hk3 : k < 3
          · have hk3i : (k : Int) < 3 := by omega
            obtain ⟨s2, e2⟩ := HL2.out.old hk3
            have z2 := own_cell hO2 hk3
            rw [e2] at z2
            have hfz := hO2.frozenAt k
            obtain ⟨T, hT⟩ : ∃ T, T = lcT X Y c k := ⟨_, rfl⟩
            obtain ⟨D, hD⟩ : ∃ D, D = fbin .add .f32 T (fbin .mul .f32 P (Y c)) := ⟨_, rfl⟩
            have HD := Lib.hid (show lcT X Y (c + 1) k = D by rw [hD, hT, HP.out]; rfl)
            rw [← hT] at z2
            have hD2 : fbin .add .f32 T (fbin .mul .f32 P (Y c)) = D := hD.symm
            have m1 := mul32_runT
            have m2 := run_add32
            have st := run_store_f32
            have HO2 := Lib.hid hO2
            clear hO2 hT hD e2
            go_wp2_with fail
            go_region
            generalize hsd : pick .f32 D _ = uD
            have HU := Lib.hid (show ∃ s, uD = pick .f32 D s from ⟨_, hsd.symm⟩)
            clear hsd hD2 z2 hfz m1 m2 st
            go_wp2_with (first | ((with_reducible refine wpL_fbin ?_); refine ⟨_, _, _, rfl, rfl, rfl, fun sF nF => ?_⟩))
            go_roundw
            case rel =>
              obtain ⟨t, ht⟩ := HU.out
              exact ⟨k + 1, sF, _, _, by omega, by go_num, by rw [HPn.out], own_drew (own_other (own_drew HO1.out _) hbn ((Only.refl b2 _).setCell k _)) _, own_drew (own_stored (own_drew HO2.out _) k _) _, HL1.out, HL2.out.part (by rw [HD.out]; exact ht), Below.drewN ((Below.drewN HBu.out _).setCell (p := ⟨b2, k, none⟩) hb2B _) _⟩
            case measure => simp [intOf]; omega
          · have hk3i : ¬ (k : Int) < 3 := by omega
            have HO2 := Lib.hid hO2
            clear hO2
            go_wp2_with (first | ((with_reducible refine wpL_fbin ?_); refine ⟨_, _, _, rfl, rfl, rfl, fun sF nF => ?_⟩))
            go_roundw
            case rel =>
              exact ⟨k + 1, sF, _, _, by omega, by go_num, by rw [HPn.out], own_drew HO1.out _, own_drew HO2.out _, HL1.out, HL2.out.over (by omega), Below.drewN HBu.out _⟩
            case measure => simp [intOf]; omega
        · obtain rfl : k = 5 := by omega
          have hL1 := hL1.full (Nat.le_refl _)
          have hL2 := hL2.full (by omega : 3 ≤ 5)
          clear hlk hk5
          go_wp2
          go_roundw
          case rel => exact ⟨c + 1, Z, U, by omega, by go_num, hO1, hO2, hL1, hL2, hBk⟩
          case measure => simp [intOf]; omega
    · obtain rfl : c = n := by omega
      obtain ⟨wo, hwo⟩ : ∃ wo, wo = wr := ⟨_, rfl⟩
      subst hwo
      have hnl : ¬ (c : Int) < (c : Int) := by omega
      have z0 := own_cell hO1 (show 0 < 5 by omega)
      have z1 := own_cell hO1 (show 1 < 5 by omega)
      have z2 := own_cell hO1 (show 2 < 5 by omega)
      have z3 := own_cell hO1 (show 3 < 5 by omega)
      have z4 := own_cell hO1 (show 4 < 5 by omega)
      have HL1 := Lib.hid hL1
      have HL2 := Lib.hid hL2
      have HO2 := Lib.hid hO2
      have HBr := Lib.hid hBr
      have hbl := own_lt hO1
      clear hL1 hL2 hO1 hO2 hBr
      have hszo := HBr.out.size
      have hb2l := own_lt HO2.out
      have HLM := lc_like3 HL1.out HL2.out
      obtain ⟨W5_012, hW5_012⟩ : ∃ W5, W5 = ((((wo.alloc (.cells #[Value.float .f32 (Z 0), .float .f32 (Z 1), .float .f32 (Z 2)] 32)).alloc (.cells #[Value.float .f32 (Z 1), .float .f32 (Z 2), .float .f32 (Z 3)] 32)).alloc (.cells #[Value.float .f32 (Z 2), .float .f32 (Z 3), .float .f32 (Z 4)] 32)).alloc (.cells #[Value.slice (some ⟨wo.heap.size, 0, none⟩) 3 3, Value.slice (some ⟨wo.heap.size + 1, 0, none⟩) 3 3, Value.slice (some ⟨wo.heap.size + 1 + 1, 0, none⟩) 3 3] 22)).drew := ⟨_, rfl⟩
      obtain ⟨g0, g1, g2, go, gB⟩ := lc_four wo _ _ _ _ _ _ _ _ rfl rfl rfl rfl rfl rfl rfl rfl _ hW5_012
      have HS_012 := Lib.hid (l04Solve_any 3 w.heap.size _ b2 3 3 _ _ _ (lcM X Y c) W5_012 (lc_sys3 (own_mono0 g0 hszo) (own_mono0 g1 hszo) (own_mono0 g2 hszo) (own_mono0 go hszo) (own_below HO2.out gB) (by omega) (by omega) (by omega) (by omega) (by omega) (by omega)) HLM HW.out (by omega) (by omega) (by have := gB.size; omega))
      have HB_012 := Lib.hid (HBr.out.trans (gB.mono hszo))
      have HW_012 := Lib.hid hW5_012
      clear g0 g1 g2 go gB hW5_012
      obtain ⟨W5_021, hW5_021⟩ : ∃ W5, W5 = ((((wo.alloc (.cells #[Value.float .f32 (Z 0), .float .f32 (Z 1), .float .f32 (Z 2)] 32)).alloc (.cells #[Value.float .f32 (Z 2), .float .f32 (Z 3), .float .f32 (Z 4)] 32)).alloc (.cells #[Value.float .f32 (Z 1), .float .f32 (Z 2), .float .f32 (Z 3)] 32)).alloc (.cells #[Value.slice (some ⟨wo.heap.size, 0, none⟩) 3 3, Value.slice (some ⟨wo.heap.size + 1 + 1, 0, none⟩) 3 3, Value.slice (some ⟨wo.heap.size + 1, 0, none⟩) 3 3] 22)).drew := ⟨_, rfl⟩
      obtain ⟨g0, g2, g1, go, gB⟩ := lc_four wo _ _ _ _ _ _ _ _ rfl rfl rfl rfl rfl rfl rfl rfl _ hW5_021
      have HS_021 := Lib.hid (l04Solve_any 3 w.heap.size _ b2 3 3 _ _ _ (lcM X Y c) W5_021 (lc_sys3 (own_mono0 g0 hszo) (own_mono0 g1 hszo) (own_mono0 g2 hszo) (own_mono0 go hszo) (own_below HO2.out gB) (by omega) (by omega) (by omega) (by omega) (by omega) (by omega)) HLM HW.out (by omega) (by omega) (by have := gB.size; omega))
      have HB_021 := Lib.hid (HBr.out.trans (gB.mono hszo))
      have HW_021 := Lib.hid hW5_021
      clear g0 g1 g2 go gB hW5_021
      obtain ⟨W5_102, hW5_102⟩ : ∃ W5, W5 = ((((wo.alloc (.cells #[Value.float .f32 (Z 1), .float .f32 (Z 2), .float .f32 (Z 3)] 32)).alloc (.cells #[Value.float .f32 (Z 0), .float .f32 (Z 1), .float .f32 (Z 2)] 32)).alloc (.cells #[Value.float .f32 (Z 2), .float .f32 (Z 3), .float .f32 (Z 4)] 32)).alloc (.cells #[Value.slice (some ⟨wo.heap.size + 1, 0, none⟩) 3 3, Value.slice (some ⟨wo.heap.size, 0, none⟩) 3 3, Value.slice (some ⟨wo.heap.size + 1 + 1, 0, none⟩) 3 3] 22)).drew := ⟨_, rfl⟩
      obtain ⟨g1, g0, g2, go, gB⟩ := lc_four wo _ _ _ _ _ _ _ _ rfl rfl rfl rfl rfl rfl rfl rfl _ hW5_102
      have HS_102 := Lib.hid (l04Solve_any 3 w.heap.size _ b2 3 3 _ _ _ (lcM X Y c) W5_102 (lc_sys3 (own_mono0 g0 hszo) (own_mono0 g1 hszo) (own_mono0 g2 hszo) (own_mono0 go hszo) (own_below HO2.out gB) (by omega) (by omega) (by omega) (by omega) (by omega) (by omega)) HLM HW.out (by omega) (by omega) (by have := gB.size; omega))
      have HB_102 := Lib.hid (HBr.out.trans (gB.mono hszo))
      have HW_102 := Lib.hid hW5_102
      clear g0 g1 g2 go gB hW5_102
      obtain ⟨W5_120, hW5_120⟩ : ∃ W5, W5 = ((((wo.alloc (.cells #[Value.float .f32 (Z 1), .float .f32 (Z 2), .float .f32 (Z 3)] 32)).alloc (.cells #[Value.float .f32 (Z 2), .float .f32 (Z 3), .float .f32 (Z 4)] 32)).alloc (.cells #[Value.float .f32 (Z 0), .float .f32 (Z 1), .float .f32 (Z 2)] 32)).alloc (.cells #[Value.slice (some ⟨wo.heap.size + 1 + 1, 0, none⟩) 3 3, Value.slice (some ⟨wo.heap.size, 0, none⟩) 3 3, Value.slice (some ⟨wo.heap.size + 1, 0, none⟩) 3 3] 22)).drew := ⟨_, rfl⟩
      obtain ⟨g1, g2, g0, go, gB⟩ := lc_four wo _ _ _ _ _ _ _ _ rfl rfl rfl rfl rfl rfl rfl rfl _ hW5_120
      have HS_120 := Lib.hid (l04Solve_any 3 w.heap.size _ b2 3 3 _ _ _ (lcM X Y c) W5_120 (lc_sys3 (own_mono0 g0 hszo) (own_mono0 g1 hszo) (own_mono0 g2 hszo) (own_mono0 go hszo) (own_below HO2.out gB) (by omega) (by omega) (by omega) (by omega) (by omega) (by omega)) HLM HW.out (by omega) (by omega) (by have := gB.size; omega))
      have HB_120 := Lib.hid (HBr.out.trans (gB.mono hszo))
      have HW_120 := Lib.hid hW5_120
      clear g0 g1 g2 go gB hW5_120
      obtain ⟨W5_201, hW5_201⟩ : ∃ W5, W5 = ((((wo.alloc (.cells #[Value.float .f32 (Z 2), .float .f32 (Z 3), .float .f32 (Z 4)] 32)).alloc (.cells #[Value.float .f32 (Z 0), .float .f32 (Z 1), .float .f32 (Z 2)] 32)).alloc (.cells #[Value.float .f32 (Z 1), .float .f32 (Z 2), .float .f32 (Z 3)] 32)).alloc (.cells #[Value.slice (some ⟨wo.heap.size + 1, 0, none⟩) 3 3, Value.slice (some ⟨wo.heap.size + 1 + 1, 0, none⟩) 3 3, Value.slice (some ⟨wo.heap.size, 0, none⟩) 3 3] 22)).drew := ⟨_, rfl⟩
      obtain ⟨g2, g0, g1, go, gB⟩ := lc_four wo _ _ _ _ _ _ _ _ rfl rfl rfl rfl rfl rfl rfl rfl _ hW5_201
      have HS_201 := Lib.hid (l04Solve_any 3 w.heap.size _ b2 3 3 _ _ _ (lcM X Y c) W5_201 (lc_sys3 (own_mono0 g0 hszo) (own_mono0 g1 hszo) (own_mono0 g2 hszo) (own_mono0 go hszo) (own_below HO2.out gB) (by omega) (by omega) (by omega) (by omega) (by omega) (by omega)) HLM HW.out (by omega) (by omega) (by have := gB.size; omega))
      have HB_201 := Lib.hid (HBr.out.trans (gB.mono hszo))
      have HW_201 := Lib.hid hW5_201
      clear g0 g1 g2 go gB hW5_201
      obtain ⟨W5_210, hW5_210⟩ : ∃ W5, W5 = ((((wo.alloc (.cells #[Value.float .f32 (Z 2), .float .f32 (Z 3), .float .f32 (Z 4)] 32)).alloc (.cells #[Value.float .f32 (Z 1), .float .f32 (Z 2), .float .f32 (Z 3)] 32)).alloc (.cells #[Value.float .f32 (Z 0), .float .f32 (Z 1), .float .f32 (Z 2)] 32)).alloc (.cells #[Value.slice (some ⟨wo.heap.size + 1 + 1, 0, none⟩) 3 3, Value.slice (some ⟨wo.heap.size + 1, 0, none⟩) 3 3, Value.slice (some ⟨wo.heap.size, 0, none⟩) 3 3] 22)).drew := ⟨_, rfl⟩
      obtain ⟨g2, g1, g0, go, gB⟩ := lc_four wo _ _ _ _ _ _ _ _ rfl rfl rfl rfl rfl rfl rfl rfl _ hW5_210
      have HS_210 := Lib.hid (l04Solve_any 3 w.heap.size _ b2 3 3 _ _ _ (lcM X Y c) W5_210 (lc_sys3 (own_mono0 g0 hszo) (own_mono0 g1 hszo) (own_mono0 g2 hszo) (own_mono0 go hszo) (own_below HO2.out gB) (by omega) (by omega) (by omega) (by omega) (by omega) (by omega)) HLM HW.out (by omega) (by omega) (by have := gB.size; omega))
      have HB_210 := Lib.hid (HBr.out.trans (gB.mono hszo))
      have HW_210 := Lib.hid hW5_210
      clear g0 g1 g2 go gB hW5_210
      clear HLM
      have hkc : ∀ (W : World) (i : Nat) (v : Value), Below wo.heap.size wo W → wo.cell? ⟨b1, i, none⟩ = some v → W.cell? ⟨b1, i, none⟩ = some v := fun W i v hb h => (hb.cell (p := ⟨b1, i, none⟩) hbl).trans h
      have hbd : ∀ (W : World), Below wo.heap.size wo W → Below wo.heap.size wo W.drew := fun W h => Below.drewN h 1
      have HKS := Lib.hid (show ∀ w', Below wo.heap.size wo w' → w'.cell? ⟨b1, 0, none⟩ = some (.float .f32 (Z 0)) ∧ w'.cell? ⟨b1, 1, none⟩ = some (.float .f32 (Z 1)) ∧ w'.cell? ⟨b1, 2, none⟩ = some (.float .f32 (Z 2)) ∧ w'.cell? ⟨b1, 3, none⟩ = some (.float .f32 (Z 3)) ∧ w'.cell? ⟨b1, 4, none⟩ = some (.float .f32 (Z 4)) from fun w' h => ⟨hkc _ 0 _ h z0, hkc _ 1 _ h z1, hkc _ 2 _ h z2, hkc _ 3 _ h z3, hkc _ 4 _ h z4⟩)
      go_wp2_with fail
      go_region_held3 (fun w' => w'.cell? ⟨b1, 0, none⟩ = some (.float .f32 (Z 0)) ∧ w'.cell? ⟨b1, 1, none⟩ = some (.float .f32 (Z 1)) ∧ w'.cell? ⟨b1, 2, none⟩ = some (.float .f32 (Z 2)) ∧ w'.cell? ⟨b1, 3, none⟩ = some (.float .f32 (Z 3)) ∧ w'.cell? ⟨b1, 4, none⟩ = some (.float .f32 (Z 4))) (first | (refine HKS.out _ ?_; (repeat (first | with_reducible exact Below.refl _ _ | with_reducible refine hbd _ ?_ | with_reducible refine Below.alloc ?_ (by simp; try omega) _)))) (fail)
      all_goals go_wp2_with fail
      all_goals first
        | (rw [← HW_012.out]; refine HS_012.out.mono ?_; have HBB := HB_012)
        | (rw [← HW_021.out]; refine HS_021.out.mono ?_; have HBB := HB_021)
        | (rw [← HW_102.out]; refine HS_102.out.mono ?_; have HBB := HB_102)
        | (rw [← HW_120.out]; refine HS_120.out.mono ?_; have HBB := HB_120)
        | (rw [← HW_201.out]; refine HS_201.out.mono ?_; have HBB := HB_201)
        | (rw [← HW_210.out]; refine HS_210.out.mono ?_; have HBB := HB_210)
      all_goals clear HS_012 HW_012 HB_012 HS_021 HW_021 HB_021 HS_102 HW_102 HB_102 HS_120 HW_120 HB_120 HS_201 HW_201 HB_201 HS_210 HW_210 HB_210
      all_goals (rintro e w7 h7)
      all_goals (have HBQ := Lib.hid HBB.out; clear HBB)
      all_goals (rcases h7 with ⟨hno, rfl, b7⟩ | ⟨hyes, g, Y', rfl, oY, hLY, b7⟩)
      all_goals (have hb7 := HBQ.out.trans b7)
      all_goals first
        | (have hf := hg.out
           unfold lcG at hf
           rw [hno] at hf
           have e : ok = false := hf
           clear hf
           subst e
           have e : p = 0 := by rw [hp.out]; rfl
           subst e
           clear hno
           go_wp2
           go_ret2
           exact OutRet.no hb7)
        | (have hf := hg.out
           unfold lcG at hf
           rw [hyes] at hf
           have hf2 : finL Y' 3 = ok := by rw [finL_like hLY.like, hf]; rfl
           clear hf hyes
           cases ok
           · have e : p = 0 := by rw [hp.out]; rfl
             subst e
             go_wp2_with (go_at_call 48; refine (l02List_any _ w.heap.size _ Y' _ (by exact oY) (by omega)).mono ?_; rw [hf2]; rintro e w9 ⟨rfl, q, rfl⟩)
             go_ret2
             exact OutRet.no (Below.drewN hb7 _)
           · have e : p = 3 := by rw [hp.out]; rfl
             subst e
             go_wp2_with (go_at_call 48; refine (l02List_any _ w.heap.size _ Y' _ (by exact oY) (by omega)).mono ?_; rw [hf2]; rintro e w9 ⟨rfl, q, rfl⟩)
             go_ret2
             exact ⟨_, Y', rfl, own_drew oY _, hLY.like, Below.drewN hb7 _⟩)
end Go.Proofs.Ytogmcinaoemnpaa
