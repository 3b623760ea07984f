
/- A scan of lines: as the model makes it. -/
import Derived.Test.YtbblohjldkpcnabScP
import Derived.Test.YtbblohjldkpcnabPushS
namespace Go.Proofs.Ytbblohjldkpcnab
set_option linter.all false
open Go Go.ChangeShapes Go.WideShapes Go.ChangeAt Go.RowKit

theorem wrap64_id {x : Int} (h0 : 0 ≤ x) (h1 : x ≤ 1048576) : wrap64 x = x := by
  unfold wrap64
  first | omega | (simp; omega) | (split <;> omega)
set_option maxRecDepth 100000 in
set_option maxHeartbeats 6400000 in
theorem specSc_yes (xa va : Option Addr) (n m cx cv step : Nat) (N : Nat) (X V : Nat → Nat) (w : World) (hX : Rd w xa n X) (hV : Rd w va m V) (hk : scOk X V n m step (N : Int) = true) (p : Nat) (ok : Bool) (hok : Hid (ok = finL (scR X V step n) N)) (hp : Hid (p = if ok = true then N else 0)) :
    Calls Try.prog 37 #[.slice xa n cx, .slice va m cv, .float .f32 step, .int .i64 (N : Int)] w (OutRet (scR X V step n) p ok w) := by
  obtain ⟨i0, hi, hz0, hz1, hz2⟩ := info_parts infoF
  have hk' := hk
  simp only [scOk, Bool.and_eq_true, decide_eq_true_eq] at hk'
  obtain ⟨⟨hP, hfs⟩, hN2, hN64⟩ := hk'
  obtain ⟨hn1, hn16, hmn, hfX, hfV⟩ := prsB_at hP
  subst hmn
  have hn : m ≤ 1048576 := by omega
  have hm16 : m ≤ 16 := by omega
  have HPR := Lib.hid (fun w => l06Lamps_any xa va m m cx cv X V 1 w)
  rw [hP] at HPR
  obtain ⟨xb, xo, hxa, hcx⟩ := id hX
  obtain ⟨vb, vo, hva, hcv⟩ := id hV
  have HX := Lib.hid hcx
  have HV := Lib.hid hcv
  have HN := Lib.hid (And.intro hN2 hN64)
  have HL := Lib.hid (show (decide (2 ≤ (N : Int)) && decide ((N : Int) ≤ 64)) = true by rw [decide_eq_true hN2, decide_eq_true hN64]; rfl)
  clear hcx hcv hk hP hn1 hn16 hfX hfV hN2 hN64
  have hpl := fun op => fbin_pick_l op .f32
  have hpr := fun op => fbin_pick_r op .f32
  have hcp := fun X s => fconv_pick .f32 X s .f64
  go_enter Try.func37, Try.ntmps37
  go_wp2_with fail
  refine (HPR.out _ (by exact hX) (by exact hV) hn hn).mono ?_
  rintro e w1 ⟨rfl, q, rfl⟩
  go_wp2_with fail
  refine (l01Finite_any _ _).mono ?_
  rw [hfs]
  rintro e w1 ⟨rfl, q2, rfl⟩
  go_wp2_with fail
  refine (l00In_any _ _ _ _).mono ?_
  rw [show inB (N : Int) 2 64 = true from HL.out]
  rintro e w1 ⟨rfl, rfl⟩
  go_wp2_with fail
  obtain ⟨w1, hw1⟩ : ∃ w1, w1 = (w.drewN (q + q2)).alloc (Obj.cells #[] 43) := ⟨_, rfl⟩
  rw [← hw1]
  have HO : w1.ownsRow w.heap.size 43 1 (.slice (some ⟨w.heap.size, 0, none⟩) 0 0) 0 (rowOf (fun _ => 0) 0) := by rw [hw1]; exact own_empty (w.drewN (q + q2)) _
  have HB1 : Below w.heap.size w w1 := by rw [hw1]; exact (Below.drewN (Below.refl _ _) _).alloc (Nat.le_refl _) _
  clear hw1 HPR HL hfs
  have hmN : m ≤ 16 ∧ N ≤ 64 := ⟨hm16, by have := HN.out.2; omega⟩
  have HM := Lib.hid hmN
  have HM2 := Lib.hid (show N ≤ 1048576 by have := HM.out.2; omega)
  clear hmN hm16
  go_loopw [10, 11] (fun v i wr => ∃ (c : Nat) (Z : Nat → Nat), c ≤ N ∧ i = .int .i64 (c : Int) ∧ wr.ownsRow w.heap.size 43 1 v c (rowOf Z c) ∧ Hid (Like Z (scR X V step m) c) ∧ Below w.heap.size w wr) (fun _ i _ => N - (intOf i).toNat)
  case atStart => exact ⟨0, _, Nat.zero_le _, rfl, HO, Lib.hid fun _ h => absurd h (Nat.not_lt_zero _), HB1⟩
  case round =>
    obtain ⟨c, Z, hc, rfl, hown, HZ, hBk⟩ := hrel
    clear HO HB1
    by_cases hlt : c < N
    · have hcN : (c : Int) < (N : Int) := by omega
      obtain ⟨wu, hwu⟩ : ∃ wu, wu = wr := ⟨_, rfl⟩
      subst hwu
      have HOk := Lib.hid hown
      have HBk := Lib.hid hBk
      have hsz := hBk.size
      clear hown hBk
      go_wp2
      go_loopw [12, 13] (fun su i wr => ∃ k s q : Nat, k ≤ m ∧ i = .int .i64 (k : Int) ∧ su = .float .f32 (pick .f32 (scS X V step (c : Int) k) s) ∧ wr = wu.drewN q) (fun _ i _ => m - (intOf i).toNat)
      case atStart => exact ⟨0, 0, 0, Nat.zero_le _, rfl, by rw [show scS X V step (c : Int) 0 = 0 from rfl, pick_num (by decide +kernel)], rfl⟩
      case round =>
        obtain ⟨k, s, q, hk, rfl, rfl, rfl⟩ := hrel
        by_cases hltk : k < m
        · have e := hxa (by omega)
          subst e
          have e := hva (by omega)
          subst e
          have hx1 := HX.out k hltk
          have hv1 := HV.out k hltk
          have hxl := World.block_lt_of_cell? w _ hx1
          have hvl := World.block_lt_of_cell? w _ hv1
          have hx2 : wu.cell? ⟨xb, xo + k, none⟩ = some (.float .f32 (X k)) := (HBk.out.cell (p := ⟨xb, xo + k, none⟩) hxl).trans hx1
          have hv2 : wu.cell? ⟨vb, vo + k, none⟩ = some (.float .f32 (V k)) := (HBk.out.cell (p := ⟨vb, vo + k, none⟩) hvl).trans hv1
          have hkm : (k : Int) < (m : Int) := by omega
          obtain ⟨Y, hY⟩ : ∃ Y, scZ X step (c : Int) k = Y := ⟨_, rfl⟩
          have hZ1 : fconv .f32 (fbin .mul .f32 (X k) (fbin .mul .f32 (floatOfInt .f32 (c : Int)) step)) .f64 = Y := hY
          obtain ⟨C, hC⟩ : ∃ C, (phaT Y).1 = C := ⟨_, rfl⟩
          have HP := Lib.hid (fun (s : Nat) w => specPha_any (pick .f64 Y s) w)
          have HD := Lib.hid (show scS X V step (c : Int) (k + 1) = fbin .add .f32 (scS X V step (c : Int) k) (fbin .mul .f32 (V k) (fbin .add .f32 1065353216 C)) by rw [← hC, ← hY]; rfl)
          obtain ⟨S, hS⟩ : ∃ S, scS X V step (c : Int) k = S := ⟨_, rfl⟩
          rw [hS] at HD ⊢
          have HC := Lib.hid hC
          clear hx1 hv1 hY hS hC
          go_wp2_with (first | ((with_reducible refine wpL_fbin ?_); refine ⟨_, _, _, rfl, rfl, rfl, fun s n => ?_⟩) | ((with_reducible refine wpL_fconv ?_); refine ⟨_, _, _, rfl, Option.isSome_iff_exists.2 ⟨_, Try.underlying43⟩, Try.underlying47, FloatKind.noConfusion, convOk_widen _, fun s n => ?_⟩))
          refine (HP.out _ _).mono ?_
          rw [phaT_pick, HC.out]
          rintro e w' ⟨s', t', m', rfl, rfl⟩
          go_wp2_with (first | ((with_reducible refine wpL_fbin ?_); refine ⟨_, _, _, rfl, rfl, rfl, fun s n => ?_⟩))
          go_roundw
          case rel => exact ⟨k + 1, _, _, by omega, by go_num, by rw [HD.out], by first | rfl | rw [World.drewN_drewN]⟩
          case measure => simp [intOf]; omega
        · have hkm : k = m := by omega
          subst hkm
          obtain ⟨D, hD⟩ : ∃ D, D = pick .f32 (scS X V step (c : Int) k) s := ⟨_, rfl⟩
          rw [← hD]
          have HZ' := Lib.hid (like_push (u := D) HZ.out (s := s) (by rw [hD]; rfl))
          clear hD
          go_wp2_with (at_builtin; refine wpL_push hi hz0 hz1 hz2 rfl rfl rfl rfl (by exact own_drew HOk.out _) (by have := HM2.out; omega) (by exact hsz) ?_; intro v' w3 hown3 hB3)
          have hN7 : N ≤ 64 := HM.out.2
          go_roundw
          case rel => exact ⟨c + 1, _, by omega, by rw [wrap64_id (by omega) (by omega)]; rfl, hown3, HZ', (Below.drewN HBk.out _).trans hB3⟩
          case measure => rw [wrap64_id (by omega) (by omega)]; simp [intOf]; omega
    · have hcN : c = N := by omega
      subst hcN
      have hfl := finL_like HZ.out
      obtain ⟨va', vc', rfl, _, _, _⟩ := rd_of_own hown
      have HOk := Lib.hid hown
      have HBk := Lib.hid hBk
      have hN6 : c ≤ 1048576 := HM2.out
      rw [← hok.out] at hfl
      clear hown hBk hlt
      cases ok
      · have hp0 := hp.out
        rw [if_neg (by simp)] at hp0
        subst hp0
        go_wp2_with (go_at_call 94; refine (l02List_any _ w.heap.size _ Z _ (by exact HOk.out) hN6).mono ?_; rw [hfl]; rintro e w' ⟨rfl, q, rfl⟩)
        go_ret2
        exact OutRet.no (Below.drewN HBk.out _)
      · have hp0 := hp.out
        rw [if_pos rfl] at hp0
        subst hp0
        go_wp2_with (go_at_call 94; refine (l02List_any _ w.heap.size _ Z _ (by exact HOk.out) hN6).mono ?_; rw [hfl]; rintro e w' ⟨rfl, q, rfl⟩)
        go_ret2
        exact ⟨_, Z, rfl, own_drew HOk.out _, HZ.out, Below.drewN HBk.out _⟩
end Go.Proofs.Ytbblohjldkpcnab
