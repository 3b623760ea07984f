/- How wide a peak is at half: as the model tells it. -/
import Derived.Test.YtaobjilnbbpmeaaHwl
namespace Go.Proofs.Ytaobjilnbbpmeaa
open Go Go.ChangeShapes Go.WideShapes Go.ChangeAt Go.RowKit

theorem nan_add_l {x y : Nat} (hx : isFin .f32 x = true) (hy : isNaN .f32 y = false) : isNaN .f32 (fbin .add .f32 x y) = false := by
  obtain ⟨t, n, f, h2⟩ := fin_read hx
  apply some_num
  show (((FloatKind.f32.format.read x).sum (FloatKind.f32.format.read y)).map FloatKind.f32.format.write).isSome = true
  rcases num_read hy with ⟨s, h1⟩ | ⟨s, m, e, h1⟩ <;> rw [h1, h2] <;> rfl
theorem idx_fin_all : ((List.range 140).all fun k => isFin .f32 (floatOfInt .f32 (k : Int))) = true := by decide +kernel
theorem idx_fin (k : Nat) (h : k < 140) : isFin .f32 (floatOfInt .f32 (k : Int)) = true := by
  have := idx_fin_all
  rw [List.all_eq_true] at this
  exact this k (List.mem_range.2 h)
def hwD (X : Nat → Nat) (H k l : Nat) : Nat := fbin .sub .f32 (placeR X H k) (placeL X H (l - 1))
theorem hpNo {w w' : World} (hb : Below w.heap.size w w') : NRet 0 false w (.returned (.tuple #[.float .f32 0, .bool false])) w' := ⟨0, by rw [pick_nul], hb⟩
set_option maxRecDepth 100000 in
set_option maxHeartbeats 12800000 in
theorem specHw_yes (xa : Option Addr) (N cap : Nat) (X : Nat → Nat) (i k l H : Nat) (w : World) (hX : Rd w xa N X) (hN : N ≤ 1048576) (hv : okLst X N = true) (hi : i < N) (hg : gtF (X i) 0 = true) (hH : fbin .mul .f32 1056964608 (X i) = H) (hk : StopR X H N i k) (hl : StopL X H i l) (R : Nat) (ok v : Bool) (hvv : v = (decide (k < N) && decide (0 < l))) (hR : R = if v = true then numQ (hwD X H k l) else 0) (ho : ok = (v && isFin .f32 (hwD X H k l))) :
    Calls Try.prog 35 #[.slice xa N cap, .int .i64 (i : Int)] w (NRet R ok w) := by
  obtain ⟨hf, _, h128⟩ := okLst_at hv
  obtain ⟨k1, k2, k3, k4⟩ := hk
  obtain ⟨l1, l3, l4⟩ := hl
  have hnH : isNaN .f32 H = false := by rw [← hH]; exact nan_mul_fin ⟨_, _, _, read_halfW, by decide⟩ (num_fin (finL_at hf i hi))
  have hpH := fun s => pick_num (s := s) hnH
  have HL := Lib.hid (fun w hX => specLst_any xa N cap X w hX hN true (Lib.hid hv.symm))
  have HF := Lib.hid (finL_at hf)
  have HK3 := Lib.hid k3
  have HK4 := Lib.hid k4
  have HL3 := Lib.hid l3
  have HL4 := Lib.hid l4
  have HRX := hX
  obtain ⟨xb, xo, hxa, hcx⟩ := hX
  have e := hxa (by omega)
  subst e
  have ri := hcx i hi
  have HX := Lib.hid hcx
  have HN := Lib.hid hnH
  have HV := Lib.hid hvv
  have HR := Lib.hid hR
  have HO := Lib.hid ho
  have hii : (i : Int) < (N : Int) := by omega
  have hin : inB (i : Int) 0 ((N : Int) - 1) = true := inB_yes (by omega) (by omega)
  have hg' : (FloatKind.f32.format.order (X i) 0 == some .gt) = true := hg
  clear hcx hxa k3 k4 l3 l4 hf hR ho hvv hnH hv hg
  go_enter Try.func35, Try.ntmps35
  go_wp2_with (first | (first | ((with_reducible refine wpL_fbin ?_); refine ⟨_, _, _, rfl, rfl, rfl, fun s n => ?_⟩) | (go_at_call 61; refine (l00In_any _ _ _ _).mono ?_; rintro e w' ⟨rfl, rfl⟩)) | (go_at_call 54; refine (HL.out _ (by exact HRX)).mono ?_; rintro e w' ⟨rfl, q, rfl⟩))
  go_loopw [7] (fun c wr => ∃ j m : Nat, i < j ∧ j ≤ k ∧ c = .int .i64 j ∧ wr = w.drewN m) (fun c _ => N - (intOf c).toNat)
  case atStart => exact ⟨i + 1, _, by omega, by omega, by go_num, rfl⟩
  case round =>
    obtain ⟨j, m, h1, h2, rfl, rfl⟩ := hrel
    clear ri hH
    have j0 : (0 : Int) ≤ (j : Int) := by omega
    by_cases hjk : j < k
    · have jn : (j : Int) < (N : Int) := by omega
      have rj := HX.out j (by omega)
      have hgj : (FloatKind.f32.format.order (X j) H == some .gt) = true := HK3.out j h1 hjk
      go_wp2
      go_roundw
      case rel => exact ⟨j + 1, m, by omega, by omega, by go_num, rfl⟩
      case measure => first | (simp [intOf]; done) | (simp [intOf]; omega)
    · obtain rfl : j = k := by omega
      clear hjk
      by_cases hjN : j < N
      · skip
        have jn : (j : Int) < (N : Int) := by omega
        have rj0 := HX.out j hjN
        have hgj : (FloatKind.f32.format.order (X j) H == some .gt) = false := HK4.out hjN
        go_wp2
        go_loopw [8] (fun c wr => ∃ p m' : Nat, l ≤ p ∧ p ≤ i ∧ c = .int .i64 ((p : Int) - 1) ∧ wr = w.drewN m') (fun c _ => (intOf c + 1).toNat)
        case atStart => exact ⟨i, _, by omega, by omega, by go_num, rfl⟩
        case round =>
          obtain ⟨p, m', p1, p2, rfl, rfl⟩ := hrel
          clear rj0
          by_cases hp0 : 0 < p
          · obtain ⟨q, rfl⟩ : ∃ q, p = q + 1 := ⟨p - 1, by omega⟩
            have eq1 : ((q + 1 : Nat) : Int) - 1 = (q : Int) := by omega
            rw [eq1]
            clear eq1
            have jq : (q : Int) < (N : Int) := by omega
            have jq0 : (0 : Int) ≤ (q : Int) := by omega
            have rq := HX.out q (by omega)
            by_cases hlq : l < q + 1
            · have hgq : (FloatKind.f32.format.order (X q) H == some .gt) = true := HL3.out q (by omega) (by omega)
              go_wp2
              go_roundw
              case rel => exact ⟨q, m', by omega, by omega, by go_num, rfl⟩
              case measure => first | (simp [intOf]; done) | (simp [intOf]; omega)
            · obtain rfl : l = q + 1 := by omega
              have hgq : (FloatKind.f32.format.order (X q) H == some .gt) = false := by
                have h4 := HL4.out (by omega)
                rw [Nat.add_sub_cancel] at h4
                exact h4
              obtain ⟨r, rfl⟩ : ∃ r, j = r + 1 := ⟨j - 1, by omega⟩
              have rr := HX.out r (by omega)
              have rj := HX.out (r + 1) (by omega)
              have rq1 := HX.out (q + 1) (by omega)
              obtain ⟨A, hA⟩ : ∃ A, fbin .sub .f32 H (X (r + 1)) = A := ⟨_, rfl⟩
              obtain ⟨B, hB⟩ : ∃ B, fbin .sub .f32 (X r) (X (r + 1)) = B := ⟨_, rfl⟩
              obtain ⟨A', hA'⟩ : ∃ A', fbin .sub .f32 H (X q) = A' := ⟨_, rfl⟩
              obtain ⟨B', hB'⟩ : ∃ B', fbin .sub .f32 (X (q + 1)) (X q) = B' := ⟨_, rfl⟩
              have q1 := fun t => run_numop (op := .sub) rfl t _ _ _ hA (by rw [← hA]; exact nan_sub HN.out (HF.out _ (by omega)))
              have q2 := fun t => run_numop (op := .sub) rfl t _ _ _ hB (by rw [← hB]; exact nan_sub (num_fin (HF.out r (by omega))) (HF.out _ (by omega)))
              have q3 := fun t => run_numop (op := .sub) rfl t _ _ _ hA' (by rw [← hA']; exact nan_sub HN.out (HF.out _ (by omega)))
              have q4 := fun t => run_numop (op := .sub) rfl t _ _ _ hB' (by rw [← hB']; exact nan_sub (num_fin (HF.out _ (by omega))) (HF.out _ (by omega)))
              have hpr : placeR X H (r + 1) = fbin .sub .f32 (floatOfInt .f32 ((r : Int) + 1)) (fbin .quo .f32 A B) := by rw [placeR, backW, Nat.add_sub_cancel, hA, hB]; rfl
              have hpl : placeL X H q = fbin .add .f32 (floatOfInt .f32 (q : Int)) (fbin .quo .f32 A' B') := by rw [placeL, backW, hA', hB']
              obtain ⟨D, hD⟩ : ∃ D, D = hwD X H (r + 1) (q + 1) := ⟨_, rfl⟩
              have eD : fbin .sub .f32 (fbin .sub .f32 (floatOfInt .f32 ((r : Int) + 1)) (fbin .quo .f32 A B)) (fbin .add .f32 (floatOfInt .f32 (q : Int)) (fbin .quo .f32 A' B')) = D := by rw [hD, hwD, Nat.add_sub_cancel, hpr, hpl]
              have hz := Lib.hid (show v = true by rw [HV.out, decide_eq_true (by omega), decide_eq_true (by omega)]; rfl)
              have hz1 := Lib.hid (show R = numQ D by rw [HR.out, hz.out, if_pos rfl, hD])
              have hz2 := Lib.hid (show ok = isFin .f32 D by rw [HO.out, hz.out, Bool.true_and, hD])
              have hp := fun op => fbin_pick_l op .f32
              have hq := fun op => fbin_pick_r op .f32
              have jr : (r : Int) < (N : Int) := by omega
              have jr0 : (0 : Int) ≤ (r : Int) := by omega
              have jr1 : (r : Int) + 1 < (N : Int) := by omega
              have jr2 : (0 : Int) ≤ (r : Int) + 1 := by omega
              have jq1 : (q : Int) + 1 < (N : Int) := by omega
              have jq2 : (0 : Int) ≤ (q : Int) + 1 := by omega
              have tr : ((r : Int) + 1).toNat = r + 1 := by omega
              have hw1 := wrap_nat r (by omega)
              have hw2 : IntKind.i64.wrap ((r : Int) + 1 - 1) = (r : Int) := by rw [IntWalk.i64_in _ (by omega)]; omega
              have hw3 : IntKind.i64.wrap ((q : Int) + 1) = (q : Int) + 1 := IntWalk.i64_in _ (by omega)
              have tq : ((q : Int) + 1).toNat = q + 1 := by omega
              have hne : (((r : Int) + 1) == (N : Int)) = false := by simp; omega
              clear hA hB hA' hB' hpr hpl hD
              go_wp2
              obtain ⟨wz, hwz⟩ : ∃ wz, wz = w.drewN m' := ⟨_, rfl⟩
              have z1 : wz.cell? ⟨xb, xo + r, none⟩ = some (.float .f32 (X r)) := by rw [hwz]; exact rr
              have z2 : wz.cell? ⟨xb, xo + (r + 1), none⟩ = some (.float .f32 (X (r + 1))) := by rw [hwz]; exact rj
              have z3 : wz.cell? ⟨xb, xo + q, none⟩ = some (.float .f32 (X q)) := by rw [hwz]; exact rq
              have z4 : wz.cell? ⟨xb, xo + (q + 1), none⟩ = some (.float .f32 (X (q + 1))) := by rw [hwz]; exact rq1
              rw [← hwz]
              have HWZ := Lib.hid (show Below w.heap.size w wz by rw [hwz]; exact Below.drewN (Below.refl _ _) _)
              clear rr rj rq rq1 hwz
              go_wp2_with fail
              obtain ⟨Q1, hQ1⟩ : ∃ Q1, fbin .quo .f32 A B = Q1 := ⟨_, rfl⟩
              obtain ⟨Q2, hQ2⟩ : ∃ Q2, fbin .quo .f32 A' B' = Q2 := ⟨_, rfl⟩
              obtain ⟨E1, hE1⟩ : ∃ E1, fbin .sub .f32 (floatOfInt .f32 ((r : Int) + 1)) Q1 = E1 := ⟨_, rfl⟩
              obtain ⟨E2, hE2⟩ : ∃ E2, fbin .add .f32 (floatOfInt .f32 (q : Int)) Q2 = E2 := ⟨_, rfl⟩
              rw [hQ1, hQ2, hE1, hE2] at eD
              cases d1 : isNaN .f32 Q1
              · skip
                have e1 : isNaN .f32 E1 = false := by rw [← hE1]; exact nan_sub_l (idx_fin (r + 1) (by omega)) d1
                have q7 := fun t => run_numop (op := .quo) rfl t _ _ _ hQ1 d1
                have q8 := fun t => run_numop (op := .sub) rfl t _ _ _ hE1 e1
                clear hQ1 hE1
                go_quiet (fail)
                go_wp2_with fail
                refine (fun (h : ∀ (wy : World), Below w.heap.size w wy → wy.cell? ⟨xb, xo + q, none⟩ = some (.float .f32 (X q)) → wy.cell? ⟨xb, xo + (q + 1), none⟩ = some (.float .f32 (X (q + 1))) → Code.wp _ _ _ _ wy) => h _ (Below.drewN HWZ.out _) z3 z4) ?_
                clear z1 z2 z3 z4 HWZ
                intro wy HWY y3 y4
                have HY := Lib.hid HWY
                clear HWY
                cases d2 : isNaN .f32 Q2
                · skip
                  have e2 : isNaN .f32 E2 = false := by rw [← hE2]; exact nan_add_l (idx_fin q (by omega)) d2
                  as_aux_lemma =>
                    have q5 := fun t => run_numop (op := .quo) rfl t _ _ _ hQ2 d2
                    have q6 := fun t => run_numop (op := .add) rfl t _ _ _ hE2 e2
                    go_wp2_with fail
                    go_quiet (fail)
                    go_wp2_with (first | ((with_reducible refine wpL_fbin ?_); refine ⟨_, _, _, rfl, rfl, rfl, fun s n => ?_⟩) | (go_at_call 52; refine (numS_any _ _ _).mono ?_; rintro e w' ⟨s', m', rfl, rfl⟩))
                    go_ret2
                    rw [hz1.out, hz2.out]
                    exact ⟨_, rfl, Below.drewN HY.out _⟩
                · as_aux_lemma =>
                    have qq := run_quo32
                    have qa := run_add32
                    go_wp2_with fail
                    go_region
                    go_wp2_with (first | ((with_reducible refine wpL_fbin ?_); refine ⟨_, _, _, rfl, rfl, rfl, fun s n => ?_⟩) | (go_at_call 52; refine (numS_any _ _ _).mono ?_; rintro e w' ⟨s', m', rfl, rfl⟩))
                    go_ret2
                    rw [hz1.out, hz2.out]
                    exact ⟨_, rfl, Below.drewN HY.out _⟩
              · skip
                have qq := run_quo32
                have qs := run_sub32
                go_region
                clear qq qs
                go_wp2_with fail
                refine (fun (h : ∀ (wy : World), Below w.heap.size w wy → wy.cell? ⟨xb, xo + q, none⟩ = some (.float .f32 (X q)) → wy.cell? ⟨xb, xo + (q + 1), none⟩ = some (.float .f32 (X (q + 1))) → Code.wp _ _ _ _ wy) => h _ (Below.drewN HWZ.out _) z3 z4) ?_
                clear z1 z2 z3 z4 HWZ
                intro wy HWY y3 y4
                have HY := Lib.hid HWY
                clear HWY
                cases d2 : isNaN .f32 Q2
                · skip
                  have e2 : isNaN .f32 E2 = false := by rw [← hE2]; exact nan_add_l (idx_fin q (by omega)) d2
                  as_aux_lemma =>
                    have q5 := fun t => run_numop (op := .quo) rfl t _ _ _ hQ2 d2
                    have q6 := fun t => run_numop (op := .add) rfl t _ _ _ hE2 e2
                    go_wp2_with fail
                    go_quiet (fail)
                    go_wp2_with (first | ((with_reducible refine wpL_fbin ?_); refine ⟨_, _, _, rfl, rfl, rfl, fun s n => ?_⟩) | (go_at_call 52; refine (numS_any _ _ _).mono ?_; rintro e w' ⟨s', m', rfl, rfl⟩))
                    go_ret2
                    rw [hz1.out, hz2.out]
                    exact ⟨_, rfl, Below.drewN HY.out _⟩
                · as_aux_lemma =>
                    have qq := run_quo32
                    have qa := run_add32
                    go_wp2_with fail
                    go_region
                    go_wp2_with (first | ((with_reducible refine wpL_fbin ?_); refine ⟨_, _, _, rfl, rfl, rfl, fun s n => ?_⟩) | (go_at_call 52; refine (numS_any _ _ _).mono ?_; rintro e w' ⟨s', m', rfl, rfl⟩))
                    go_ret2
                    rw [hz1.out, hz2.out]
                    exact ⟨_, rfl, Below.drewN HY.out _⟩
          · obtain rfl : p = 0 := by omega
            obtain rfl : l = 0 := by omega
            rw [show ((0 : Nat) : Int) - 1 = -1 from rfl]
            have hz := Lib.hid (show v = false by rw [HV.out]; simp)
            have hz1 := Lib.hid (show R = 0 by rw [HR.out, hz.out, if_neg (by simp)])
            have hz2 := Lib.hid (show ok = false by rw [HO.out, hz.out, Bool.false_and])
            go_wp2
            go_ret2
            rw [hz1.out, hz2.out]
            refine hpNo ?_
            (repeat (first | with_reducible exact Below.refl _ _ | with_reducible refine Below.drewN ?_ _ | with_reducible refine Below.setCell ?_ (by simp; try omega) _ | with_reducible refine Below.alloc ?_ (by simp; try omega) _))

      · skip
        obtain rfl : N = j := by omega
        go_wp2
        go_loopw [8] (fun c wr => ∃ p m' : Nat, l ≤ p ∧ p ≤ i ∧ c = .int .i64 ((p : Int) - 1) ∧ wr = w.drewN m') (fun c _ => (intOf c + 1).toNat)
        case atStart => exact ⟨i, _, by omega, by omega, by go_num, rfl⟩
        case round =>
          obtain ⟨p, m', p1, p2, rfl, rfl⟩ := hrel
          skip
          by_cases hp0 : 0 < p
          · obtain ⟨q, rfl⟩ : ∃ q, p = q + 1 := ⟨p - 1, by omega⟩
            have eq1 : ((q + 1 : Nat) : Int) - 1 = (q : Int) := by omega
            rw [eq1]
            clear eq1
            have jq : (q : Int) < (N : Int) := by omega
            have jq0 : (0 : Int) ≤ (q : Int) := by omega
            have rq := HX.out q (by omega)
            by_cases hlq : l < q + 1
            · have hgq : (FloatKind.f32.format.order (X q) H == some .gt) = true := HL3.out q (by omega) (by omega)
              go_wp2
              go_roundw
              case rel => exact ⟨q, m', by omega, by omega, by go_num, rfl⟩
              case measure => first | (simp [intOf]; done) | (simp [intOf]; omega)
            · obtain rfl : l = q + 1 := by omega
              have hgq : (FloatKind.f32.format.order (X q) H == some .gt) = false := by
                have h4 := HL4.out (by omega)
                rw [Nat.add_sub_cancel] at h4
                exact h4
              have hz := Lib.hid (show v = false by rw [HV.out, decide_eq_false (by omega), Bool.false_and])
              have hz1 := Lib.hid (show R = 0 by rw [HR.out, hz.out, if_neg (by simp)])
              have hz2 := Lib.hid (show ok = false by rw [HO.out, hz.out, Bool.false_and])
              go_wp2
              go_ret2
              rw [hz1.out, hz2.out]
              refine hpNo ?_
              (repeat (first | with_reducible exact Below.refl _ _ | with_reducible refine Below.drewN ?_ _ | with_reducible refine Below.setCell ?_ (by simp; try omega) _ | with_reducible refine Below.alloc ?_ (by simp; try omega) _))
          · obtain rfl : p = 0 := by omega
            obtain rfl : l = 0 := by omega
            rw [show ((0 : Nat) : Int) - 1 = -1 from rfl]
            have hz := Lib.hid (show v = false by rw [HV.out]; simp)
            have hz1 := Lib.hid (show R = 0 by rw [HR.out, hz.out, if_neg (by simp)])
            have hz2 := Lib.hid (show ok = false by rw [HO.out, hz.out, Bool.false_and])
            go_wp2
            go_ret2
            rw [hz1.out, hz2.out]
            refine hpNo ?_
            (repeat (first | with_reducible exact Below.refl _ _ | with_reducible refine Below.drewN ?_ _ | with_reducible refine Below.setCell ?_ (by simp; try omega) _ | with_reducible refine Below.alloc ?_ (by simp; try omega) _))

end Go.Proofs.Ytaobjilnbbpmeaa
