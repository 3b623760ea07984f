/- The weights of a rotor's levels: as the model tells them. -/
import Derived.Test.YtebelikahpnobabRtw
import Derived.Test.YtebelikahpnobabExpI
import Derived.Test.YtebelikahpnobabArr
import Derived.Laws.NewBlocks
namespace Go.Proofs.Ytebelikahpnobab
open Go Go.ChangeShapes Go.WideShapes Go.ChangeAt Go.RowKit

def okRt (b t : Nat) (c : Int) : Bool := isG b && isP t && inB c 1 40
theorem like_eq {X W : Nat → Nat} {n : Nat} (hL : LikeP X W n) (hW : ∀ i, i < n → isNaN .f32 (W i) = false) : ∀ i, i < n → X i = W i := fun i hi => by
  obtain ⟨s, e⟩ := hL i hi
  rw [e, pick_num (hW i hi)]
theorem own_some3 {w : World} {B n : Nat} {v : Value} {xs : List Value} (h : w.ownsRow B 23 1 v n xs) (hn : 1 ≤ n) : ∃ g cap, v = .slice (some ⟨g, 0, none⟩) n cap := by
  rcases h.2 with ⟨_, h2⟩ | ⟨g, cap, cur, h1, _⟩
  · omega
  · exact ⟨g, cap, h1⟩
set_option maxRecDepth 100000 in
set_option maxHeartbeats 3200000 in
theorem specRt_no (b t : Nat) (c : Int) (w : World) (R : Nat → Nat) (hk : okRt b t c = false) :
    Calls Try.prog 25 #[.float .f32 b, .float .f32 t, .int .i64 c] w (OutRet R 0 false w) := by
  have hp := isP_eq t
  cases c1 : isG b
  · skip
    clear hk hp
    go_enter Try.func25, Try.ntmps25
    go_wp2_with (first | (go_at_call 140; refine (l03Least_any _ _).mono ?_; rintro e w' ⟨rfl, q, rfl⟩) | (go_at_call 141; refine (l03Rotor_any _ _).mono ?_; rintro e w' ⟨rfl, rfl⟩) | (go_at_call 84; go_in))
    go_ret2
    refine OutRet.no ?_
    (repeat (first | with_reducible exact Below.refl _ _ | with_reducible refine Below.drewN ?_ _ | with_reducible refine Below.setCell ?_ (by simp; try omega) _ | with_reducible refine Below.alloc ?_ (by simp; try omega) _))
  · skip
    cases c2 : isG t
    · skip
      clear hk hp
      go_enter Try.func25, Try.ntmps25
      go_wp2_with (first | (go_at_call 140; refine (l03Least_any _ _).mono ?_; rintro e w' ⟨rfl, q, rfl⟩) | (go_at_call 141; refine (l03Rotor_any _ _).mono ?_; rintro e w' ⟨rfl, rfl⟩) | (go_at_call 84; go_in))
      go_ret2
      refine OutRet.no ?_
      (repeat (first | with_reducible exact Below.refl _ _ | with_reducible refine Below.drewN ?_ _ | with_reducible refine Below.setCell ?_ (by simp; try omega) _ | with_reducible refine Below.alloc ?_ (by simp; try omega) _))
    · skip
      cases c3 : (FloatKind.f32.format.order t 0 == some .eq)
      rotate_left
      · skip
        clear hk hp
        go_enter Try.func25, Try.ntmps25
        go_wp2_with (first | (go_at_call 140; refine (l03Least_any _ _).mono ?_; rintro e w' ⟨rfl, q, rfl⟩) | (go_at_call 141; refine (l03Rotor_any _ _).mono ?_; rintro e w' ⟨rfl, rfl⟩) | (go_at_call 84; go_in))
        go_ret2
        refine OutRet.no ?_
        (repeat (first | with_reducible exact Below.refl _ _ | with_reducible refine Below.drewN ?_ _ | with_reducible refine Below.setCell ?_ (by simp; try omega) _ | with_reducible refine Below.alloc ?_ (by simp; try omega) _))
      · skip
        cases c4 : inB c 1 40
        · skip
          clear hk hp
          go_enter Try.func25, Try.ntmps25
          go_wp2_with (first | (go_at_call 140; refine (l03Least_any _ _).mono ?_; rintro e w' ⟨rfl, q, rfl⟩) | (go_at_call 141; refine (l03Rotor_any _ _).mono ?_; rintro e w' ⟨rfl, rfl⟩) | (go_at_call 84; go_in))
          go_ret2
          refine OutRet.no ?_
          (repeat (first | with_reducible exact Below.refl _ _ | with_reducible refine Below.drewN ?_ _ | with_reducible refine Below.setCell ?_ (by simp; try omega) _ | with_reducible refine Below.alloc ?_ (by simp; try omega) _))
        · skip
          exfalso
          rw [okRt, c1, hp, c2, c3, c4] at hk
          cases hk
set_option maxRecDepth 100000 in
set_option maxHeartbeats 12800000 in
theorem specRt_yes (b t c : Nat) (w : World) (hb : isG b = true) (ht : isP t = true) (hc1 : 1 ≤ c) (hc2 : c ≤ 40) (W : Nat → Nat) (hW : W = rtW b t) (S : Nat) (hS : S = sumW W c) (R : Nat → Nat) (n : Nat) (ok : Bool)
    (hR : Hid (∀ i, i < c → R i = fbin .quo .f32 (W i) S)) (hn : Hid (n = if ok = true then c else 0)) (ho : Hid (ok = ((FloatKind.f32.format.order S 0 == some .gt) && finL R c))) :
    Calls Try.prog 25 #[.float .f32 b, .float .f32 t, .int .i64 (c : Int)] w (OutRet R n ok w) := by
  obtain ⟨i0, hi, hz0, hz1, hz2⟩ := info_parts infoF
  have hgt : isG t = true ∧ (FloatKind.f32.format.order t 0 == some .eq) = false := by
    have := isP_eq t
    rw [ht] at this
    cases h1 : isG t <;> cases h2 : (FloatKind.f32.format.order t 0 == some .eq) <;> rw [h1, h2] at this <;> first | exact ⟨rfl, rfl⟩ | cases this
  obtain ⟨hg1, hg2⟩ := hgt
  have hin : inB (c : Int) 1 40 = true := inB_yes (by omega) (by omega)
  have HSb := sum_bd hb ht c hc2
  rw [← hW, ← hS] at HSb
  have hSf : isFin .f32 S = true := bd_fin HSb
  have HWn := Lib.hid (fun j (hj : j < c) => show isNaN .f32 (W j) = false by rw [hW]; exact (rtW_bd hb ht (show j < 40 by omega)).num)
  have HSn := Lib.hid (fun s => show pick .f32 S s = S from pick_num HSb.num s)
  have HA := Lib.hid (fun j (hj : j < c) (w : World) (s : Nat) => show Calls Try.prog 142 #[.float .f32 (pick .f32 (rtB b t j) s)] w (NumX (expF (rtB b t j)) w) by
    have hx := (rt_args hb ht (show j < 40 by omega)).2
    rw [pick_num (negX_num hx)]
    exact specExp_any _ hx _ (Lib.hid rfl) w)
  have HS0 := Lib.hid hS
  have HW0 := Lib.hid hW
  clear hS hW HSb
  have hp := fun op => fbin_pick_l op .f32
  have hq := fun op => fbin_pick_r op .f32
  go_enter Try.func25, Try.ntmps25
  go_wp2_with (first | (go_at_call 140; refine (l03Least_any _ _).mono ?_; rintro e w' ⟨rfl, q, rfl⟩) | (go_at_call 141; refine (l03Rotor_any _ _).mono ?_; rintro e w' ⟨rfl, rfl⟩) | (go_at_call 84; go_in))
  clear hb ht hg1 hg2 hin
  go_loopw [8, 9, 10] (fun v u i wr => ∃ (k : Nat) (X : Nat → Nat) (s : Nat), k ≤ c ∧ i = .int .i64 (k : Int) ∧ u = .float .f32 (pick .f32 (sumW W k) s) ∧ wr.ownsRow w.heap.size 23 1 v k (rowOf X k) ∧ LikeP X W k ∧ Below w.heap.size w wr) (fun _ _ i _ => c - (intOf i).toNat)
  case atStart => exact ⟨0, fun _ => 0, 0, Nat.zero_le _, rfl, by rw [show sumW W 0 = 0 from rfl, pick_num (by decide +kernel)], own_empty _ _, fun _ h => absurd h (Nat.not_lt_zero _), Below.alloc (Below.drewN (Below.refl _ _) _) (Nat.le_refl _) _⟩
  case round =>
    obtain ⟨k, X, s0, hk, rfl, rfl, hown, hL, hB⟩ := hrel
    have hsz := hB.size
    by_cases hlt : k < c
    · have hk64 : k ≤ 64 := by omega
      obtain ⟨B, hBd⟩ : ∃ B, B = rtB b t k := ⟨_, rfl⟩
      have eB : fbin .sub .f32 0 (fbin .quo .f32 (fbin .mul .f32 b (qF k)) t) = B := hBd.symm
      obtain ⟨E, hE⟩ : ∃ E, E = expF B := ⟨_, rfl⟩
      have HAk := Lib.hid (fun w s => HA.out k hlt w s)
      rw [← hBd, ← hE] at HAk
      have eW : fbin .mul .f32 (floatOfInt .f32 (2 * (k : Int) + 1)) E = W k := by rw [HW0.out, hE, hBd]; rfl
      obtain ⟨V, hV⟩ : ∃ V, V = W k := ⟨_, rfl⟩
      rw [← hV] at eW
      obtain ⟨Sk, hSk⟩ : ∃ Sk, Sk = sumW W k := ⟨_, rfl⟩
      have HN := Lib.hid (show sumW W (k + 1) = fbin .add .f32 Sk V by rw [hSk, hV]; rfl)
      rw [← hSk]
      have HV := Lib.hid hV
      clear hBd hE hV hSk
      go_wp2_with (first | ((with_reducible refine wpL_fbin ?_); refine ⟨_, _, _, rfl, rfl, rfl, fun s n => ?_⟩) | (go_at_call 143; refine (l03Q_any k hk64 _).mono ?_; rintro e w' ⟨rfl, rfl⟩) | (go_at_call 142; refine (HAk.out _ _).mono ?_; rintro e w' ⟨rfl, m', rfl⟩) | (at_builtin; refine wpL_push hi hz0 hz1 hz2 rfl rfl rfl rfl (by exact hown) (by omega) (by exact hsz) ?_; intro v' w1 hown' hB'))
      go_roundw
      case rel => exact ⟨k + 1, _, _, by omega, by go_num, by rw [HN.out], own_drew hown' _, hL.push (by rw [HV.out]), Below.drewN (Below.trans (Below.drewN hB _) hB') _⟩
      case measure => simp [intOf]; omega
    · have hkc : k = c := by omega
      subst hkc
      rw [← HS0.out]
      have hS1 := HSn.out s0
      rw [hS1]
      clear hS1 hlt hk HA
      cases hgS : (FloatKind.f32.format.order S 0 == some .gt)
      · obtain rfl : ok = false := by rw [ho.out, hgS, Bool.false_and]
        obtain rfl : n = 0 := by rw [hn.out, if_neg (by simp)]
        cases heS : (FloatKind.f32.format.order S 0 == some .eq)
        · have hG : isG S = false := by unfold isG; rw [hgS, heS]; simp
          go_wp2_with (go_at_call 140; refine (l03Least_any _ _).mono ?_; rintro e w' ⟨rfl, q, rfl⟩)
          go_ret2
          exact OutRet.no (Below.drewN hB _)
        · have hG : isG S = true := by unfold isG; rw [hSf, heS]; simp
          go_wp2_with (go_at_call 140; refine (l03Least_any _ _).mono ?_; rintro e w' ⟨rfl, q, rfl⟩)
          go_ret2
          exact OutRet.no (Below.drewN hB _)
      · have hG : isG S = true := by unfold isG; rw [hSf, hgS]; rfl
        have heS : (FloatKind.f32.format.order S 0 == some .eq) = false := by
          cases h : FloatKind.f32.format.order S 0 with
          | none => rfl
          | some o => rw [h] at hgS; cases o <;> first | rfl | cases hgS
        obtain ⟨g0, cp, rfl⟩ := own_some3 hown (by omega)
        have hge0 := own_ge hown
        have ho2 := ho.out
        rw [hgS, Bool.true_and] at ho2
        have HO := Lib.hid ho2
        clear ho2 ho
        go_wp2_with (go_at_call 140; refine (l03Least_any _ _).mono ?_; rintro e w' ⟨rfl, q, rfl⟩)
        clear hG heS hgS hSf
        have hown2 := own_drew hown q
        have hB2 := Below.drewN hB q
        clear hown hB
        obtain ⟨w2, hw2⟩ : ∃ w2, w2 = wr.drewN q := ⟨_, rfl⟩
        rw [← hw2] at hown2 hB2 ⊢
        clear hw2
        go_loopw [65] (fun i wr => ∃ (j : Nat) (Z : Nat → Nat), j ≤ k ∧ i = .int .i64 (j : Int) ∧ wr.ownsRow w.heap.size 23 1 (.slice (some ⟨g0, 0, none⟩) k cp) k (rowOf Z k) ∧ LikeP Z (fun i => if i < j then R i else W i) k ∧ Below w.heap.size w wr) (fun i _ => k - (intOf i).toNat)
        case atStart => exact ⟨0, X, Nat.zero_le _, rfl, hown2, by simpa using hL, hB2⟩
        case round =>
          obtain ⟨j, Z, hj, rfl, hoZ, hlZ, hbZ⟩ := hrel
          clear hown2 hB2
          by_cases hjk : j < k
          · have z1 := own_cell hoZ hjk
            obtain ⟨s2, e2⟩ := hlZ j hjk
            simp only [if_neg (show ¬ j < j by omega)] at e2
            rw [e2] at z1
            clear e2
            have HV := Lib.hid (hR.out j hjk)
            obtain ⟨V, hV⟩ : ∃ V, V = W j := ⟨_, rfl⟩
            rw [← hV] at z1 HV
            have st := fun q u => own_store hoZ hjk q u
            have HOZ := Lib.hid hoZ
            have HB := Lib.hid hbZ
            clear hoZ hbZ hV
            go_wp2_with ((with_reducible refine wpL_fbin ?_); refine ⟨_, _, _, rfl, rfl, rfl, fun s n => ?_⟩)
            go_roundw
            case rel => exact ⟨j + 1, _, by omega, by go_num, own_stored (own_drew HOZ.out _) j _, (hlZ.set (r := R j) (by rw [HV.out])).congr (fun i _ => by
              by_cases e : i = j
              · subst e; simp
              · by_cases e2 : i < j
                · simp [e, e2, show i < j + 1 by omega]
                · simp [e, e2, show ¬ i < j + 1 by omega]), Below.setCell (Below.drewN HB.out _) (by exact hge0) _⟩
            case measure => simp [intOf]; omega
          · have hjk' : j = k := by omega
            subst hjk'
            have hlR : LikeP Z R j := hlZ.congr fun i hi => by simp only [if_pos hi]
            have e := finL_like hlR.like
            clear hlZ hjk hj
            cases hf : finL Z j
            · obtain rfl : ok = false := by rw [HO.out, ← e, hf]
              obtain rfl : n = 0 := by rw [hn.out, if_neg (by simp)]
              clear e
              go_wp2_with (go_at_call 144; refine (l03List_any _ w.heap.size j Z _ hoZ (by omega)).mono ?_; rintro e w' ⟨rfl, q, rfl⟩)
              go_ret2
              exact OutRet.no (Below.drewN hbZ _)
            · obtain rfl : ok = true := by rw [HO.out, ← e, hf]
              obtain rfl : n = j := by rw [hn.out, if_pos rfl]
              clear e
              go_wp2_with (go_at_call 144; refine (l03List_any _ w.heap.size n Z _ hoZ (by omega)).mono ?_; rintro e w' ⟨rfl, q, rfl⟩)
              go_ret2
              exact ⟨_, Z, rfl, hoZ, hlR.like, Below.drewN hbZ _⟩
end Go.Proofs.Ytebelikahpnobab
