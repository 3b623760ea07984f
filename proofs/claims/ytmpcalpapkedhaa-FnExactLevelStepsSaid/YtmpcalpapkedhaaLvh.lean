/- Shares of levels behind steps that are valid, as the model tells them. -/
import Derived.Test.YtmpcalpapkedhaaLvg
import Derived.Test.YtmpcalpapkedhaaPuR
import Derived.Test.YtmpcalpapkedhaaSto
namespace Go.Proofs.Ytmpcalpapkedhaa
set_option linter.all false
open Go Go.ChangeShapes Go.WideShapes Go.ChangeAt Go.RowKit

theorem lv_next {N : Nat} {A X Z : Nat → Nat} {h t k : Nat} (hL : LikeP Z (stepR (levG N A) h X t) N) (hk : k < N) :
    fbin .add .f32 (Z k) (fbin .mul .f32 h (fbin .sub .f32 (dotW Z (lvI N A k) N) (fbin .mul .f32 (Z k) (lvO N A k)))) = stepR (levG N A) h X (t + 1) k := by
  have e := levG_likeP (A := A) hL hk
  obtain ⟨s, hs⟩ := hL k hk
  show fbin .add .f32 (Z k) (fbin .mul .f32 h (levG N A Z k)) = _
  rw [e, hs, fbin_pick_l]
  rfl
set_option maxRecDepth 100000 in
set_option maxHeartbeats 6400000 in
theorem specLv_yes (N : Nat) (ra : Option Addr) (L rc : Nat) (A : Nat → Nat) (h T : Nat) (xa : Option Addr) (cx : Nat) (X : Nat → Nat) (w : World) (hX : Rd w xa N X) (hA : Rd w ra L A) (hok : lvOk (N : Int) L A = true) (hLm : L ≤ 1048576)
    (hg : gL A L = true) (hL : L = N * N) (hN : N ≤ 6) (hN1 : 1 ≤ N) (k1 : finL X N = true) (k2 : isG h = true) (k3 : inB (T : Int) 0 512 = true) (G : Nat → Nat → Nat) (hG : G = stepR (levG N A) h X) :
    Calls Try.prog 61 #[.int .i64 (N : Int), .slice ra L rc, .slice xa N cx, .float .f32 h, .int .i64 (T : Int)] w (LevRet (G T) N w) := by
  have hTb : T ≤ 512 := by have := inB_rng k3; omega
  obtain ⟨i0, hi, hz0, hz1, hz2⟩ := info_parts infoF
  obtain ⟨xb, xo, hxa, hcx⟩ := hA
  have HAC := Lib.hid hcx
  have HL := Lib.hid hL
  have e := hxa (by rw [hL]; exact Nat.mul_pos hN1 hN1)
  subst e
  have hA : Rd w (some ⟨xb, xo, none⟩) L A := ⟨xb, xo, fun _ => rfl, hcx⟩
  have HA := Lib.hid hA
  have HX := Lib.hid hX
  have HR := Lib.hid (fun w hA => specRates_any (N : Int) (some ⟨xb, xo, none⟩) L rc A w hA hLm true (Lib.hid hok.symm))
  have HO := Lib.hid (fun w hA k hk => specOut_any N (some ⟨xb, xo, none⟩) L rc A k w hA hL hN hN1 hk hg)
  have HF1 := Lib.hid (show ∀ m, Calls Try.prog 135 #[.slice xa N cx] (w.drewN m) fun e w' => e = .returned (.bool true) ∧ ∃ q, w' = (w.drewN m).drewN q from fun m => by
    have := l02Finite_any xa N cx X (w.drewN m) (hX.drew m) (by omega)
    rw [k1] at this
    exact this)
  have H0 := Lib.hid (show LikeP X (G 0) N by rw [hG]; exact like_self k1)
  have HN := Lib.hid (show ∀ (Z : Nat → Nat) t k, LikeP Z (G t) N → k < N → fbin .add .f32 (Z k) (fbin .mul .f32 h (fbin .sub .f32 (dotW Z (lvI N A k) N) (fbin .mul .f32 (Z k) (lvO N A k)))) = G (t + 1) k by
    intro Z t k hL hk
    rw [hG] at hL ⊢
    exact lv_next hL hk)
  clear hcx hL hA hX hok hg k1 hG hxa
  go_enter Try.func61, Try.ntmps61
  go_wp2_with (first | (go_at_call 116; refine (HR.out _ (by exact HA.out)).mono ?_; rintro e w' ⟨rfl, q, rfl⟩) | (go_at_call 135; refine (HF1.out _).mono ?_; rintro e w' ⟨rfl, q2, rfl⟩) | (first | (go_at_call 100; refine (l02Least_any _ _).mono ?_; rintro e w' ⟨rfl, q, rfl⟩) | (go_at_call 179; refine (l00In_any _ _ _ _).mono ?_; rintro e w' ⟨rfl, rfl⟩)) | go_in | (at_builtin; refine wpL_copy0 hi hz0 hz1 hz2 rfl rfl rfl rfl (by exact (HX.out.drew _).alloc _) hN1 (by omega) ?_; intro v' w1 hown hb))
  obtain ⟨g0, c0, rfl⟩ := own_some2 hown hN1
  have hownB : w1.ownsRow w.heap.size 22 1 (.slice (some ⟨g0, 0, none⟩) N c0) N (rowOf X N) := own_mono0 hown (by simp)
  have hB1 : Below w.heap.size w w1 := (Below.alloc (Below.drewN (Below.refl _ w) _) (Nat.le_refl _) _).trans (hb.mono (by simp))
  clear hown hb k2 k3
  go_loopw [12, 13] (fun v i wr => ∃ (t g cap : Nat) (Z : Nat → Nat), t ≤ T ∧ i = .int .i64 (t : Int) ∧ v = .slice (some ⟨g, 0, none⟩) N cap ∧ wr.ownsRow w.heap.size 22 1 (.slice (some ⟨g, 0, none⟩) N cap) N (rowOf Z N) ∧ LikeP Z (G t) N ∧ Below w.heap.size w wr) (fun _ i _ => T - (intOf i).toNat)
  case atStart => exact ⟨0, g0, c0, X, Nat.zero_le _, rfl, rfl, hownB, H0.out, hB1⟩
  case round =>
    clear hownB hB1
    obtain ⟨t, g, cap, Z, ht, rfl, rfl, hownZ, hLZ, hBt⟩ := hrel
    by_cases hlt : t < T
    · obtain ⟨wo, hwo⟩ : ∃ wo, wo = wr := ⟨_, rfl⟩
      subst hwo
      have HZ := Lib.hid hownZ
      have HNx := Lib.hid (fun k hk => HN.out Z t k hLZ hk)
      clear hownZ hLZ
      go_wp2
      go_loopw [14, 15] (fun v i wr => ∃ (k : Nat) (Y : Nat → Nat), k ≤ N ∧ i = .int .i64 (k : Int) ∧ wr.ownsRow wo.heap.size 22 1 v k (rowOf Y k) ∧ LikeP Y (G (t + 1)) k ∧ Below wo.heap.size wo wr) (fun _ i _ => N - (intOf i).toNat)
      case atStart => exact ⟨0, fun _ => 0, Nat.zero_le _, rfl, own_empty _ _, fun _ h => absurd h (Nat.not_lt_zero _), Below.alloc (Below.refl _ _) (Nat.le_refl _) _⟩
      case round =>
        obtain ⟨k, Y, hk, rfl, hownk, hLY, hBk⟩ := hrel
        by_cases hltk : k < N
        · obtain ⟨wu, hwu⟩ : ∃ wu, wu = wr := ⟨_, rfl⟩
          subst hwu
          have hBw : Below w.heap.size w wu := hBt.trans (hBk.mono hBt.size)
          have hZk := own_below HZ.out hBk
          obtain ⟨F, hF⟩ : ∃ F, F = lvI N A k := ⟨_, rfl⟩
          have HF := Lib.hid hF
          have HBw := Lib.hid hBw
          have HZk := Lib.hid hZk
          have HOk := Lib.hid hownk
          have HBk := Lib.hid hBk
          have HLY := Lib.hid hLY
          clear hF hBw hZk hownk hBk hLY
          go_wp2
          go_loopw [16, 17] (fun q i wr => ∃ (c mm s : Nat), c ≤ N ∧ i = .int .i64 (c : Int) ∧ q = .float .f32 (pick .f32 (dotW Z F c) s) ∧ wr = wu.drewN mm) (fun _ i _ => N - (intOf i).toNat)
          case atStart => exact ⟨0, 0, 0, Nat.zero_le _, rfl, by rw [show dotW Z F 0 = 0 from rfl, pick_zero], rfl⟩
          case round =>
            obtain ⟨c, mm, s, hc, rfl, rfl, rfl⟩ := hrel
            by_cases hltc : c < N
            · have hidx : c * N + k < L := by rw [HL.out]; exact idx_lt hltc hltk
              have r1 := HAC.out (c * N + k) hidx
              have r2 : wu.cell? ⟨xb, xo + (c * N + k), none⟩ = some (.float .f32 (A (c * N + k))) := (HBw.out.cell (p := ⟨xb, xo + (c * N + k), none⟩) (World.block_lt_of_cell? w _ r1)).trans r1
              have z2 := own_cell HZk.out hltc
              have hmw := mul_wrap hN (show c ≤ 6 by omega)
              have haw : ((c * N : Nat) : Int) + (k : Int) = ((c * N + k : Nat) : Int) := by omega
              have hd := dotW_succ Z F c
              rw [show F c = A (c * N + k) by rw [HF.out]; rfl] at hd
              have hL36 := idx_small hN hN
              rw [← HL.out] at hL36
              obtain ⟨p, hp⟩ : ∃ p, p = c * N + k := ⟨_, rfl⟩
              obtain ⟨m, hmn⟩ : ∃ m, m = c * N := ⟨_, rfl⟩
              rw [← hp] at r2 hidx haw hd
              rw [← hmn] at hmw haw
              have hpw : IntKind.i64.wrap ((m : Int) + (k : Int)) = (p : Int) := by rw [haw, IntKind.wrap_i64]; omega
              have hp36 : (p : Int) < (L : Int) := by omega
              have hm := mul32_run
              have ha := add32_run
              have hp1 := fbin_pick_l .add .f32
              have hq1 := fbin_pick_r .add .f32
              obtain ⟨D, hD⟩ : ∃ D, D = dotW Z F c := ⟨_, rfl⟩
              rw [← hD] at hd
              have HD := Lib.hid hD
              have HE := Lib.hid hd
              rw [← HD.out]
              clear r1 hp hmn hD hd haw
              go_wp2_with fail
              go_region_with fail
              all_goals go_wp2
              all_goals go_roundw
              all_goals first | exact ⟨c + 1, _, _, by omega, by go_num, by rw [← HE.out], rfl⟩ | (simp [intOf]; omega)
            · have hcN : c = N := by omega
              subst hcN
              obtain ⟨wv, hwv⟩ : ∃ wv, wv = wu.drewN mm := ⟨_, rfl⟩
              have hZv : wv.ownsRow w.heap.size 22 1 (.slice (some ⟨g, 0, none⟩) c cap) c (rowOf Z c) := by rw [hwv]; exact own_drew HZk.out mm
              have hownv := own_drew HOk.out mm
              rw [← hwv] at hownv
              have hBv : Below wo.heap.size wo wv := by rw [hwv]; exact Below.drewN HBk.out mm
              have hAv : Rd wv (some ⟨xb, xo, none⟩) L A := by rw [hwv]; exact (HA.out.below HBw.out).drew mm
              have hszv := hBv.size
              have z3 := own_cell hZv hltk
              have hE := HNx.out k hltk
              rw [← HF.out] at hE
              have HOu := Lib.hid (fun m => HO.out (wv.drewN m) (hAv.drew m) k hltk)
              have HOv := Lib.hid (HO.out wv hAv k hltk)
              obtain ⟨D, hD⟩ : ∃ D, D = dotW Z F c := ⟨_, rfl⟩
              obtain ⟨O, hO⟩ : ∃ O, O = lvO c A k := ⟨_, rfl⟩
              obtain ⟨U, hU⟩ : ∃ U, U = Z k := ⟨_, rfl⟩
              obtain ⟨E, hEE⟩ : ∃ E, E = G (t + 1) k := ⟨_, rfl⟩
              rw [← hO] at HOu HOv hE
              rw [← hU] at z3 hE
              rw [← hEE] at hE
              rw [← hD] at hE ⊢
              rw [← hwv]
              have HE := Lib.hid hEE
              have hp := fun op => fbin_pick_l op .f32
              have hq := fun op => fbin_pick_r op .f32
              have r1 := mul32_run
              have r2 := add32_run
              have r3 := run_sub32
              clear hO hU hEE hD hwv hZv hAv
              go_wp2_with fail
              go_region_law (first | (refine step_push hi hz0 hz1 hz2 rfl (s := .tmp 73) (x := .tmp 92) rfl rfl rfl (by rfl) (by exact hownv) (by omega) (by exact hszv) ?_; intro v' w3 hown' hB') | (go_simp; go_at_call 117; refine (by first | exact HOv.out | exact HOu.out _ : Calls _ _ _ _ _).mono ?_; rintro e w' ⟨rfl, rfl⟩))
              all_goals go_wp2
              all_goals go_roundw
              all_goals first | exact ⟨k + 1, _, by omega, by go_num, hown', LikeP.push HLY.out (by rw [← HE.out]), Below.trans (Below.drewN hBv _) hB'⟩ | (simp [intOf]; omega)
        · have hkN : k = N := by omega
          subst hkN
          obtain ⟨g2, c2, hv⟩ := own_some2 hownk hN1
          subst hv
          go_wp2
          go_roundw
          case rel => exact ⟨t + 1, g2, c2, Y, by omega, by go_num, rfl, own_mono0 hownk hBt.size, hLY, hBt.trans (hBk.mono hBt.size)⟩
          case measure => simp [intOf]; omega
    · have htT : t = T := by omega
      subst htT
      have hLk := hLZ.like
      cases hf : finL Z N
      · go_wp2_with (go_at_call 119; refine (l02List_any _ _ _ Z _ (by exact hownZ) (by omega)).mono ?_; rw [hf]; rintro e w4 ⟨rfl, q5, rfl⟩)
        go_ret2
        exact levRet_no hf hLk hBt
      · go_wp2_with (go_at_call 119; refine (l02List_any _ _ _ Z _ (by exact hownZ) (by omega)).mono ?_; rw [hf]; rintro e w4 ⟨rfl, q5, rfl⟩)
        go_ret2
        exact levRet_yes hf hLk hownZ hBt
end Go.Proofs.Ytmpcalpapkedhaa
