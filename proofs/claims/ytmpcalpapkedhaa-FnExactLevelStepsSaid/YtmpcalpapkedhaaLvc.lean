
/- Steps of shares of levels, as the program does them. -/
import Derived.Test.YtmpcalpapkedhaaLvb
namespace Go.Proofs.Ytmpcalpapkedhaa
open Go Go.ChangeShapes Go.WideShapes Go.ChangeAt Go.RowKit

set_option maxRecDepth 100000 in
set_option maxHeartbeats 12800000 in
theorem levSteps_yes (M : Nat) (ra : Option Addr) (L rc : Nat) (A : Nat → Nat) (h : Nat) (T : Nat) (xa : Option Addr) (cap : Nat) (X : Nat → Nat) (w : World) (hX : Rd w xa M X) (hf : finL X M = true) (hh : isG h = true) (hT : T ≤ 512) (hA0 : Rd w ra L A) (hL0 : L = M * M) (hrc0 : L ≤ rc) (hM6 : M ≤ 6) (hM1 : 1 ≤ M) :
    Calls Try.prog 137 #[.slice xa M cap, .float .f32 h, .int .i64 (T : Int), .func (.func 138) #[.agg #[.int .i64 (M : Int), .slice ra L rc]] #[]] w (LevRet (stepR (levG M A) h X T) M w) := by
  have d0 : decide ((T : Int) < 0) = false := decide_eq_false (by omega)
  have d1 : decide ((512 : Int) < (T : Int)) = false := decide_eq_false (by omega)
  have hg1 : gL (fun _ => h) 1 = true := by rw [gL_one, hh]
  have hls := like_self hf
  have HL0 := Lib.hid hL0
  have HRC := Lib.hid hrc0
  have HA0 := Lib.hid hA0
  clear hL0 hrc0 hA0
  go_enter Try.func137, Try.ntmps137
  go_wp2_with fail
  refine wp_scope_rest 0 (fun a' w' => ∃ (t : Nat) (Xs : Nat → Nat) (g0 cp : Nat) (u4 u5 u6 u7 u11 u12 u13 u14 u15 u16 u17 u18 u19 u20 u21 u22 u23 u24 u25 u26 u27 u28 u29 u30 u31 u32 u33 u34 u35 u36 u37 u38 u39 u40 u41 u42 u43 u44 u45 u46 u47 u48 u49 u50 u51 u52 u53 u54 u55 u56 u57 u58 : Value), a' = { tmps := #[.slice xa M cap, .float .f32 h, .int .i64 ((T : Int) - (t : Int)), .func (.func 138) #[.agg #[.int .i64 (M : Int), .slice ra L rc]] #[], u4, u5, u6, u7, .slice none 0 0, .bool false, .slice (some ⟨g0, 0, none⟩) M cp, u11, u12, u13, u14, u15, u16, u17, u18, u19, u20, u21, u22, u23, u24, u25, u26, u27, u28, u29, u30, u31, u32, u33, u34, u35, u36, u37, u38, u39, u40, u41, u42, u43, u44, u45, u46, u47, u48, u49, u50, u51, u52, u53, u54, u55, u56, u57, u58], defers := [] } ∧ t ≤ T ∧ w'.ownsRow w.heap.size 22 1 (.slice (some ⟨g0, 0, none⟩) M cp) M (rowOf Xs M) ∧ LikeP Xs (stepR (levG M A) h X t) M ∧ Below w.heap.size w w') (fun a' _ => (intOf (a'.tmps.getD 2 undef)).toNat) rfl ?_ ?_
  · rintro a' w' ⟨t, Xs, g0, cp, u4, u5, u6, u7, u11, u12, u13, u14, u15, u16, u17, u18, u19, u20, u21, u22, u23, u24, u25, u26, u27, u28, u29, u30, u31, u32, u33, u34, u35, u36, u37, u38, u39, u40, u41, u42, u43, u44, u45, u46, u47, u48, u49, u50, u51, u52, u53, u54, u55, u56, u57, u58, rfl, ht, ho, hl, hb⟩
    clear hls hf hh hg1 d0 d1
    have hg0 := own_lt ho
    have hge0 := own_ge ho
    by_cases hlt : t < T
    · have hne : ((T : Int) - (t : Int) == 0) = false := by simp; omega
      have hrd := rd_own ho
      go_wp2_with (go_at_call 138; refine (levGrow_any M ra L rc A _ _ Xs (stepR (levG M A) h X t) _ (by exact HA0.out.below hb) HL0.out HRC.out hM6 hM1 (by exact hrd) (by exact hl)).mono ?_; rintro e0 w5 ⟨g5, Y5, rfl, O5, L5, B5⟩)
      have h5 := own_ge O5
      have ho5 := own_low ho hg0 B5
      have hb5 := hb.trans (B5.mono hb.size)
      have hd5 : g5 ≠ g0 := by omega
      have hd6 : g0 ≠ g5 := fun e => hd5 e.symm
      clear ho hb B5 hrd hne
      obtain ⟨S, hS⟩ : ∃ S, S = stepR (levG M A) h X t := ⟨_, rfl⟩
      obtain ⟨S', hS'⟩ : ∃ S', S' = stepR (levG M A) h X (t + 1) := ⟨_, rfl⟩
      have HSS := Lib.hid (show ∀ j, S' j = fbin .add .f32 (S j) (fbin .mul .f32 h (levG M A S j)) from fun j => by rw [hS, hS']; rfl)
      have HS' := Lib.hid hS'
      rw [← hS] at hl L5
      obtain ⟨R5, hR5⟩ : ∃ R5, R5 = levG M A S := ⟨_, rfl⟩
      rw [← hR5] at L5 HSS
      clear hS hS' hR5
      have hp := fun op => fbin_pick_l op .f32
      have hq := fun op => fbin_pick_r op .f32
      go_loopw [42] (fun i wr => ∃ (k : Nat) (Z : Nat → Nat), k ≤ M ∧ i = .int .i64 (k : Int) ∧ wr.ownsRow w.heap.size 22 1 (.slice (some ⟨g0, 0, none⟩) M cp) M (rowOf Z M) ∧ LikeP Z (fun j => if j < k then S' j else S j) M ∧ wr.ownsRow w'.heap.size 22 1 (.slice (some ⟨g5, 0, none⟩) M M) M (rowOf Y5 M) ∧ Below w.heap.size w wr) (fun i _ => M - (intOf i).toNat)
      case atStart => exact ⟨0, Xs, Nat.zero_le _, rfl, ho5, by simpa using hl, O5, hb5⟩
      case round =>
        obtain ⟨k, Z, hk, rfl, hoZ, hlZ, hoY, hbR⟩ := hrel
        by_cases hkn : k < M
        · have y1 := own_cell hoY hkn
          have z1 := own_cell hoZ hkn
          obtain ⟨s1, e1⟩ := L5 k hkn
          obtain ⟨s2, e2⟩ := hlZ k hkn
          simp only [if_neg (show ¬ k < k by omega)] at e2
          rw [e1] at y1
          rw [e2] at z1
          clear e1 e2
          have HV := Lib.hid (HSS.out k)
          obtain ⟨V5, hV5⟩ : ∃ V5, V5 = R5 k := ⟨_, rfl⟩
          obtain ⟨VS, hVS⟩ : ∃ VS, VS = S k := ⟨_, rfl⟩
          rw [← hV5] at y1 HV
          rw [← hVS] at z1 HV
          have st := fun q u => own_store hoZ hkn q u
          have HO := Lib.hid hoZ
          have HY := Lib.hid hoY
          have HB := Lib.hid hbR
          clear hoZ hoY hbR hV5 hVS
          go_wp2_with (first | ((with_reducible refine wpL_fbin ?_); refine ⟨_, _, _, rfl, rfl, rfl, fun s n => ?_⟩))
          go_roundw
          case rel => exact ⟨k + 1, _, by omega, by go_num, own_stored (own_drew HO.out _) k _, (hlZ.set (r := S' k) (by rw [HV.out])).congr step_if, own_other (own_drew HY.out _) hd5 ((Only.refl g0 (wr.drewN _)).setCell k _), Below.setCell (Below.drewN HB.out _) (by exact hge0) _⟩
          case measure => simp [intOf]; omega
        · have hkn' : M = k := by omega
          subst hkn'
          have hlS : LikeP Z (stepR (levG M A) h X (t + 1)) M := by rw [← HS'.out]; exact hlZ.congr fun j hj => by simp [hj]
          have hst : (T : Int) - (t : Int) - 1 = (T : Int) - ((t + 1 : Nat) : Int) := by omega
          have HLS := Lib.hid hlS
          have HST := Lib.hid hst
          have HO := Lib.hid hoZ
          have HB := Lib.hid hbR
          clear hlS hst hoZ hbR hoY hlZ L5 hl
          go_wp2
          go_step3
          exact ⟨rfl, ⟨t + 1, Z, g0, cp, _, _, _, _, _, _, _, _, _, _, _, _, _, _, _, _, _, _, _, _, _, _, _, _, _, _, _, _, _, _, _, _, _, _, _, _, _, _, _, _, _, _, _, _, _, _, _, _, _, _, _, _, by rw [HST.out], by omega, HO.out, HLS.out, HB.out⟩, by simp [intOf]; omega⟩
    · have htT : t = T := by omega
      subst htT
      have hz : ((t : Int) - (t : Int)) = 0 := by omega
      clear hlt
      cases hf2 : finL Xs M
      · go_wp2_with (go_at_call 194; refine (vecIf_any _ w.heap.size M Xs _ ho (by omega)).mono ?_; rintro e w' ⟨rfl, q, rfl⟩)
        simp only [Exit.jump]
        go_ret2
        exact levRet_no hf2 hl.like hb
      · go_wp2_with (go_at_call 194; refine (vecIf_any _ w.heap.size M Xs _ ho (by omega)).mono ?_; rintro e w' ⟨rfl, q, rfl⟩)
        simp only [Exit.jump]
        go_ret2
        exact levRet_yes hf2 hl.like ho hb
  · intro hrest
    go_wp2_with (first | (go_at_call 192; refine (vecFin_any _ _ _ X _ (by exact hX) (by omega)).mono ?_; rintro e w' ⟨rfl, q, rfl⟩) | (first | (go_at_call 103; refine (areAtLeastZero_any _ _ _ (fun _ => _) _ (by exact rd_one' _ _ _ (by simp)) (by omega)).mono ?_; rintro e w' ⟨rfl, q, rfl⟩)) | (go_at_call 193; refine (clone_any _ _ _ X _ (by exact ((hX.drew _).alloc _).drew _) (by omega) (by omega)).mono ?_; rintro e w3 ⟨g0, cp, rfl, o3, b3⟩))
    have hb3 : Below w.heap.size w w3 := (Below.drewN ((Below.drewN (Below.refl _ w) _).alloc (by simp) (.cells #[.float .f32 h] 22)) _).trans (b3.mono (by simp))
    have ho3 := own_mono0 o3 (B' := w.heap.size) (by simp)
    go_step3
    rename_i hK
    exact hK _ _ (hrest _ _ ⟨0, X, g0, cp, _, _, _, _, _, _, _, _, _, _, _, _, _, _, _, _, _, _, _, _, _, _, _, _, _, _, _, _, _, _, _, _, _, _, _, _, _, _, _, _, _, _, _, _, _, _, _, _, _, _, _, _, by rw [show (T : Int) - ((0 : Nat) : Int) = (T : Int) by omega], Nat.zero_le _, ho3, hls, hb3⟩)
end Go.Proofs.Ytmpcalpapkedhaa
