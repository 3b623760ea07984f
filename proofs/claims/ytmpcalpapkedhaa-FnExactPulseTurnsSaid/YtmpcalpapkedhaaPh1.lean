
import Derived.Test.YtmpcalpapkedhaaPh2
import Derived.Test.YtmpcalpapkedhaaPul
import Derived.Test.YtmpcalpapkedhaaRootC
namespace Go.Proofs.Ytmpcalpapkedhaa
open Go Go.ChangeShapes Go.WideShapes Go.ChangeAt Go.RowKit
/- The four numbers of a pulse: what they come to. -/
set_option linter.all false

theorem mulc32 (x y : Nat) : fbin .mul .f32 x y = fbin .mul .f32 y x := by
  have h : ∀ a b : Ieee.Datum, a.product b = b.product a := by
    intro a b
    cases a <;> cases b <;> simp [Ieee.Datum.product, Bool.xor_comm, Nat.mul_comm, Int.add_comm]
  simp [fbin, floatBits, Ieee.Format.mul, h]
theorem phaT_pk (Y s : Nat) : phaT (pick .f64 Y s) = phaT Y := by
  cases hn : isNaN .f64 Y
  · rw [pick_num hn]
  · have hf : isFin .f64 Y = false := by unfold isFin; unfold isNaN at hn; rw [hn]; rfl
    have hf' : isFin .f64 (pick .f64 Y s) = false := by rw [isFin_pick, hf]
    unfold phaT
    rw [if_neg (by rw [hf']; simp), if_neg (by rw [hf]; simp)]
/-- What names stand for: the whole rate, the turns, the points, both shares, and the numbers. -/
structure Pt (r o u t : Nat) (W T Z1 Z2 q1 q2 x y : Nat) (b : Bool) : Prop where
  hW : W = rootT (fbin .add .f32 (fbin .mul .f32 r r) (fbin .mul .f32 o o))
  hT : T = fbin .quo .f64 (fconv .f32 (fbin .mul .f32 (fbin .mul .f32 1056964608 t) W) .f64) 4618760256179416344
  hZ1 : Z1 = (phaT T).1
  hZ2 : Z2 = (phaT T).2
  hq1 : q1 = (phaT (fconv .f32 u .f64)).1
  hq2 : q2 = (phaT (fconv .f32 u .f64)).2
  hb : b = (FloatKind.f32.format.order W 0 != some .eq)
  hx : x = if b = true then fbin .mul .f32 (fbin .quo .f32 o W) Z2 else 0
  hy : y = if b = true then fbin .mul .f32 (fbin .quo .f32 r W) Z2 else 0
theorem pt_all (r o u t : Nat) : ∃ W T Z1 Z2 q1 q2 x y b, Pt r o u t W T Z1 Z2 q1 q2 x y b := ⟨_, _, _, _, _, _, _, _, _, ⟨rfl, rfl, rfl, rfl, rfl, rfl, rfl, rfl, rfl⟩⟩
theorem fin_wide {u : Nat} (h : isFin .f32 u = true) : isFin .f64 (fconv .f32 u .f64) = true := by
  obtain ⟨s, m, e, hr⟩ : ∃ s m e, FloatKind.decode .f32 u = .number s m e := by
    unfold isFin at h
    cases hd : FloatKind.decode .f32 u with
    | nan => simp [hd, Ieee.Datum.isNaN] at h
    | infinity => simp [hd, Ieee.Datum.isInfinity] at h
    | number s m e => exact ⟨s, m, e, rfl⟩
  obtain ⟨m', e', h1, h2⟩ := widen_val hr
  unfold isFin
  rw [h1]
  rfl
section
variable {r o u t W T Z1 Z2 q1 q2 x y : Nat} {b : Bool}
theorem Pt.bq1 (h : Pt r o u t W T Z1 Z2 q1 q2 x y b) (hu : isFin .f32 u = true) : Bd .f32 q1 40 := by rw [h.hq1]; exact (phaT_bd (fin_wide hu)).1
theorem Pt.bq2 (h : Pt r o u t W T Z1 Z2 q1 q2 x y b) (hu : isFin .f32 u = true) : Bd .f32 q2 40 := by rw [h.hq2]; exact (phaT_bd (fin_wide hu)).2
end
theorem q2_lt (Y : Nat) : (phaT Y).2 < 4294967296 := by
  unfold phaT
  split
  · split
    · show (0 : Nat) < _; decide
    · exact f32_lt (fconv_wf .f64 _ .f32)
  · show qnan .f32 < _; decide
def ptR (Z1 y q1 q2 : Nat) : Nat → Nat := four Z1 (fbin .mul .f32 (bkR q1 (Op.negFloat .f32 q2)) y) (fbin .mul .f32 (bkR q1 q2) y) Z1
def ptI (x y q1 q2 : Nat) : Nat → Nat := four (fbin .sub .f32 0 x) (fbin .mul .f32 (bkI q1 (Op.negFloat .f32 q2)) y) (fbin .mul .f32 (bkI q1 q2) y) x
theorem own_four {B : Nat} (w : World) (hB : B ≤ w.heap.size) (a b c d a' b' c' d' : Nat) :
    (w.alloc (.cells #[.complex .f32 a a', .complex .f32 b b', .complex .f32 c c', .complex .f32 d d'] 98)).ownsRow B 98 1 (.slice (some ⟨w.heap.size, 0, none⟩) 4 4) 4 (rowC (four a b c d) (four a' b' c' d') 4) :=
  ⟨by simp [rowC, four, List.range_succ], .inr ⟨w.heap.size, 4, _, rfl, hB, heap_alloc_new w _, Nat.le_refl _, by unfold maxLen; omega, by simp, by simp [rowC, four, List.range_succ]⟩⟩
theorem like_four {a b c d A B C D : Nat} {s t u v : Nat} (h1 : a = pick .f32 A s) (h2 : b = pick .f32 B t) (h3 : c = pick .f32 C u) (h4 : d = pick .f32 D v) : Like (four a b c d) (four A B C D) 4 := fun i hi => by
  rcases (by omega : i = 0 ∨ i = 1 ∨ i = 2 ∨ i = 3) with rfl | rfl | rfl | rfl
  · show canon .f32 a = canon .f32 A; rw [h1, canon_pick]
  · show canon .f32 b = canon .f32 B; rw [h2, canon_pick]
  · show canon .f32 c = canon .f32 C; rw [h3, canon_pick]
  · show canon .f32 d = canon .f32 D; rw [h4, canon_pick]
set_option maxHeartbeats 800000 in
theorem specWhole_any (r o : Nat) (w : World) : Calls Try.prog 145 #[.float .f32 r, .float .f32 o] w (RetR .f32 (rootT (fbin .add .f32 (fbin .mul .f32 r r) (fbin .mul .f32 o o))) w) := by
  have hp := fun op => fbin_pick_l op .f32
  have hq := fun op => fbin_pick_r op .f32
  have hrp := rootT_pick
  go_enter Try.func145, Try.ntmps145
  go_wp2_with (first | (first | ((with_reducible refine wpL_fbin ?_); refine ⟨_, _, _, rfl, rfl, rfl, fun s n => ?_⟩) | (go_at_call 201; refine (l01Sqrt_any _ _).mono ?_; rintro e w' ⟨s', m', rfl, rfl⟩)))
  go_ret
  exact ⟨_, _, rfl, rfl⟩
set_option maxHeartbeats 800000 in
theorem implWhole_any (r o : Nat) (w : World) : Calls Try.prog 72 #[.float .f32 r, .float .f32 o] w (RetR .f32 (rootT (fbin .add .f32 (fbin .mul .f32 r r) (fbin .mul .f32 o o))) w) := by
  have hp := fun op => fbin_pick_l op .f32
  have hq := fun op => fbin_pick_r op .f32
  have hrp := rootT_pick
  go_enter Try.func72, Try.ntmps72
  go_wp2_with (first | (first | ((with_reducible refine wpL_fbin ?_); refine ⟨_, _, _, rfl, rfl, rfl, fun s n => ?_⟩) | (go_at_call 151; refine (RootNumber_any _ _).mono ?_; rintro e w' ⟨s', m', rfl, rfl⟩)))
  go_ret
  exact ⟨_, _, rfl, rfl⟩
set_option maxHeartbeats 800000 in
theorem specTurns_any (W T t s s2 : Nat) (hT : T = fbin .quo .f64 (fconv .f32 (fbin .mul .f32 t W) .f64) 4618760256179416344) (w : World) : Calls Try.prog 147 #[.float .f32 (pick .f32 W s), .float .f32 (pick .f32 t s2)] w (RetR .f64 T w) := by
  have hp := fun op => fbin_pick_l op .f32
  have hq := fun op => fbin_pick_r op .f32
  have hp6 := fun op => fbin_pick_l op .f64
  have hcp := fun X s => fconv_pick .f32 X s .f64
  have HT : fbin .quo .f64 (fconv .f32 (fbin .mul .f32 t W) .f64) 4618760256179416344 = T := hT.symm
  clear hT
  go_enter Try.func147, Try.ntmps147
  go_wp2_with (first | (first | ((with_reducible refine wpL_fbin ?_); refine ⟨_, _, _, rfl, rfl, rfl, fun s n => ?_⟩) | ((with_reducible refine wpL_fconv ?_); refine ⟨_, _, _, rfl, Option.isSome_iff_exists.2 ⟨_, Try.underlying22⟩, Try.underlying76, FloatKind.noConfusion, convOk_widen _, fun s n => ?_⟩)))
  go_ret
  exact ⟨_, _, rfl, rfl⟩
set_option maxHeartbeats 800000 in
theorem implHalf_any (W T t s Z1 Z2 : Nat) (hT : T = fbin .quo .f64 (fconv .f32 (fbin .mul .f32 (fbin .mul .f32 1056964608 t) W) .f64) 4618760256179416344) (h1 : Z1 = (phaT T).1) (h2 : Z2 = (phaT T).2) (w : World) :
    Calls Try.prog 73 #[.float .f32 t, .float .f32 (pick .f32 W s)] w (RetC Z1 Z2 w) := by
  have hp := fun op => fbin_pick_l op .f32
  have hq := fun op => fbin_pick_r op .f32
  have hp6 := fun op => fbin_pick_l op .f64
  have hcp := fun X s => fconv_pick .f32 X s .f64
  have eZ : fbin .quo .f64 (fconv .f32 (fbin .mul .f32 W (fbin .mul .f32 1056964608 t)) .f64) 4618760256179416344 = T := by rw [mulc32 W]; exact hT.symm
  have HP := Lib.hid (show ∀ (s : Nat) w, Calls Try.prog 74 #[.float .f64 (pick .f64 T s)] w (RetC Z1 Z2 w) from fun s w => by
    have := implPha_any (pick .f64 T s) (by rw [hT]; exact f64_lt (pick_wf (fbin_wf _ _ _ _) s)) w
    rw [phaT_pk, ← h1, ← h2] at this
    exact this)
  clear hT h1 h2
  go_enter Try.func73, Try.ntmps73
  go_wp2_with (first | (first | ((with_reducible refine wpL_fbin ?_); refine ⟨_, _, _, rfl, rfl, rfl, fun s n => ?_⟩) | ((with_reducible refine wpL_fconv ?_); refine ⟨_, _, _, rfl, Option.isSome_iff_exists.2 ⟨_, Try.underlying22⟩, Try.underlying76, FloatKind.noConfusion, convOk_widen _, fun s n => ?_⟩)) | (go_at_call 74; refine (HP.out _ _).mono ?_; rintro e w' ⟨s', t', m', rfl, rfl⟩) | go_in)
  go_ret
  exact ⟨_, _, _, rfl, rfl⟩

/- Whether a pulse is valid, as the model asks it of a place. -/
set_option linter.all false

set_option maxHeartbeats 800000 in
theorem l02Least_any (x : Nat) (w : World) : Calls Try.prog 100 #[.float .f32 x] w fun e w' => e = .returned (.bool (isG x)) ∧ ∃ m, w' = w.drewN m := by
  cases hf : isFin .f32 x
  · have H := Lib.hid (isG_no hf)
    go_enter Try.func100, Try.ntmps100
    go_wp2_with (go_at_call 94; refine (l01Finite_any _ _).mono ?_; rintro e w' ⟨rfl, q, rfl⟩)
    go_ret
    exact ⟨ret_bool H.out.symm, _, rfl⟩
  · have H := Lib.hid (show isG x = (FloatKind.f32.format.order x 0 == some .gt || FloatKind.f32.format.order x 0 == some .eq) by unfold isG; rw [hf]; rfl)
    go_enter Try.func100, Try.ntmps100
    go_wp2_with (go_at_call 94; refine (l01Finite_any _ _).mono ?_; rintro e w' ⟨rfl, q, rfl⟩)
    go_ret
    exact ⟨ret_bool H.out.symm, _, rfl⟩
set_option maxRecDepth 100000 in
set_option maxHeartbeats 1600000 in
theorem specIsP_any (a b c d k : Nat) (w : World) (hB : Box4 w k a b c d) : Calls Try.prog 68 #[.pointer (some ⟨k, 0, none⟩)] w fun e w' => e = .returned (.bool (okPul a b c d)) ∧ ∃ m, w' = w.drewN m := by
  obtain ⟨x0, x1, x2, x3⟩ := hB
  cases c1 : isG a
  · skip
    have HK := Lib.hid (show okPul a b c d = false by simp [okPul, *])
    go_enter Try.func68, Try.ntmps68
    go_wp2_with (first | (first | (go_at_call 94; refine (l01Finite_any _ _).mono ?_; rintro e w' ⟨rfl, q, rfl⟩) | (go_at_call 100; refine (l02Least_any _ _).mono ?_; rintro e w' ⟨rfl, q, rfl⟩)) | go_in)
    go_ret
    exact ⟨ret_bool HK.out.symm, _, rfl⟩
  · skip
    cases c2 : isFin .f32 b
    · skip
      have HK := Lib.hid (show okPul a b c d = false by simp [okPul, *])
      go_enter Try.func68, Try.ntmps68
      go_wp2_with (first | (first | (go_at_call 94; refine (l01Finite_any _ _).mono ?_; rintro e w' ⟨rfl, q, rfl⟩) | (go_at_call 100; refine (l02Least_any _ _).mono ?_; rintro e w' ⟨rfl, q, rfl⟩)) | go_in)
      go_ret
      exact ⟨ret_bool HK.out.symm, _, rfl⟩
    · skip
      cases c3 : isFin .f32 c
      · skip
        have HK := Lib.hid (show okPul a b c d = false by simp [okPul, *])
        go_enter Try.func68, Try.ntmps68
        go_wp2_with (first | (first | (go_at_call 94; refine (l01Finite_any _ _).mono ?_; rintro e w' ⟨rfl, q, rfl⟩) | (go_at_call 100; refine (l02Least_any _ _).mono ?_; rintro e w' ⟨rfl, q, rfl⟩)) | go_in)
        go_ret
        exact ⟨ret_bool HK.out.symm, _, rfl⟩
      · skip
        have HK := Lib.hid (show okPul a b c d = isG d by simp [okPul, *])
        go_enter Try.func68, Try.ntmps68
        go_wp2_with (first | (first | (go_at_call 94; refine (l01Finite_any _ _).mono ?_; rintro e w' ⟨rfl, q, rfl⟩) | (go_at_call 100; refine (l02Least_any _ _).mono ?_; rintro e w' ⟨rfl, q, rfl⟩)) | go_in)
        go_ret
        exact ⟨ret_bool HK.out.symm, _, rfl⟩

/- The four numbers of a pulse: as the model tells them. -/
set_option linter.all false

set_option maxRecDepth 100000 in
set_option maxHeartbeats 6400000 in
theorem specPt_any (r o u t k : Nat) (w : World) (hB : Box4 w k r o u t) (hu : isFin .f32 u = true) (W T Z1 Z2 q1 q2 x y : Nat) (b : Bool) (hP : Pt r o u t W T Z1 Z2 q1 q2 x y b) :
    Calls Try.prog 70 #[.pointer (some ⟨k, 0, none⟩)] w fun e w' => ∃ v A B, e = .returned v ∧ w'.ownsRow w.heap.size 98 1 v 4 (rowC A B 4) ∧ Like A (ptR Z1 y q1 q2) 4 ∧ Like B (ptI x y q1 q2) 4 ∧ Below w.heap.size w w' := by
  obtain ⟨x0, x1, x2, x3⟩ := hB
  have hp := fun op => fbin_pick_l op .f32
  have hq := fun op => fbin_pick_r op .f32
  have ho1 := order_pick_l .f32
  have b1 := hP.bq1 hu
  have b2 := hP.bq2 hu
  have hl2 : q2 < 4294967296 := by rw [hP.hq2]; exact q2_lt _
  have p1 : ∀ s, pick .f32 q1 s = q1 := fun s => pick_num b1.num s
  have p2 : ∀ s, pick .f32 q2 s = q2 := fun s => pick_num b2.num s
  have HW := Lib.hid (show ∀ w, Calls Try.prog 145 #[.float .f32 r, .float .f32 o] w (RetR .f32 W w) from fun w => by rw [hP.hW]; exact specWhole_any r o w)
  have HT := Lib.hid (fun s s2 w => specTurns_any W T (fbin .mul .f32 1056964608 t) s s2 hP.hT w)
  have HZ := Lib.hid (show ∀ (s : Nat) w, Calls Try.prog 146 #[.float .f64 (pick .f64 T s)] w (RetC Z1 Z2 w) from fun s w => by
    have := specPha_any (pick .f64 T s) w
    rw [phaT_pk, ← hP.hZ1, ← hP.hZ2] at this
    exact this)
  have HQ := Lib.hid (show ∀ (s : Nat) w, Calls Try.prog 146 #[.float .f64 (pick .f64 (fconv .f32 u .f64) s)] w (fun e w' => e = .returned (.complex .f32 q1 q2) ∧ ∃ m, w' = w.drewN m) from fun s w => by
    have := specPha_any (pick .f64 (fconv .f32 u .f64) s) w
    rw [phaT_pk, ← hP.hq1, ← hP.hq2] at this
    refine this.mono ?_
    rintro e w' ⟨s, t, n, rfl, rfl⟩
    rw [p1, p2]
    exact ⟨rfl, _, rfl⟩)
  obtain ⟨nq, hnq⟩ : ∃ nq, Op.negFloat .f32 q2 = nq := ⟨_, rfl⟩
  have HM1 := Lib.hid (fun w => specBack_any q1 nq b1 (by rw [← hnq]; exact bd_neg32 hl2 b2) w)
  have HM2 := Lib.hid (fun w => specBack_any q1 q2 b1 b2 w)
  have HC := Lib.hid (fun w => specConj_any q1 q2 w)
  rw [hnq] at HC
  obtain ⟨mR, hmR⟩ : ∃ m, m = bkR q1 nq := ⟨_, rfl⟩
  obtain ⟨mI, hmI⟩ : ∃ m, m = bkI q1 nq := ⟨_, rfl⟩
  obtain ⟨nR, hnR⟩ : ∃ m, m = bkR q1 q2 := ⟨_, rfl⟩
  obtain ⟨nI, hnI⟩ : ∃ m, m = bkI q1 q2 := ⟨_, rfl⟩
  rw [← hmR, ← hmI] at HM1
  rw [← hnR, ← hnI] at HM2
  have HR := Lib.hid (show ptR Z1 y q1 q2 = four Z1 (fbin .mul .f32 mR y) (fbin .mul .f32 nR y) Z1 by unfold ptR; rw [hnq, hmR, hnR])
  have HI := Lib.hid (show ptI x y q1 q2 = four (fbin .sub .f32 0 x) (fbin .mul .f32 mI y) (fbin .mul .f32 nI y) x by unfold ptI; rw [hnq, hmI, hnI])
  have hb := hP.hb.symm
  have hX := hP.hx
  have hY := hP.hy
  clear hP b1 b2 p1 p2 hu hl2 hnq hmR hmI hnR hnI
  cases b
  · rw [if_neg (by simp)] at hX hY
    subst hX hY
    go_enter Try.func70, Try.ntmps70
    go_wp2_with fail
    go_region_with (go_at_call 145; refine (HW.out _).mono ?_; rintro e w' ⟨s', m', rfl, rfl⟩)
    all_goals go_wp2_with (first | (first | ((with_reducible refine wpL_fbin ?_); refine ⟨_, _, _, rfl, rfl, rfl, fun s n => ?_⟩) | ((with_reducible refine wpL_fconv ?_); refine ⟨_, _, _, rfl, Option.isSome_iff_exists.2 ⟨_, Try.underlying22⟩, Try.underlying76, FloatKind.noConfusion, convOk_widen _, fun s n => ?_⟩)) | (go_at_call 147; refine (HT.out _ _ _).mono ?_; rintro e w' ⟨s', m', rfl, rfl⟩))
    all_goals refine (HZ.out _ _).mono ?_
    all_goals rintro e w' ⟨s', t', m', rfl, rfl⟩
    all_goals go_wp2_with (first | ((with_reducible refine wpL_fbin ?_); refine ⟨_, _, _, rfl, rfl, rfl, fun s n => ?_⟩) | ((with_reducible refine wpL_fconv ?_); refine ⟨_, _, _, rfl, Option.isSome_iff_exists.2 ⟨_, Try.underlying22⟩, Try.underlying76, FloatKind.noConfusion, convOk_widen _, fun s n => ?_⟩))
    all_goals refine (HQ.out _ _).mono ?_
    all_goals rintro e w' ⟨rfl, m', rfl⟩
    all_goals go_wp2_with (go_at_call 150; refine (HC.out _).mono ?_; rintro e w' ⟨rfl, rfl⟩)
    all_goals refine (HM1.out _).mono ?_
    all_goals rintro e w' ⟨s', t', m', rfl, rfl⟩
    all_goals go_wp2_with (go_at_call 148; refine (specScale_any _ _ _ _).mono ?_; rintro e w' ⟨s', t', m', rfl, rfl⟩)
    all_goals refine (HM2.out _).mono ?_
    all_goals rintro e w' ⟨s', t', m', rfl, rfl⟩
    all_goals go_wp2_with (first | (first | ((with_reducible refine wpL_fbin ?_); refine ⟨_, _, _, rfl, rfl, rfl, fun s n => ?_⟩) | ((with_reducible refine wpL_fconv ?_); refine ⟨_, _, _, rfl, Option.isSome_iff_exists.2 ⟨_, Try.underlying22⟩, Try.underlying76, FloatKind.noConfusion, convOk_widen _, fun s n => ?_⟩)) | (go_at_call 148; refine (specScale_any _ _ _ _).mono ?_; rintro e w' ⟨s', t', m', rfl, rfl⟩))
    all_goals go_ret
    all_goals rw [HR.out, HI.out]
    all_goals exact ⟨_, _, _, rfl, own_four _ (by simp) _ _ _ _ _ _ _ _, like_four rfl rfl rfl rfl, like_four rfl rfl rfl (v := 0) (by rw [pick_nul]), (Below.drewN (Below.refl _ _) _).alloc (by simp) _⟩
  · rw [if_pos rfl] at hX hY
    replace hX := hX.symm
    replace hY := hY.symm
    go_enter Try.func70, Try.ntmps70
    go_wp2_with fail
    go_region_with (go_at_call 145; refine (HW.out _).mono ?_; rintro e w' ⟨s', m', rfl, rfl⟩)
    all_goals go_wp2_with (first | (first | ((with_reducible refine wpL_fbin ?_); refine ⟨_, _, _, rfl, rfl, rfl, fun s n => ?_⟩) | ((with_reducible refine wpL_fconv ?_); refine ⟨_, _, _, rfl, Option.isSome_iff_exists.2 ⟨_, Try.underlying22⟩, Try.underlying76, FloatKind.noConfusion, convOk_widen _, fun s n => ?_⟩)) | (go_at_call 147; refine (HT.out _ _ _).mono ?_; rintro e w' ⟨s', m', rfl, rfl⟩))
    all_goals refine (HZ.out _ _).mono ?_
    all_goals rintro e w' ⟨s', t', m', rfl, rfl⟩
    all_goals go_wp2_with (first | ((with_reducible refine wpL_fbin ?_); refine ⟨_, _, _, rfl, rfl, rfl, fun s n => ?_⟩) | ((with_reducible refine wpL_fconv ?_); refine ⟨_, _, _, rfl, Option.isSome_iff_exists.2 ⟨_, Try.underlying22⟩, Try.underlying76, FloatKind.noConfusion, convOk_widen _, fun s n => ?_⟩))
    all_goals refine (HQ.out _ _).mono ?_
    all_goals rintro e w' ⟨rfl, m', rfl⟩
    all_goals go_wp2_with (go_at_call 150; refine (HC.out _).mono ?_; rintro e w' ⟨rfl, rfl⟩)
    all_goals refine (HM1.out _).mono ?_
    all_goals rintro e w' ⟨s', t', m', rfl, rfl⟩
    all_goals go_wp2_with (go_at_call 148; refine (specScale_any _ _ _ _).mono ?_; rintro e w' ⟨s', t', m', rfl, rfl⟩)
    all_goals refine (HM2.out _).mono ?_
    all_goals rintro e w' ⟨s', t', m', rfl, rfl⟩
    all_goals go_wp2_with (first | (first | ((with_reducible refine wpL_fbin ?_); refine ⟨_, _, _, rfl, rfl, rfl, fun s n => ?_⟩) | ((with_reducible refine wpL_fconv ?_); refine ⟨_, _, _, rfl, Option.isSome_iff_exists.2 ⟨_, Try.underlying22⟩, Try.underlying76, FloatKind.noConfusion, convOk_widen _, fun s n => ?_⟩)) | (go_at_call 148; refine (specScale_any _ _ _ _).mono ?_; rintro e w' ⟨s', t', m', rfl, rfl⟩))
    all_goals go_ret
    all_goals rw [HR.out, HI.out]
    all_goals exact ⟨_, _, _, rfl, own_four _ (by simp) _ _ _ _ _ _ _ _, like_four rfl rfl rfl rfl, like_four rfl rfl rfl rfl, (Below.drewN (Below.refl _ _) _).alloc (by simp) _⟩

end Go.Proofs.Ytmpcalpapkedhaa
