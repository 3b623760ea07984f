
/- Wave numbers of steps: as the model tells them. -/
import Derived.Test.YtbblohjldkpcnabWvn
import Derived.Test.YtbblohjldkpcnabGeA
namespace Go.Proofs.Ytbblohjldkpcnab
set_option linter.all false
open Go Go.ChangeShapes Go.WideShapes Go.ChangeAt Go.RowKit

set_option maxRecDepth 100000 in
set_option maxHeartbeats 6400000 in
theorem specWaves_any (b : Nat) (xa ya : Option Addr) (n m cx cy E : Nat) (Y : Nat → Nat) (w : World) (c0 : w.cell? ⟨b, 0, none⟩ = some (.slice xa n cx)) (c1 : w.cell? ⟨b, 1, none⟩ = some (.slice ya m cy)) (hY : Rd w ya m Y) (hm : m ≤ 1048576)
    (hE : E < 4294967296) (hfE : isFin .f32 E = true) (hw : ∀ i, i < m → Y i < 4294967296) (hf : finL Y m = true) (ok : Bool) (hok : ok = wvAll E Y m) :
    Calls Try.prog 110 #[.pointer (some ⟨b, 0, none⟩), .float .f32 E] w (RetW E Y m ok w) := by
  obtain ⟨i0, hi, hz0, hz1, hz2⟩ := infoC_parts
  obtain ⟨yb, yo, hya, hcy⟩ := hY
  have HY := Lib.hid hcy
  have HW := Lib.hid hw
  have HF := Lib.hid (finL_at hf)
  have HK := Lib.hid hok
  have hbl := World.block_lt_of_cell? w _ c1
  clear hcy hw hf hok
  have ho1 := order_pick_l .f32
  go_enter Try.func110, Try.ntmps110
  go_wp2_with fail
  obtain ⟨w1, hw1⟩ : ∃ w1, w1 = w.alloc (Obj.cells #[] 106) := ⟨_, rfl⟩
  rw [← hw1]
  have HO : w1.ownsRow w.heap.size 106 1 (.slice (some ⟨w.heap.size, 0, none⟩) 0 0) 0 (rowC (fun _ => 0) (fun _ => 0) 0) := by rw [hw1]; exact ownC_empty w _ _
  have HB1 : Below w.heap.size w w1 := by rw [hw1]; exact (Below.refl _ _).alloc (Nat.le_refl _) _
  clear hw1
  go_loopw [6, 7] (fun v i wr => ∃ (k : Nat) (A B : Nat → Nat), k ≤ m ∧ i = .int .i64 k ∧ wr.ownsRow w.heap.size 106 1 v k (rowC A B k) ∧ Hid (Like A (fun i => wvR E (Y i)) k) ∧ Hid (Like B (fun i => wvI E (Y i)) k) ∧ Below w.heap.size w wr ∧ Hid (∀ j, j < k → (gtW E (Y j) || ltW E (Y j)) = true)) (fun _ i _ => m - (intOf i).toNat)
  case atStart => exact ⟨0, _, _, Nat.zero_le _, rfl, HO, Lib.hid fun _ h => absurd h (Nat.not_lt_zero _), Lib.hid fun _ h => absurd h (Nat.not_lt_zero _), HB1, Lib.hid fun _ h => absurd h (Nat.not_lt_zero _)⟩
  case round =>
    obtain ⟨k, A, B, hk, rfl, hown, HA, HB, hBk, HG⟩ := hrel
    have a0 : wr.cell? ⟨b, 0, none⟩ = _ := (hBk.cell (p := ⟨b, 0, none⟩) (by exact hbl)).trans c0
    have a1 : wr.cell? ⟨b, 1, none⟩ = _ := (hBk.cell (p := ⟨b, 1, none⟩) (by exact hbl)).trans c1
    have hsz := hBk.size
    by_cases hlt : k < m
    · have e := hya (by omega)
      subst e
      have hck := HY.out k hlt
      have hyl : yb < w.heap.size := World.block_lt_of_cell? w _ hck
      have hcr : wr.cell? ⟨yb, yo + k, none⟩ = some (.float .f32 (Y k)) := (hBk.cell (p := ⟨yb, yo + k, none⟩) hyl).trans hck
      have hord := sub_order' hE (HW.out k hlt) hfE (HF.out k hlt)
      obtain ⟨D, hD⟩ : ∃ D, fbin .sub .f32 E (Y k) = D := ⟨_, rfl⟩
      have hDn : isNaN .f32 D = false := by rw [← hD]; exact nan_sub (num_fin hfE) (HF.out k hlt)
      have hop := fun t => run_numop (op := .sub) rfl t E (Y k) D hD hDn
      obtain ⟨D', hD'⟩ : ∃ D', fbin .sub .f32 (Y k) E = D' := ⟨_, rfl⟩
      have hDn' : isNaN .f32 D' = false := by rw [← hD']; exact nan_sub (num_fin (HF.out k hlt)) hfE
      have hop' := fun t => run_numop (op := .sub) rfl t (Y k) E D' hD' hDn'
      rw [hD] at hord
      cases hg : gtW E (Y k)
      · have hg0 : (FloatKind.f32.format.order D 0 == some .gt) = false := by rw [hord]; exact hg
        cases hl : ltW E (Y k)
        · have hl0 : (FloatKind.f32.format.order D 0 == some .lt) = false := by rw [hord]; exact hl
          have HN := Lib.hid (show ok = false by rw [HK.out]; exact wvAll_no hlt (by unfold wvOk; rw [hg, hl]; rfl))
          clear hown hord hg hl
          go_wp2
          go_ret2
          exact .inl ⟨HN.out, rfl, hBk⟩
        · have hl0 : (FloatKind.f32.format.order D 0 == some .lt) = true := by rw [hord]; exact hl
          have HV := Lib.hid (fun s => wv_lt hg s)
          rw [hD'] at HV
          have HG' := Lib.hid (show ∀ j, j < k + 1 → (gtW E (Y j) || ltW E (Y j)) = true from fun j hj => by
            by_cases hj' : j < k
            · exact HG.out j hj'
            · rw [show j = k by omega, hg, hl]; rfl)
          clear hord hg hl hD hD'
          go_wp2_with fail
          refine (l01Sqrt_any _ _).mono ?_
          rintro e0 w2 ⟨s, q, rfl, rfl⟩
          have hown2 := own_drew hown q
          clear hown
          go_wp2_with (at_builtin; refine wpL_pushC hi hz0 hz1 hz2 rfl rfl rfl rfl (by exact hown2) (by omega) (by exact hsz) ?_; intro v' w3 hown3 hB3)
          go_roundw
          case rel => exact ⟨k + 1, _, _, by omega, by go_num, hown3, Lib.hid (likeC_push HA.out (HV.out s).1), Lib.hid (likeC_push HB.out (HV.out s).2), (Below.drewN hBk q).trans hB3, HG'⟩
          case measure => simp [intOf]; omega
      · have hg0 : (FloatKind.f32.format.order D 0 == some .gt) = true := by rw [hord]; exact hg
        have HV := Lib.hid (fun s => wv_gt hg s)
        rw [hD] at HV
        have HG' := Lib.hid (show ∀ j, j < k + 1 → (gtW E (Y j) || ltW E (Y j)) = true from fun j hj => by
          by_cases hj' : j < k
          · exact HG.out j hj'
          · rw [show j = k by omega, hg]; rfl)
        clear hord hg hD hD'
        go_wp2_with fail
        refine (l01Sqrt_any _ _).mono ?_
        rintro e0 w2 ⟨s, q, rfl, rfl⟩
        have hown2 := own_drew hown q
        clear hown
        go_wp2_with (at_builtin; refine wpL_pushC hi hz0 hz1 hz2 rfl rfl rfl rfl (by exact hown2) (by omega) (by exact hsz) ?_; intro v' w3 hown3 hB3)
        go_roundw
        case rel => exact ⟨k + 1, _, _, by omega, by go_num, hown3, Lib.hid (likeC_push HA.out (HV.out s).1), Lib.hid (likeC_push HB.out (HV.out s).2), (Below.drewN hBk q).trans hB3, HG'⟩
        case measure => simp [intOf]; omega
    · have hkm : k = m := by omega
      subst hkm
      have hfl := finC_like HA.out HB.out
      obtain ⟨va, vc, rfl, _, _, hR⟩ := rdC_of_own hown
      have HH := Lib.hid hown
      clear hown
      cases hfc : finC A B k
      · have HN := Lib.hid (show ok = false by
          rw [HK.out]
          rw [hfl] at hfc
          apply Classical.byContradiction
          intro hne
          rw [Bool.not_eq_false] at hne
          have : finC (fun i => wvR E (Y i)) (fun i => wvI E (Y i)) k = true := finC_yes fun j hj => by
            unfold wvAll at hne
            rw [List.all_eq_true] at hne
            have := hne j (List.mem_range.2 hj)
            unfold wvOk at this
            rw [Bool.and_eq_true] at this
            exact this.2
          rw [hfc] at this; cases this)
        go_wp2_with (go_at_call 154; refine (specCFins_any _ _ _ A B _ (by exact hR) hm).mono ?_; rw [hfc]; rintro e w' ⟨rfl, q, rfl⟩)
        go_ret2
        exact .inl ⟨HN.out, rfl, Below.drewN hBk _⟩
      · have HN := Lib.hid (show ok = true by
          rw [HK.out]
          rw [hfl] at hfc
          exact wvAll_yes fun j hj => by
            unfold wvOk
            rw [HG.out j hj, Bool.true_and]
            exact finC_at hfc j hj)
        go_wp2_with (go_at_call 154; refine (specCFins_any _ _ _ A B _ (by exact hR) hm).mono ?_; rw [hfc]; rintro e w' ⟨rfl, q, rfl⟩)
        go_ret2
        exact .inr ⟨HN.out, _, A, B, rfl, HH.out, HA.out, HB.out, Below.drewN hBk _⟩
end Go.Proofs.Ytbblohjldkpcnab
