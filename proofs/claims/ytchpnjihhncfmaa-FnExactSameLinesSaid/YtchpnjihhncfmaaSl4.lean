/- Whether two lists of lines are the same: as the model asks it. -/
import Derived.Test.YtchpnjihhncfmaaSl3
namespace Go.Proofs.Ytchpnjihhncfmaa
open Go Go.ChangeShapes Go.WideShapes Go.ChangeAt Go.RowKit

set_option maxRecDepth 100000 in
set_option maxHeartbeats 6400000 in
theorem specSL_any (xa ya : Option Addr) (n n' cx cy : Nat) (X Y : Nat → Ln) (w : World) (hX : RdN w xa n X) (hY : RdN w ya n' Y) (wX : ∀ i, i < n → (X i).wf) (wY : ∀ i, i < n' → (Y i).wf) (hn : n ≤ 1048576) (hn' : n' ≤ 1048576) (R : Bool) (hR : Hid (R = eqLns X n Y n')) :
    Calls Try.prog 46 #[.slice xa n cx, .slice ya n' cy] w fun e w' => e = .returned (.bool R) ∧ ∃ m, w' = w.drewN m := by
  by_cases hl : n = n'
  · subst hl
    obtain ⟨xb, xo, hxa, hcx⟩ := hX
    obtain ⟨yb, yo, hya, hcy⟩ := hY
    have HX := Lib.hid hcx
    have HY := Lib.hid hcy
    have HW := Lib.hid wX
    have HV := Lib.hid wY
    clear hcx hcy wX wY
    go_enter Try.func46, Try.ntmps46
    go_wp2
    go_loopw [13] (fun i wr => ∃ k q : Nat, k ≤ n ∧ i = .int .i64 k ∧ wr = w.drewN q ∧ Hid (∀ j, j < k → sameLn (X j) (Y j) = true)) (fun i _ => n - (intOf i).toNat)
    case atStart => exact ⟨0, 0, Nat.zero_le _, rfl, rfl, Lib.hid fun j hj => absurd hj (Nat.not_lt_zero _)⟩
    case round =>
      obtain ⟨k, q, hk, rfl, rfl, HF⟩ := hrel
      by_cases hlt : k < n
      · have e := hxa (by omega)
        subst e
        have e := hya (by omega)
        subst e
        obtain ⟨r0, r1, r2, r3⟩ := HX.out k hlt
        obtain ⟨s0, s1, s2, s3⟩ := HY.out k hlt
        obtain ⟨x0, x1, x2, _⟩ := HW.out k hlt
        obtain ⟨y0, y1, y2, _⟩ := HV.out k hlt
        have hs : sameLn (X k) (Y k) = (decide (canon .f32 (X k).p = canon .f32 (Y k).p) && (decide (canon .f32 (X k).h = canon .f32 (Y k).h) && (decide (canon .f32 (X k).d = canon .f32 (Y k).d) && decide ((X k).k = (Y k).k)))) := rfl
        have hsf : sameLn (X k) (Y k) = false → eqLns X n Y n = false := eqLns_no hlt
        have hst : sameLn (X k) (Y k) = true → ∀ j, j < k + 1 → sameLn (X j) (Y j) = true := fun h j hj => by
          by_cases hj' : j < k
          · exact HF.out j hj'
          · rw [show j = k by omega]; exact h
        obtain ⟨l, hl⟩ : ∃ l, l = X k := ⟨_, rfl⟩
        obtain ⟨m, hm⟩ : ∃ m, m = Y k := ⟨_, rfl⟩
        rw [← hl] at r0 r1 r2 r3 x0 x1 x2 hs hsf hst
        rw [← hm] at s0 s1 s2 s3 y0 y1 y2 hs hsf hst
        clear hl hm
        obtain ⟨a, b, c, d⟩ := l
        obtain ⟨a', b', c', d'⟩ := m
        dsimp only at r0 r1 r2 r3 s0 s1 s2 s3 x0 x1 x2 y0 y1 y2 hs
        cases h1 : decide (canon .f32 a = canon .f32 a')
        · have HN := Lib.hid (show false = R by rw [hR.out, hsf (by rw [hs, h1]; rfl)])
          clear hs hsf hst
          go_wp2_with fail
          go_quiet ((go_at_call 103; refine (l01Same_any _ _ _ (by assumption) (by assumption)).mono ?_; rintro e w' ⟨rfl, rfl⟩; exact ⟨rfl, _, rfl⟩))
          go_wp2
          go_ret
          exact ⟨ret_bool HN.out, _, World.drewN_drewN _ _ _⟩
        · cases h2 : decide (canon .f32 b = canon .f32 b')
          · have HN := Lib.hid (show false = R by rw [hR.out, hsf (by rw [hs, h1, h2]; rfl)])
            clear hs hsf hst
            go_wp2_with fail
            go_quiet ((go_at_call 103; refine (l01Same_any _ _ _ (by assumption) (by assumption)).mono ?_; rintro e w' ⟨rfl, rfl⟩; exact ⟨rfl, _, rfl⟩))
            go_wp2
            go_ret
            exact ⟨ret_bool HN.out, _, World.drewN_drewN _ _ _⟩
          · cases h3 : decide (canon .f32 c = canon .f32 c')
            · have HN := Lib.hid (show false = R by rw [hR.out, hsf (by rw [hs, h1, h2, h3]; rfl)])
              clear hs hsf hst
              go_wp2_with fail
              go_quiet ((go_at_call 103; refine (l01Same_any _ _ _ (by assumption) (by assumption)).mono ?_; rintro e w' ⟨rfl, rfl⟩; exact ⟨rfl, _, rfl⟩))
              go_wp2
              go_ret
              exact ⟨ret_bool HN.out, _, World.drewN_drewN _ _ _⟩
            · by_cases h4 : d = d'
              · have HN := Lib.hid (hst (by rw [hs, h1, h2, h3, decide_eq_true h4]; rfl))
                subst h4
                have hd4 : (d != d) = false := by simp
                clear hs hsf hst
                go_wp2_with fail
                go_quiet ((go_at_call 103; refine (l01Same_any _ _ _ (by assumption) (by assumption)).mono ?_; rintro e w' ⟨rfl, rfl⟩; exact ⟨rfl, _, rfl⟩))
                go_wp2
                go_roundw
                case rel => exact ⟨k + 1, _, by omega, by go_num, rfl, HN⟩
                case measure => simp [intOf]; omega
              · have HN := Lib.hid (show false = R by rw [hR.out, hsf (by rw [hs, h1, h2, h3, decide_eq_false h4]; rfl)])
                have hd4 : (d != d') = true := by simpa using h4
                clear hs hsf hst
                go_wp2_with fail
                go_quiet ((go_at_call 103; refine (l01Same_any _ _ _ (by assumption) (by assumption)).mono ?_; rintro e w' ⟨rfl, rfl⟩; exact ⟨rfl, _, rfl⟩))
                go_wp2
                go_ret
                exact ⟨ret_bool HN.out, _, World.drewN_drewN _ _ _⟩
      · have hkn : k = n := by omega
        subst hkn
        have HN := Lib.hid (show true = R by rw [hR.out, eqLns_yes HF.out])
        go_wp2
        go_ret
        exact ⟨ret_bool HN.out, q, rfl⟩
  · have HN := Lib.hid (show false = R by rw [hR.out, eqLns_len hl])
    have d1 : ((n : Int) != (n' : Int)) = true := by simpa using (by omega : ¬ (n : Int) = (n' : Int))
    go_enter Try.func46, Try.ntmps46
    go_wp2
    go_ret
    exact ⟨ret_bool HN.out, 0, rfl⟩
end Go.Proofs.Ytchpnjihhncfmaa
