
/- Lines matched to a catalog: as the model tells it. -/
import Derived.Test.YtogmcinaoemnpabMli
import Derived.Test.YtogmcinaoemnpabFinW
namespace Go.Proofs.Ytogmcinaoemnpab
set_option linter.all false
open Go Go.ChangeShapes Go.WideShapes Go.ChangeAt Go.RowKit Go.Maps

/-- What is told of MatchLines. -/
def RetMatchLines (R0 : Nat → Int) (m0 : Nat) (r1 : Bool) (w : World) (e : Ending) (w' : World) : Prop := ∃ (v0 : Value), e = .returned (.tuple #[v0, .bool r1]) ∧ w'.ownsRow w.heap.size 2 1 v0 m0 (rowI R0 m0) ∧ m0 ≤ 1048576 ∧ Below w.heap.size w w'
theorem mlNo {R : Nat → Int} {w w' : World} (hb : Below w.heap.size w w') : RetMatchLines R 0 false w (.returned (.tuple #[.slice none 0 0, .bool false])) w' :=
  ⟨_, rfl, World.ownsRow_nil _ _ _ _, Nat.zero_le _, hb⟩
/-- What the model's nearest one is. -/
theorem mlM_same {X C : Nat → Nat} {m W j : Nat} (hW : W < 4294967296) (fW : isFin .f32 W = true) (fx : isFin .f32 (X j) = true) (fC : ∀ k, k < m → isFin .f32 (C k) = true) :
    (nrS (fun k => mW (X j) (C k)) W m).1 = mlN X C m W j ∧ (0 ≤ mlN X C m W j → eqd (nrS (fun k => mW (X j) (C k)) W m).2 (mlD X C m W j) ∧ mlD X C m W j < 2139095040) := by
  obtain ⟨h1, h2⟩ := near_same (Dm := fun k => mW (X j) (C k)) (Dp := fun k => dW (X j) (C k)) (n := m) hW fW (fun k hk => ⟨mW_eqd fx (fC k hk), dW_le fx (fC k hk)⟩) m (Nat.le_refl _)
  refine ⟨h1, fun h0 => ?_⟩
  have h0' : 0 ≤ (nrS (fun k => dW (X j) (C k)) W m).1 := h0
  obtain ⟨h3, h4⟩ := h2 h0'
  have e : (nrS (fun k => dW (X j) (C k)) W m).2 = mlD X C m W j := by
    rcases nrS_at (fun k => dW (X j) (C k)) W m with h | ⟨h, _⟩
    · omega
    · exact h
  rw [e] at h3 h4
  exact ⟨h3, h4⟩
set_option maxRecDepth 100000 in
set_option maxHeartbeats 12800000 in
theorem specMl_main (xa : Option Addr) (n cx : Nat) (X : Nat → Nat) (ya : Option Addr) (m cy : Nat) (C : Nat → Nat) (W : Nat) (w : World) (hX : Rd w xa n X) (hY : Rd w ya m C) (hW : W < 4294967296) (hn : n ≤ 128) (hm : m ≤ 128) (fW : isFin .f32 W = true) (lW : ltZ W = false) (ok : Bool) (mm : Nat)
    (ho : Hid (ok = (finL X n && finL C m))) (hmm : Hid (mm = if ok = true then n else 0)) :
    Calls Try.prog 36 #[.slice xa n cx, .slice ya m cy, .float .f32 W] w (RetMatchLines (mlR X C n m W) mm ok w) := by
  obtain ⟨i0, hi, hz0, hz1, hz2⟩ := info_parts infoI
  have d1 : decide ((128 : Int) < (n : Int)) = false := decide_eq_false (by omega)
  have d2 : decide ((128 : Int) < (m : Int)) = false := decide_eq_false (by omega)
  have d3 : (FloatKind.f32.format.order W 0 == some .lt) = false := lW
  have HNO := Lib.hid (fun (h : ok = false) w' (hb : Below w.heap.size w w') => show RetMatchLines (mlR X C n m W) mm ok w (.returned (.tuple #[.slice none 0 0, .bool false])) w' by
    rw [hmm.out, h, if_neg (by simp)]; exact mlNo hb)
  have HYES := Lib.hid (fun (h : ok = true) (v : Value) w' (hown : w'.ownsRow w.heap.size 2 1 v n (rowI (mlR X C n m W) n)) (hb : Below w.heap.size w w') => show RetMatchLines (mlR X C n m W) mm ok w (.returned (.tuple #[v, .bool true])) w' by
    rw [hmm.out, h, if_pos rfl]; exact ⟨_, rfl, hown, by omega, hb⟩)
  have HX := Lib.hid hX
  have HY := Lib.hid hY
  have FW := Lib.hid fW
  clear hX hY lW
  go_enter Try.func36, Try.ntmps36
  go_wp2_with (first | (go_at_call 56; refine (l01Finite_any _ _).mono ?_; rintro e w' ⟨rfl, q, rfl⟩))
  go_loopw [36] (fun i wr => ∃ (k q : Nat), k ≤ n ∧ i = .int .i64 (k : Int) ∧ Hid (∀ j, j < k → isFin .f32 (X j) = true) ∧ wr = w.drewN q) (fun i _ => n - (intOf i).toNat)
  case atStart => exact ⟨0, _, Nat.zero_le _, rfl, Lib.hid (fun _ h => absurd h (Nat.not_lt_zero _)), rfl⟩
  case round =>
    obtain ⟨k, q2, hk, rfl, HF, rfl⟩ := hrel
    by_cases hlt : k < n
    · obtain ⟨xb, xo, hxa, hcx⟩ := id HX.out
      have e := hxa (by omega)
      subst e
      have c1 := hcx k hlt
      clear hcx hxa
      cases hf : isFin .f32 (X k)
      · have HE := Lib.hid (HNO.out (by rw [ho.out, finL_no hlt hf]; rfl))
        go_wp2_with (first | (go_at_call 56; refine (l01Finite_any _ _).mono ?_; rintro e w' ⟨rfl, q, rfl⟩))
        go_ret2
        refine HE.out _ ?_
        (repeat (first | with_reducible exact Below.refl _ _ | with_reducible refine Below.drewN ?_ _ | with_reducible refine Below.setCell ?_ (by simp; try omega) _ | with_reducible refine Below.alloc ?_ (by simp; try omega) _))
      · have HF2 := Lib.hid (show ∀ j, j < k + 1 → isFin .f32 (X j) = true from fun j hj => by
          by_cases hj' : j < k
          · exact HF.out j hj'
          · rw [show j = k by omega]; exact hf)
        go_wp2_with (first | (go_at_call 56; refine (l01Finite_any _ _).mono ?_; rintro e w' ⟨rfl, q, rfl⟩))
        go_roundw
        all_goals first | (simp [intOf]; omega) | exact ⟨k + 1, _, by omega, by go_num, HF2, by first | rfl | (rw [World.drewN_drewN])⟩
    · have e : k = n := by omega
      subst e
      go_wp2
      go_loopw [48] (fun i wr => ∃ (c q : Nat), c ≤ m ∧ i = .int .i64 (c : Int) ∧ Hid (∀ j, j < c → isFin .f32 (C j) = true) ∧ wr = w.drewN q) (fun i _ => m - (intOf i).toNat)
      case atStart => exact ⟨0, _, Nat.zero_le _, rfl, Lib.hid (fun _ h => absurd h (Nat.not_lt_zero _)), rfl⟩
      case round =>
        obtain ⟨c, q3, hc, rfl, HC, rfl⟩ := hrel
        by_cases hlt2 : c < m
        · obtain ⟨yb, yo, hya, hcy⟩ := id HY.out
          have e := hya (by omega)
          subst e
          have c1 := hcy c hlt2
          clear hcy hya
          cases hf : isFin .f32 (C c)
          · have HE := Lib.hid (HNO.out (by rw [ho.out, finL_no hlt2 hf, Bool.and_false]))
            go_wp2_with (first | (go_at_call 56; refine (l01Finite_any _ _).mono ?_; rintro e w' ⟨rfl, q, rfl⟩))
            go_ret2
            refine HE.out _ ?_
            (repeat (first | with_reducible exact Below.refl _ _ | with_reducible refine Below.drewN ?_ _ | with_reducible refine Below.setCell ?_ (by simp; try omega) _ | with_reducible refine Below.alloc ?_ (by simp; try omega) _))
          · have HF2 := Lib.hid (show ∀ j, j < c + 1 → isFin .f32 (C j) = true from fun j hj => by
              by_cases hj' : j < c
              · exact HC.out j hj'
              · rw [show j = c by omega]; exact hf)
            go_wp2_with (first | (go_at_call 56; refine (l01Finite_any _ _).mono ?_; rintro e w' ⟨rfl, q, rfl⟩))
            go_roundw
            all_goals first | (simp [intOf]; omega) | exact ⟨c + 1, _, by omega, by go_num, HF2, by first | rfl | (rw [World.drewN_drewN])⟩
        · have e : c = m := by omega
          subst e
          have HY2 := Lib.hid (HYES.out (by rw [ho.out, finL_yes HF.out, finL_yes HC.out]; rfl))
          go_wp2
          obtain ⟨w1, hw1⟩ : ∃ w1, w1 = (w.drewN q3).alloc (Obj.cells #[] 2) := ⟨_, rfl⟩
          rw [← hw1]
          have HO : w1.ownsRow w.heap.size 2 1 (.slice (some ⟨w.heap.size, 0, none⟩) 0 0) 0 (rowI (mlR X C k c W) 0) := by rw [hw1]; exact ownI_empty (w.drewN q3) _
          have HB1 : Below w.heap.size w w1 := by rw [hw1]; exact (Below.drewN (Below.refl _ _) _).alloc (Nat.le_refl _) _
          clear hw1 HNO d1 d2 d3 ho hmm
          go_loopw [10, 61] (fun v i wr => ∃ (j : Nat), j ≤ k ∧ i = .int .i64 (j : Int) ∧ wr.ownsRow w.heap.size 2 1 v j (rowI (mlR X C k c W) j) ∧ Below w.heap.size w wr) (fun _ i _ => k - (intOf i).toNat)
          case atStart => exact ⟨0, Nat.zero_le _, rfl, HO, HB1⟩
          case round =>
            obtain ⟨j, hjk, rfl, hown, hBk⟩ := hrel
            clear HO HB1
            by_cases hlt3 : j < k
            · obtain ⟨xb, xo, hxa, hcx⟩ := id HX.out
              have e := hxa (by omega)
              subst e
              have HCX := Lib.hid hcx
              have hxw := hcx j hlt3
              have c1 : wr.cell? ⟨xb, xo + j, none⟩ = _ := (hBk.cell (p := ⟨xb, xo + j, none⟩) (World.block_lt_of_cell? w _ hxw)).trans hxw
              have HNj := Lib.hid (l05Near_any ya c cy C (X j) W wr (HY.out.below hBk) (by omega) (HF.out j hlt3) HC.out)
              obtain ⟨s1, s2⟩ := mlM_same hW FW.out (HF.out j hlt3) HC.out
              rw [s1] at HNj
              obtain ⟨Dj, hDj⟩ : ∃ d, d = (nrS (fun i => mW (X j) (C i)) W c).2 := ⟨_, rfl⟩
              rw [← hDj] at HNj s2
              have S2 := Lib.hid s2
              obtain ⟨Nj, hNj⟩ : ∃ N, N = mlN X C c W j := ⟨_, rfl⟩
              rw [← hNj] at HNj
              have HNJ := Lib.hid hNj
              have HOW := Lib.hid hown
              clear hcx hxa hxw s1 s2 hDj hNj hown
              go_wp2_with (go_at_call 65; refine HNj.out.mono ?_; rintro e w5 ⟨rfl, rfl⟩)
              go_loopw [12, 76] (fun a i wr => ∃ (p : Nat) (A : Int), p ≤ k ∧ i = .int .i64 (p : Int) ∧ a = .int .i64 A ∧ Hid (A = atM (mlN X C c W) (mlD X C c W) j p) ∧ wr = w5) (fun _ i _ => k - (intOf i).toNat)
              case atStart => exact ⟨0, _, Nat.zero_le _, rfl, rfl, Lib.hid (by rw [atM_zero]; exact HNJ.out), rfl⟩
              case round =>
                obtain ⟨p, A, hpk, rfl, rfl, HA, rfl⟩ := hrel
                by_cases hlt4 : p < k
                · have hxw := HCX.out p hlt4
                  have c2 : wr.cell? ⟨xb, xo + p, none⟩ = _ := (hBk.cell (p := ⟨xb, xo + p, none⟩) (World.block_lt_of_cell? w _ hxw)).trans hxw
                  have HNp := Lib.hid (l05Near_any ya c cy C (X p) W wr (HY.out.below hBk) (by omega) (HF.out p hlt4) HC.out)
                  obtain ⟨s1, s2⟩ := mlM_same hW FW.out (HF.out p hlt4) HC.out
                  rw [s1] at HNp
                  obtain ⟨Dp, hDp⟩ : ∃ d, d = (nrS (fun i => mW (X p) (C i)) W c).2 := ⟨_, rfl⟩
                  rw [← hDp] at HNp s2
                  obtain ⟨Np, hNp⟩ : ∃ N, N = mlN X C c W p := ⟨_, rfl⟩
                  rw [← hNp] at HNp
                  rw [← hNp] at s2
                  have HNP := Lib.hid hNp
                  have S2p := Lib.hid s2
                  clear hxw s1 s2 hDp hNp
                  by_cases q1 : p = j
                  · subst q1
                    have HS := Lib.hid (HA.out.trans (atM_miss (fun h => absurd rfl h)).symm)
                    go_wp2_with (go_at_call 65; refine HNp.out.mono ?_; rintro e w6 ⟨rfl, rfl⟩)
                    go_roundw
                    all_goals first | (simp [intOf]; omega) | exact ⟨p + 1, _, by omega, by go_num, rfl, HS, by first | rfl | trivial⟩
                  · have b1 : ((p : Int) == (j : Int)) = false := by simp; omega
                    have b2 : ¬ (p : Int) = (j : Int) := by omega
                    by_cases q2 : 0 ≤ Np
                    · by_cases q3 : Np = A
                      · have b3 : (Np == A) = true := by rw [q3]; simp
                        have hAj : A = Nj := by
                          have := atM_val (ne := mlN X C c W) (dl := mlD X C c W) (j := j) (k := p) (by rw [← HA.out, ← q3]; exact q2)
                          rw [HA.out, this, HNJ.out]
                        obtain ⟨e1, f1⟩ := S2.out (by rw [← HNJ.out, ← hAj, ← q3]; exact q2)
                        obtain ⟨e2, f2⟩ := S2p.out q2
                        have g1 : (FloatKind.f32.format.order Dp Dj == some .lt) = decide (mlD X C c W p < mlD X C c W j) := lss_eqd e2 e1 f2 f1
                        have g2 : (FloatKind.f32.format.order Dp Dj == some .eq) = decide (mlD X C c W p = mlD X C c W j) := eql_eqd e2 e1 f2 f1
                        by_cases q4 : mlD X C c W p < mlD X C c W j
                        · rw [decide_eq_true q4] at g1
                          have HS := Lib.hid (atM_hit (ne := mlN X C c W) (dl := mlD X C c W) (j := j) (k := p) q1 (by rw [← HNP.out]; exact q2) (by rw [← HNP.out, ← HA.out]; exact q3) (.inl q4)).symm
                          clear g2 hAj e1 f1 e2 f2 q4
                          go_wp2_with (go_at_call 65; refine HNp.out.mono ?_; rintro e w6 ⟨rfl, rfl⟩)
                          go_roundw
                          all_goals first | (simp [intOf]; omega) | exact ⟨p + 1, _, by omega, by go_num, rfl, HS, by first | rfl | trivial⟩
                        · rw [decide_eq_false q4] at g1
                          by_cases q5 : mlD X C c W p = mlD X C c W j
                          · rw [decide_eq_true q5] at g2
                            by_cases q6 : p < j
                            · have b6 : (p : Int) < (j : Int) := by omega
                              have HS := Lib.hid (atM_hit (ne := mlN X C c W) (dl := mlD X C c W) (j := j) (k := p) q1 (by rw [← HNP.out]; exact q2) (by rw [← HNP.out, ← HA.out]; exact q3) (.inr ⟨q5, q6⟩)).symm
                              clear hAj e1 f1 e2 f2 q4 q5
                              go_wp2_with (go_at_call 65; refine HNp.out.mono ?_; rintro e w6 ⟨rfl, rfl⟩)
                              go_roundw
                              all_goals first | (simp [intOf]; omega) | exact ⟨p + 1, _, by omega, by go_num, rfl, HS, by first | rfl | trivial⟩
                            · have b6 : ¬ (p : Int) < (j : Int) := by omega
                              have HS := Lib.hid (HA.out.trans (atM_miss (ne := mlN X C c W) (dl := mlD X C c W) (j := j) (k := p) (fun _ _ _ h => h.elim q4 (fun h => q6 h.2))).symm)
                              clear hAj e1 f1 e2 f2 q4 q5
                              go_wp2_with (go_at_call 65; refine HNp.out.mono ?_; rintro e w6 ⟨rfl, rfl⟩)
                              go_roundw
                              all_goals first | (simp [intOf]; omega) | exact ⟨p + 1, _, by omega, by go_num, rfl, HS, by first | rfl | trivial⟩
                          · rw [decide_eq_false q5] at g2
                            have HS := Lib.hid (HA.out.trans (atM_miss (ne := mlN X C c W) (dl := mlD X C c W) (j := j) (k := p) (fun _ _ _ h => h.elim q4 (fun h => q5 h.1))).symm)
                            clear hAj e1 f1 e2 f2 q4 q5
                            go_wp2_with (go_at_call 65; refine HNp.out.mono ?_; rintro e w6 ⟨rfl, rfl⟩)
                            go_roundw
                            all_goals first | (simp [intOf]; omega) | exact ⟨p + 1, _, by omega, by go_num, rfl, HS, by first | rfl | trivial⟩
                      · have b3 : (Np == A) = false := by simpa using q3
                        have HS := Lib.hid (HA.out.trans (atM_miss (fun _ _ h => absurd (by rw [HNP.out, HA.out]; exact h) q3)).symm)
                        go_wp2_with (go_at_call 65; refine HNp.out.mono ?_; rintro e w6 ⟨rfl, rfl⟩)
                        go_roundw
                        all_goals first | (simp [intOf]; omega) | exact ⟨p + 1, _, by omega, by go_num, rfl, HS, by first | rfl | trivial⟩
                    · have HS := Lib.hid (HA.out.trans (atM_miss (fun _ h => absurd (by rw [HNP.out]; exact h) q2)).symm)
                      go_wp2_with (go_at_call 65; refine HNp.out.mono ?_; rintro e w6 ⟨rfl, rfl⟩)
                      go_roundw
                      all_goals first | (simp [intOf]; omega) | exact ⟨p + 1, _, by omega, by go_num, rfl, HS, by first | rfl | trivial⟩
                · have hpk' : p = k := by omega
                  have hA : A = mlR X C k c W j := by rw [HA.out, hpk']; exact atM_end hlt3 (fun i hi => (nrS_ge _ _ _).1)
                  have hsz := hBk.size
                  have hnl : ¬ (p : Int) < (k : Int) := by omega
                  have HHA := Lib.hid hA
                  clear hA
                  go_wp2_with (at_builtin; refine wpL_pushI hi hz0 hz1 hz2 rfl rfl rfl rfl rfl (by exact HOW.out) (by omega) (by exact hsz) ?_; intro v' w7 hown' hB')
                  go_roundw
                  all_goals first | (simp [intOf]; omega) | exact ⟨j + 1, by omega, by go_num, by rw [rowI_succ, ← HHA.out, rowI_push]; exact hown', Below.trans hBk hB'⟩
            · have e : j = k := by omega
              subst e
              go_wp2
              go_ret2
              exact HY2.out _ _ hown hBk
end Go.Proofs.Ytogmcinaoemnpab
