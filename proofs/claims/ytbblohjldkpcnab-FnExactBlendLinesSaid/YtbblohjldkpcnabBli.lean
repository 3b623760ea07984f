
/- The blend of two lines: as the program tells it. -/
import Derived.Test.YtbblohjldkpcnabBln
namespace Go.Proofs.Ytbblohjldkpcnab
open Go Go.ChangeShapes Go.WideShapes Go.ChangeAt Go.RowKit
set_option linter.all false

theorem bcellL {w w1 : World} (hb : Below w.heap.size w w1) : (∀ b o, b < w.heap.size → w1.cell? ⟨b, o, none⟩ = w.cell? ⟨b, o, none⟩) ∧ (∀ b o, b < w.heap.size → w1.frozen? ⟨b, o, none⟩ = w.frozen? ⟨b, o, none⟩) :=
  ⟨fun b o h => hb.cell (p := ⟨b, o, none⟩) h, fun b o h => hb.frozen (p := ⟨b, o, none⟩) h⟩
set_option maxRecDepth 100000 in
set_option maxHeartbeats 6400000 in
theorem implBl_any (a b c : Nat) (k : Int) (a' b' c' : Nat) (k' : Int) (hA : a < 4294967296 ∧ b < 4294967296 ∧ c < 4294967296) (hA' : a' < 4294967296 ∧ b' < 4294967296 ∧ c' < 4294967296) (w : World) (ok : Bool) (ho : Hid (ok = (okBl a b c k a' b' c' k' && okLin (blP a b a' b') (blH b b') (blW a c a' c') k)))
    (rP rH rW : Nat) (rk : Int) (hr : Hid (rP = blQ (blP a b a' b') ok ∧ rH = blQ (blH b b') ok ∧ rW = blQ (blW a c a' c') ok ∧ rk = if ok = true then k else 0)) :
    Calls Try.prog 41 #[.agg #[.float .f32 a, .float .f32 b, .float .f32 c, .int .i64 k], .agg #[.float .f32 a', .float .f32 b', .float .f32 c', .int .i64 k']] w (BlRet rP rH rW rk ok w) := by
  have hst := run_store_f32
  have hst2 := run_store_i64
  have HNO := Lib.hid (fun (h : ok = false) w' (hb : Below w.heap.size w w') => show BlRet rP rH rW rk ok w (.returned (.tuple #[.agg #[.float .f32 0, .float .f32 0, .float .f32 0, .int .i64 0], .bool false])) w' by
    obtain ⟨e1, e2, e3, e4⟩ := hr.out
    rw [e1, e2, e3, e4, h]; exact ⟨rfl, hb⟩)
  have HW : Below w.heap.size w (((w.alloc (.cells #[.float .f32 a, .float .f32 b, .float .f32 c, .int .i64 k] 53)).alloc (.cells #[.float .f32 a', .float .f32 b', .float .f32 c', .int .i64 k'] 53)).alloc (.cells #[.float .f32 0, .float .f32 0, .float .f32 0, .int .i64 0] 53)) := ((Below.alloc (Below.refl _ _) (Nat.le_refl _) _).alloc (by simp) _).alloc (by simp; omega) _
  have H1 := Lib.hid (fun w => implVL_any a b c k w)
  have H2 := Lib.hid (fun w => implVL_any a' b' c' k' w)
  have hp1 := fbin_pick_l .add .f32
  have ho1 := order_pick_l .f32
  cases c1 : okLin a b c k
  · rw [c1] at H1
    have HN := Lib.hid (HNO.out (by rw [ho.out, okBl, c1]; rfl))
    clear c1
    go_enter Try.func41, Try.ntmps41
    go_wp2_with ((with_reducible refine wpL_fbin ?_); refine ⟨_, _, _, rfl, rfl, rfl, fun s n => ?_⟩)
    refine (H1.out _).mono ?_
    rintro e w1 ⟨rfl, B1⟩
    obtain ⟨hc1, hf1⟩ := bcellL B1
    have hz1 : w.heap.size + 3 ≤ w1.heap.size := by have := B1.size; simp at this; omega
    have hs2 : w.heap.size + 1 + 1 < w1.heap.size := by omega
    have HC : Below w.heap.size w w1 := (Below.drewN HW _).trans (B1.mono (by simp; omega))
    go_wp2
    exact bodyPost_ret (v := .tuple #[.agg #[.float .f32 0, .float .f32 0, .float .f32 0, .int .i64 0], .bool false]) (by simp [results, Try.results41, go_sem, hc1, hs2]) rfl (HN.out _ (by repeat (first | with_reducible exact HC | with_reducible refine Below.drewN ?_ _ | with_reducible refine Below.setCell ?_ (by simp; try omega) _ | with_reducible refine Below.alloc ?_ (by simp; try omega) _)))
  · rw [c1] at H1
    cases c2 : okLin a' b' c' k'
    · rw [c2] at H2
      have HN := Lib.hid (HNO.out (by rw [ho.out, okBl, c1, c2]; rfl))
      clear c1 c2
      go_enter Try.func41, Try.ntmps41
      go_wp2_with ((with_reducible refine wpL_fbin ?_); refine ⟨_, _, _, rfl, rfl, rfl, fun s n => ?_⟩)
      refine (H1.out _).mono ?_
      rintro e w1 ⟨rfl, B1⟩
      obtain ⟨hc1, hf1⟩ := bcellL B1
      have hz1 : w.heap.size + 3 ≤ w1.heap.size := by have := B1.size; simp at this; omega
      have hs1 : w.heap.size + 1 < w1.heap.size := by omega
      have hs2 : w.heap.size + 1 + 1 < w1.heap.size := by omega
      have HC : Below w.heap.size w w1 := (Below.drewN HW _).trans (B1.mono (by simp; omega))
      go_wp2_with ((with_reducible refine wpL_fbin ?_); refine ⟨_, _, _, rfl, rfl, rfl, fun s n => ?_⟩)
      refine (H2.out _).mono ?_
      rintro e w2 ⟨rfl, B2⟩
      obtain ⟨hc2, hf2⟩ := bcellL B2
      have ht2 : w.heap.size + 1 + 1 < w2.heap.size := by have := B2.size; omega
      have HE := HC.trans (B2.mono HC.size)
      go_wp2
      exact bodyPost_ret (v := .tuple #[.agg #[.float .f32 0, .float .f32 0, .float .f32 0, .int .i64 0], .bool false]) (by simp [results, Try.results41, go_sem, hc1, hs2, hc2, ht2]) rfl (HN.out _ (by repeat (first | with_reducible exact HE | with_reducible refine Below.drewN ?_ _ | with_reducible refine Below.setCell ?_ (by simp; try omega) _ | with_reducible refine Below.alloc ?_ (by simp; try omega) _)))
    · rw [c2] at H2
      obtain ⟨HH, hHH⟩ : ∃ H, H = blH b b' := ⟨_, rfl⟩
      have hh1 : fbin .add .f32 b b' = HH := hHH.symm
      cases c3 : (FloatKind.f32.format.order HH 0 == some .eq)
      · have hin : okBl a b c k a' b' c' k' = true := by rw [okBl, c1, c2, ← hHH, c3]; rfl
        obtain ⟨fA, fB, pC, _, _⟩ := okLin_at c1
        obtain ⟨fA', fB', pC', _, _⟩ := okLin_at c2
        have fC : isFin .f32 c = true := by unfold isP at pC; rw [Bool.and_eq_true] at pC; exact pC.1
        have fC' : isFin .f32 c' = true := by unfold isP at pC'; rw [Bool.and_eq_true] at pC'; exact pC'.1
        obtain ⟨nS, nD⟩ := dist_num fA fA'
        obtain ⟨S, hS⟩ : ∃ S, fbin .sub .f32 a a' = S := ⟨_, rfl⟩
        obtain ⟨D, hD0⟩ : ∃ D, D = fbin .mul .f32 1056964608 S := ⟨_, rfl⟩
        have hDD : blD a a' = D := by rw [blD, hS, hD0]
        have hD : fbin .quo .f32 S 1073741824 = D := by rw [hD0, half_eq]
        rw [hS] at nS
        rw [hDD] at nD
        have pS : ∀ s, pick .f32 S s = S := fun s => pick_num nS s
        have pD : ∀ s, pick .f32 D s = D := fun s => pick_num nD s
        obtain ⟨M, hM⟩ : ∃ M, M = blM c c' := ⟨_, rfl⟩
        have hmax := fun ts t w => run_maxK hA.2.2 hA'.2.2 fC fC' Try.prog ts t w
        rw [show (if lessK c c' = true then c' else c) = M from hM.symm] at hmax
        have hMf : isNaN .f32 M = false ∧ M < 4294967296 := by
          have f : ∀ x, isFin .f32 x = true → isNaN .f32 x = false := fun x hx => by
            unfold isFin at hx
            rw [Bool.and_eq_true] at hx
            simpa [isNaN] using hx.1
          rw [hM, blM]
          split
          · exact ⟨f _ fC', hA'.2.2⟩
          · exact ⟨f _ fC, hA.2.2⟩
        obtain ⟨ws, r, hr1, hDw⟩ := word_of D (by rw [hD0]; exact fbin_lt _ _ _)
        have hr2 : r ≤ 2139095040 := word_num hr1 (by rw [← hDw]; exact nD)
        obtain ⟨ND, hND⟩ : ∃ ND, Op.negFloat .f32 D = ND := ⟨_, rfl⟩
        obtain ⟨E, hE⟩ : ∃ E, E = Ieee.single.word false r := ⟨_, rfl⟩
        have hmx2 := fun ts t w => run_absmax ws r hr2 Try.prog ts t w
        rw [← hDw, hND, ← hE] at hmx2
        obtain ⟨hz1, hz2⟩ := absT_word ws r hr2
        rw [← hDw] at hz1 hz2
        rw [← hE] at hz1
        obtain ⟨Wd, hWd⟩ : ∃ Wd, fbin .add .f32 M E = Wd := ⟨_, rfl⟩
        have hEn : isNaN .f32 E = false ∧ E < 4294967296 := by
          have := absT_word false r hr2
          rw [hE]
          refine ⟨?_, ?_⟩
          · have h2 := (absT_word false r hr2).2
            by_cases h0 : r = 0
            · subst h0; decide +kernel
            · have h3 := (absT_word false r hr2).1
              rcases h3 with h3 | ⟨h4, _⟩
              · rw [h3]; exact h2
              · rw [show Ieee.single.word false r = r from wordF r] at h4
                omega
          · rw [wordF]; omega
        have hWz : eqz Wd (blW a c a' c') := by
          rw [← hWd, blW, hDD, ← hM]
          exact eqz_add hMf.2 hEn.2 hMf.1 hEn.1 (eqz_refl M) hz1
        obtain ⟨U1, hU1⟩ : ∃ U, fbin .mul .f32 a b = U := ⟨_, rfl⟩
        obtain ⟨U2, hU2⟩ : ∃ U, fbin .mul .f32 a' b' = U := ⟨_, rfl⟩
        obtain ⟨T, hT⟩ : ∃ T, fbin .add .f32 U1 U2 = T := ⟨_, rfl⟩
        obtain ⟨P, hP⟩ : ∃ P, fbin .quo .f32 T HH = P := ⟨_, rfl⟩
        have hPP : blP a b a' b' = P := by rw [blP, hU1, hU2, hT, ← hHH, hP]
        have hp2 := fbin_pick_r .add .f32
        have hp3 := fbin_pick_l .quo .f32
        have hp4 := fbin_pick_r .quo .f32
        have HV := Lib.hid hHH
        have HK := Lib.hid (show ok = okLin P HH Wd k by rw [ho.out, hin, Bool.true_and, hPP, ← hHH, ← okLin_eqz hWz])
        have HY := Lib.hid (fun (h : okLin P HH Wd k = true) w' (hb : Below w.heap.size w w') => show BlRet rP rH rW rk ok w (.returned (.tuple #[.agg #[.float .f32 P, .float .f32 HH, .float .f32 Wd, .int .i64 k], .bool true])) w' by
          obtain ⟨e1, e2, e3, e4⟩ := hr.out
          rw [e1, e2, e3, e4, HK.out, h, hPP, ← hHH, ← okLin_same hWz h]; exact ⟨rfl, hb⟩)
        have H3 := Lib.hid (fun w (s t u : Nat) => show Calls Try.prog 100 #[.agg #[.float .f32 (pick .f32 P s), .float .f32 (pick .f32 HH t), .float .f32 (pick .f32 Wd u), .int .i64 k]] w fun e w' => e = .returned (.bool (okLin P HH Wd k)) ∧ Below w.heap.size w w' from by
          rw [← okLin_pick P HH Wd k s t u]; exact implVL_any (pick .f32 P s) (pick .f32 HH t) (pick .f32 Wd u) k w)
        have HNM := Lib.hid (fun (h : okLin P HH Wd k = true) s t u => okLin_num h s t u)
        cases c4 : okLin P HH Wd k
        · rw [c4] at H3
          have HN := Lib.hid (HNO.out (HK.out.trans c4))
          clear c1 c2 c4 hHH hin ho hM hPP hDD hD0 hE hDw nS nD fA fB pC fA' fB' pC' fC fC' HK HY HNM hWz hz1 hz2 hEn hMf hr1 hr2
          go_enter Try.func41, Try.ntmps41
          go_wp2_with ((with_reducible refine wpL_fbin ?_); refine ⟨_, _, _, rfl, rfl, rfl, fun s n => ?_⟩)
          refine (H1.out _).mono ?_
          rintro e w1 ⟨rfl, B1⟩
          obtain ⟨hc1, hf1⟩ := bcellL B1
          have hz1 : w.heap.size + 3 ≤ w1.heap.size := by have := B1.size; simp at this; omega
          have hs0 : w.heap.size < w1.heap.size := by omega
          have hs1 : w.heap.size + 1 < w1.heap.size := by omega
          have hs2 : w.heap.size + 1 + 1 < w1.heap.size := by omega
          have HC : Below w.heap.size w w1 := (Below.drewN HW _).trans (B1.mono (by simp; omega))
          go_wp2_with ((with_reducible refine wpL_fbin ?_); refine ⟨_, _, _, rfl, rfl, rfl, fun s n => ?_⟩)
          refine (H2.out _).mono ?_
          rintro e w2 ⟨rfl, B2⟩
          obtain ⟨hc2, hf2⟩ := bcellL B2
          have hy2 := B2.size
          have ht0 : w.heap.size < w2.heap.size := by omega
          have ht1 : w.heap.size + 1 < w2.heap.size := by omega
          have ht2 : w.heap.size + 1 + 1 < w2.heap.size := by omega
          have HE := HC.trans (B2.mono HC.size)
          clear hy2
          have ha0 : ∀ (mm : Nat) (cs : Array Value) (t : TypeId) (j : Nat), ((w2.drewN mm).alloc (.cells cs t)).cell? ⟨w2.heap.size, j, none⟩ = cs[j]? := fun mm cs t j => World.cell?_alloc_new (w2.drewN mm) cs t j
          have ha1 : ∀ (mm : Nat) (cs : Array Value) (t : TypeId) (j : Nat), ((w2.drewN mm).alloc (.cells cs t)).frozen? ⟨w2.heap.size, j, none⟩ = false := fun mm cs t j => World.frozen?_alloc_new (w2.drewN mm) cs t j
          go_wp2_with (first | ((with_reducible refine wpL_fbin ?_); refine ⟨_, _, _, rfl, rfl, rfl, fun s n => ?_⟩) | ((with_reducible refine wpL_fneg ?_); refine ⟨_, _, rfl, ?_⟩))
          have hv2 : w.heap.size + 1 + 1 < w2.heap.size + 1 := by omega
          refine (H3.out _ _ _ _).mono ?_
          rintro e w3 ⟨rfl, B3⟩
          have HZ2 : Below w2.heap.size w2 w3 := Below.trans (by repeat (first | with_reducible exact Below.refl _ w2 | with_reducible refine Below.drewN ?_ _ | with_reducible refine Below.setCell ?_ (by simp; try omega) _ | with_reducible refine Below.alloc ?_ (by simp; try omega) _)) (B3.mono (by simp))
          obtain ⟨hc3, hf3⟩ := bcellL HZ2
          have hy3 : w2.heap.size + 1 ≤ w3.heap.size := by have := B3.size; simp at this; omega
          have hu2 : w.heap.size + 1 + 1 < w3.heap.size := by omega
          have hu3 : w2.heap.size < w3.heap.size := by omega
          have HG : Below w.heap.size w w3 := Below.trans (by repeat (first | with_reducible exact HE | with_reducible refine Below.drewN ?_ _ | with_reducible refine Below.setCell ?_ (by simp; try omega) _ | with_reducible refine Below.alloc ?_ (by simp; try omega) _)) (B3.mono (by simp; omega))
          clear hy3
          go_wp2
          exact bodyPost_ret (v := .tuple #[.agg #[.float .f32 0, .float .f32 0, .float .f32 0, .int .i64 0], .bool false]) (by simp [results, Try.results41, go_sem, hc1, hs2, hc2, ht2, hc3, hv2, hu2]) rfl (HN.out _ (by repeat (first | with_reducible exact HG | with_reducible refine Below.drewN ?_ _ | with_reducible refine Below.setCell ?_ (by simp; try omega) _ | with_reducible refine Below.alloc ?_ (by simp; try omega) _)))
        · rw [c4] at H3
          have HN := Lib.hid (HY.out c4)
          have HNN := Lib.hid (HNM.out c4)
          clear c1 c2 c4 hHH hin ho hM hPP hDD hD0 hE hDw nS nD fA fB pC fA' fB' pC' fC fC' HK HY HNM hWz hz1 hz2 hEn hMf hr1 hr2
          go_enter Try.func41, Try.ntmps41
          go_wp2_with ((with_reducible refine wpL_fbin ?_); refine ⟨_, _, _, rfl, rfl, rfl, fun s n => ?_⟩)
          refine (H1.out _).mono ?_
          rintro e w1 ⟨rfl, B1⟩
          obtain ⟨hc1, hf1⟩ := bcellL B1
          have hz1 : w.heap.size + 3 ≤ w1.heap.size := by have := B1.size; simp at this; omega
          have hs0 : w.heap.size < w1.heap.size := by omega
          have hs1 : w.heap.size + 1 < w1.heap.size := by omega
          have hs2 : w.heap.size + 1 + 1 < w1.heap.size := by omega
          have HC : Below w.heap.size w w1 := (Below.drewN HW _).trans (B1.mono (by simp; omega))
          go_wp2_with ((with_reducible refine wpL_fbin ?_); refine ⟨_, _, _, rfl, rfl, rfl, fun s n => ?_⟩)
          refine (H2.out _).mono ?_
          rintro e w2 ⟨rfl, B2⟩
          obtain ⟨hc2, hf2⟩ := bcellL B2
          have hy2 := B2.size
          have ht0 : w.heap.size < w2.heap.size := by omega
          have ht1 : w.heap.size + 1 < w2.heap.size := by omega
          have ht2 : w.heap.size + 1 + 1 < w2.heap.size := by omega
          have HE := HC.trans (B2.mono HC.size)
          clear hy2
          have ha0 : ∀ (mm : Nat) (cs : Array Value) (t : TypeId) (j : Nat), ((w2.drewN mm).alloc (.cells cs t)).cell? ⟨w2.heap.size, j, none⟩ = cs[j]? := fun mm cs t j => World.cell?_alloc_new (w2.drewN mm) cs t j
          have ha1 : ∀ (mm : Nat) (cs : Array Value) (t : TypeId) (j : Nat), ((w2.drewN mm).alloc (.cells cs t)).frozen? ⟨w2.heap.size, j, none⟩ = false := fun mm cs t j => World.frozen?_alloc_new (w2.drewN mm) cs t j
          go_wp2_with (first | ((with_reducible refine wpL_fbin ?_); refine ⟨_, _, _, rfl, rfl, rfl, fun s n => ?_⟩) | ((with_reducible refine wpL_fneg ?_); refine ⟨_, _, rfl, ?_⟩))
          have hv2 : w.heap.size + 1 + 1 < w2.heap.size + 1 := by omega
          refine (H3.out _ _ _ _).mono ?_
          rintro e w3 ⟨rfl, B3⟩
          have HZ2 : Below w2.heap.size w2 w3 := Below.trans (by repeat (first | with_reducible exact Below.refl _ w2 | with_reducible refine Below.drewN ?_ _ | with_reducible refine Below.setCell ?_ (by simp; try omega) _ | with_reducible refine Below.alloc ?_ (by simp; try omega) _)) (B3.mono (by simp))
          obtain ⟨hc3, hf3⟩ := bcellL HZ2
          have hy3 : w2.heap.size + 1 ≤ w3.heap.size := by have := B3.size; simp at this; omega
          rename_i s6 n6 s5 n5 s4 n4 s3 n3 s2 n2 s1 n1 s0 n0 K2 A2 K1 A1 K0 A0
          have hn0 : w3.cell? ⟨w2.heap.size, 0, none⟩ = some (.float .f32 (pick .f32 P s2)) := (B3.cell (p := ⟨w2.heap.size, 0, none⟩) (by simp)).trans (by simp [go_sem, ha0])
          have hn1 : w3.cell? ⟨w2.heap.size, 1, none⟩ = some (.float .f32 (pick .f32 HH s6)) := (B3.cell (p := ⟨w2.heap.size, 1, none⟩) (by simp)).trans (by simp [go_sem, ha0])
          have hn2 : w3.cell? ⟨w2.heap.size, 2, none⟩ = some (.float .f32 (pick .f32 Wd s)) := (B3.cell (p := ⟨w2.heap.size, 2, none⟩) (by simp)).trans (by simp [go_sem, ha0])
          have hn3 : w3.cell? ⟨w2.heap.size, 3, none⟩ = some (.int .i64 k) := (B3.cell (p := ⟨w2.heap.size, 3, none⟩) (by simp)).trans (by simp [go_sem, ha0])
          have hu2 : w.heap.size + 1 + 1 < w3.heap.size := by omega
          have hu3 : w2.heap.size < w3.heap.size := by omega
          have HG : Below w.heap.size w w3 := Below.trans (by repeat (first | with_reducible exact HE | with_reducible refine Below.drewN ?_ _ | with_reducible refine Below.setCell ?_ (by simp; try omega) _ | with_reducible refine Below.alloc ?_ (by simp; try omega) _)) (B3.mono (by simp; omega))
          clear hy3
          obtain ⟨e1, e2, e3⟩ := HNN.out s2 s6 s
          go_wp2
          exact bodyPost_ret (v := .tuple #[.agg #[.float .f32 P, .float .f32 HH, .float .f32 Wd, .int .i64 k], .bool true]) (by simp [results, Try.results41, go_sem, hc1, hs2, hc2, ht2, hc3, hv2, hu2, e1, e2, e3]) rfl (HN.out _ (by repeat (first | with_reducible exact HG | with_reducible refine Below.drewN ?_ _ | with_reducible refine Below.setCell ?_ (by simp; try omega) _ | with_reducible refine Below.alloc ?_ (by simp; try omega) _)))
      · have HN := Lib.hid (HNO.out (by rw [ho.out, okBl, ← hHH, c3]; simp))
        have HV := Lib.hid hHH
        clear c1 c2 hHH
        go_enter Try.func41, Try.ntmps41
        go_wp2_with ((with_reducible refine wpL_fbin ?_); refine ⟨_, _, _, rfl, rfl, rfl, fun s n => ?_⟩)
        refine (H1.out _).mono ?_
        rintro e w1 ⟨rfl, B1⟩
        obtain ⟨hc1, hf1⟩ := bcellL B1
        have hz1 : w.heap.size + 3 ≤ w1.heap.size := by have := B1.size; simp at this; omega
        have hs1 : w.heap.size + 1 < w1.heap.size := by omega
        have hs2 : w.heap.size + 1 + 1 < w1.heap.size := by omega
        have HC : Below w.heap.size w w1 := (Below.drewN HW _).trans (B1.mono (by simp; omega))
        go_wp2_with ((with_reducible refine wpL_fbin ?_); refine ⟨_, _, _, rfl, rfl, rfl, fun s n => ?_⟩)
        refine (H2.out _).mono ?_
        rintro e w2 ⟨rfl, B2⟩
        obtain ⟨hc2, hf2⟩ := bcellL B2
        have ht2 : w.heap.size + 1 + 1 < w2.heap.size := by have := B2.size; omega
        have HE := HC.trans (B2.mono HC.size)
        go_wp2
        exact bodyPost_ret (v := .tuple #[.agg #[.float .f32 0, .float .f32 0, .float .f32 0, .int .i64 0], .bool false]) (by simp [results, Try.results41, go_sem, hc1, hs2, hc2, ht2]) rfl (HN.out _ (by repeat (first | with_reducible exact HE | with_reducible refine Below.drewN ?_ _ | with_reducible refine Below.setCell ?_ (by simp; try omega) _ | with_reducible refine Below.alloc ?_ (by simp; try omega) _)))
end Go.Proofs.Ytbblohjldkpcnab
