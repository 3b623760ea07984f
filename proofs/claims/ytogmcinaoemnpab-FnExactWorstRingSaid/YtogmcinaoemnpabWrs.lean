
/- The worst ring of edges: as the model tells it. -/
import Derived.Test.YtogmcinaoemnpabWri
import Derived.Test.YtogmcinaoemnpabMln
import Derived.Test.YtogmcinaoemnpabFinW
namespace Go.Proofs.Ytogmcinaoemnpab
set_option linter.all false
open Go Go.ChangeShapes Go.WideShapes Go.ChangeAt Go.RowKit

theorem mxW_inf {V : Nat → Nat} {X : Nat → Ed} {k n : Nat} (hk : k < n) (hinf : gpW V (X k) % 2147483648 = 2139095040) (h : ∀ i, i < n → isNaN .f32 (gpW V (X i)) = false) : isFin .f32 (mxW V X n) = false := by
  have mono : ∀ d, mxW V X (k + 1) ≤ mxW V X (k + 1 + d) := fun d => by
    induction d with
    | zero => exact Nat.le_refl _
    | succ d ih => exact Nat.le_trans ih (Nat.le_max_left _ _)
  have h1 : 2139095040 ≤ mxW V X (k + 1) := by
    show 2139095040 ≤ max (mxW V X k) (gpW V (X k) % 2147483648)
    rw [hinf]; exact Nat.le_max_right _ _
  have h2 := mono (n - k - 1)
  rw [show k + 1 + (n - k - 1) = n by omega] at h2
  have h3 := mxW_le h n (Nat.le_refl _)
  rw [show mxW V X n = 2139095040 by omega]
  decide +kernel
theorem mxW_lt {V : Nat → Nat} {X : Nat → Ed} {n : Nat} (h : ∀ i, i < n → gpW V (X i) % 2147483648 < 2139095040) : ∀ k, k ≤ n → mxW V X k < 2139095040
  | 0, _ => by show 0 < 2139095040; omega
  | k + 1, hk => by
    have h1 := mxW_lt h k (by omega)
    have h2 := h k (by omega)
    show max (mxW V X k) (gpW V (X k) % 2147483648) < _
    omega
theorem wideM_word (s : Bool) (r : Nat) (hr : r ≤ 2139095040) : ∃ u, wideM (Ieee.single.word s r) = Ieee.single.word u r ∧ (u = true → r = 0) := by
  by_cases h : r < 2139095040
  · have o : FloatKind.f32.format.order (Ieee.single.word s r) 0 = some (compare (sgR s r) 0) := ord_words s false r 0 h (by omega)
    unfold wideM
    rw [o, neg_wordR s r (by omega)]
    by_cases h0 : r = 0
    · subst h0
      cases s
      · exact ⟨false, by rfl, fun e => by cases e⟩
      · exact ⟨true, by rfl, fun _ => rfl⟩
    · cases s
      · rw [show compare (sgR false r) 0 = .gt from Int.compare_eq_gt.2 (by unfold sgR; simp; omega), if_neg (by simp)]
        exact ⟨false, rfl, fun e => by cases e⟩
      · rw [show compare (sgR true r) 0 = .lt from Int.compare_eq_lt.2 (by unfold sgR; simp; omega), if_pos (by simp)]
        exact ⟨false, rfl, fun e => by cases e⟩
  · obtain rfl : r = 2139095040 := by omega
    cases s
    · exact ⟨false, by decide +kernel, fun e => by cases e⟩
    · exact ⟨false, by decide +kernel, fun e => by cases e⟩
theorem word_infF (u : Bool) : isFin .f32 (Ieee.single.word u 2139095040) = false := by cases u <;> decide +kernel
set_option maxRecDepth 100000 in
set_option maxHeartbeats 6400000 in
theorem specWr_yes (L : Nat) (xa : Option Addr) (n cap : Nat) (X : Nat → Ed) (w : World) (hX : RdE w xa n X) (hk : okEds (L : Int) X n = true) (hp : ∀ i, i < n → isFin .f32 (X i).p = true) (hok : (elAll X n (L - 1) && finL (elSt X n (L - 1)).2 L) = true) :
    Calls Try.prog 33 #[.int .i64 (L : Int), .slice xa n cap] w fun e w' => (∃ s, e = .returned (.tuple #[.float .f32 (pick .f32 (numQ (mxW (elSt X n (L - 1)).2 X n)) s), .bool (isFin .f32 (mxW (elSt X n (L - 1)).2 X n))])) ∧ Below w.heap.size w w' := by
  obtain ⟨hL1, hL2, hn, hE⟩ := okEds_in hk
  have HEL := Lib.hid (specEl_yes L xa n cap X w hX hk true L (Lib.hid hok.symm) (Lib.hid rfl))
  have hfV : finL (elSt X n (L - 1)).2 L = true := by rw [Bool.and_eq_true] at hok; exact hok.2
  obtain ⟨V, hV⟩ : ∃ V, V = (elSt X n (L - 1)).2 := ⟨_, rfl⟩
  rw [← hV] at HEL hfV ⊢
  have HfV := Lib.hid (finL_at hfV)
  have HE := Lib.hid hE
  have HX := Lib.hid hX
  have HP := Lib.hid hp
  have HG := Lib.hid (show ∀ i, i < n → isNaN .f32 (gpW V (X i)) = false from fun i hi => by
    obtain ⟨e1, e2, e3, e4, e5⟩ := hE i hi
    exact nan_sub (nan_sub_l (finL_at hfV _ (by omega)) (num_fin (finL_at hfV _ (by omega)))) (hp i hi))
  clear hV hfV hE hX hk hp hok
  go_enter Try.func33, Try.ntmps33
  go_wp2_with (go_at_call 27; refine HEL.out.mono ?_; rintro e w1 ⟨v, Z, rfl, hown, hLk, hB1⟩; obtain ⟨za, zc, rfl, hz1, hz2, hRd⟩ := rd_of_own hown)
  have hZV : ∀ j, j < L → Z j = V j := fun j hj => by
    have h1 := hLk j hj
    have h2 : isNaN .f32 (V j) = false := num_fin (HfV.out j hj)
    rw [canon_num h2] at h1
    have h3 : isNaN .f32 (Z j) = false := by rw [← isNaN_canon, h1]; exact h2
    rw [canon_num h3] at h1
    exact h1
  have hRd2 : Rd w1 za L V := hRd.congr hZV
  obtain ⟨zb, zo, hza, hzc⟩ := hRd2
  have e := hza (by omega)
  subst e
  have HZ := Lib.hid hzc
  clear hRd hown hLk hZV hza hzc HEL
  go_loopw [8, 21] (fun m i wr => ∃ k : Nat, k ≤ n ∧ i = .int .i64 (k : Int) ∧ m = .float .f32 (mxW V X k) ∧ Hid (∀ j, j < k → gpW V (X j) % 2147483648 < 2139095040) ∧ Below w1.heap.size w1 wr) (fun _ i _ => n - (intOf i).toNat)
  case atStart => exact ⟨0, Nat.zero_le _, rfl, rfl, Lib.hid (fun _ h => absurd h (Nat.not_lt_zero _)), Below.refl _ _⟩
  case round =>
    obtain ⟨k, hkn, rfl, rfl, HQ, hBk⟩ := hrel
    by_cases hlt : k < n
    · obtain ⟨e1, e2, e3, e4, e5⟩ := HE.out k hlt
      obtain ⟨A, hA⟩ : ∃ A : Nat, (X k).a = A := ⟨(X k).a.toNat, by omega⟩
      obtain ⟨B, hB⟩ : ∃ B : Nat, (X k).b = B := ⟨(X k).b.toNat, by omega⟩
      obtain ⟨P, hP⟩ : ∃ P : Nat, (X k).p = P := ⟨_, rfl⟩
      rw [hA] at e1 e2 e5
      rw [hB] at e3 e4 e5
      have hAl : A < L := by omega
      have hBl : B < L := by omega
      obtain ⟨xb, xo, hxa, hcx⟩ := id HX.out
      have e := hxa (by omega)
      subst e
      have hBw := hB1.trans (hBk.mono hB1.size)
      have hed := EdAt.below (hcx k hlt) hBw
      simp only [EdAt, hA, hB, hP] at hed
      obtain ⟨r0, r1, r2⟩ := hed
      have zA := (hBk.cell (p := ⟨zb, zo + A, none⟩) (World.block_lt_of_cell? w1 _ (HZ.out A hAl))).trans (HZ.out A hAl)
      have zB := (hBk.cell (p := ⟨zb, zo + B, none⟩) (World.block_lt_of_cell? w1 _ (HZ.out B hBl))).trans (HZ.out B hBl)
      have hsz := hBk.size
      obtain ⟨D, hD⟩ : ∃ D, fbin .sub .f32 (V B) (V A) = D := ⟨_, rfl⟩
      have nD : isNaN .f32 D = false := by rw [← hD]; exact nan_sub_l (HfV.out B hBl) (num_fin (HfV.out A hAl))
      obtain ⟨G, hG⟩ : ∃ G, fbin .sub .f32 D P = G := ⟨_, rfl⟩
      have hGe : gpW V (X k) = G := by rw [← hG, ← hD]; unfold gpW; rw [hA, hB, hP]; rfl
      have nG : isNaN .f32 G = false := by rw [← hGe]; exact HG.out k hlt
      have q1 := fun t => run_numop (op := .sub) rfl t _ _ _ hD nD
      have q2 := fun t => run_numop (op := .sub) rfl t _ _ _ hG nG
      obtain ⟨s, r, hr, hGw⟩ := word_num (b := G) (by rw [← hG]; exact fbinLt _ _ _) nG
      have hmx := mxW_le HG.out k (by omega)
      obtain ⟨u, hu, hu0⟩ := wideM_word s r hr
      rw [← hGw] at hu
      have hGr : gpW V (X k) % 2147483648 = r := by rw [hGe, hGw, word_mod' s r (by omega)]
      have HWd := Lib.hid (fun w => wide_any G w)
      obtain ⟨d, hd⟩ : ∃ d, d = wideM G := ⟨_, rfl⟩
      rw [← hd] at HWd hu
      by_cases hri : r < 2139095040
      · have fd : isFin .f32 d = true := by rw [hu]; exact word_fin u r hri
        have hN0 : (if u = true then mxW V X k else max (mxW V X k) r) = mxW V X (k + 1) := by
          show _ = max (mxW V X k) (gpW V (X k) % 2147483648)
          rw [hGr]
          cases u
          · rfl
          · rw [hu0 rfl]; simp
        have hmax : ∀ ts t w, (Builtin.max_ ts t #[.float .f32 (mxW V X k), .float .f32 d]).run Try.prog w = .ok (.float .f32 (mxW V X (k + 1))) w := fun ts t w => by
          have h := max2W (mxW V X k) r u hmx hr Try.prog w
          rw [wordF, ← hu, hN0, wordF] at h
          rw [max2_eq]
          exact h
        have HQ2 := Lib.hid (show ∀ j, j < k + 1 → gpW V (X j) % 2147483648 < 2139095040 from fun j hj => by
          by_cases hj' : j < k
          · exact HQ.out j hj'
          · rw [show j = k by omega, hGr]; exact hri)
        obtain ⟨M, hM⟩ : ∃ M, M = mxW V X k := ⟨_, rfl⟩
        obtain ⟨N, hN⟩ : ∃ N, N = mxW V X (k + 1) := ⟨_, rfl⟩
        rw [← hN, ← hM] at hmax
        rw [← hM]
        have HN := Lib.hid hN
        clear hM hN hGw hGe hG hD e1 e2 e3 e4 e5 hxa hcx nD nG hN0 hGr hu hu0 hd
        go_wp2_with fail
        go_quiet ((go_at_call 63; exact Calls.quiet_of_same (HWd.out _)))
        all_goals go_wp2_with (first | (go_at_call 56; refine (l01Finite_any _ _).mono ?_; rintro e w' ⟨rfl, q, rfl⟩))
        all_goals go_roundw
        all_goals first | (simp [intOf]; omega) | exact ⟨k + 1, by omega, by go_num, by rw [HN.out], HQ2, Below.drewN hBk _⟩
      · have hr' : r = 2139095040 := by omega
        have fd : isFin .f32 d = false := by rw [hu, hr']; exact word_infF u
        have hF := mxW_inf hlt (by rw [hGr, hr']) HG.out
        have HQF := Lib.hid (show pick .f32 (numQ (mxW V X n)) 0 = 0 by unfold numQ; rw [hF, if_neg (by simp)]; exact pick_nul 0)
        have HFF := Lib.hid hF
        obtain ⟨M, hM⟩ : ∃ M, M = mxW V X k := ⟨_, rfl⟩
        rw [← hM]
        clear hM hGw hGe hG hD e1 e2 e3 e4 e5 hxa hcx nD nG hGr hu hu0 hd hF
        go_wp2_with fail
        go_quiet ((go_at_call 63; exact Calls.quiet_of_same (HWd.out _)))
        all_goals go_wp2_with (first | (go_at_call 56; refine (l01Finite_any _ _).mono ?_; rintro e w' ⟨rfl, q, rfl⟩))
        all_goals go_ret2
        all_goals exact ⟨⟨0, by rw [HQF.out, HFF.out]; rfl⟩, Below.drewN hBw _⟩
    · have e : k = n := by omega
      subst e
      obtain ⟨M, hM⟩ : ∃ M, M = mxW V X k := ⟨_, rfl⟩
      rw [← hM]
      have hlt' : M < 2139095040 := by rw [hM]; exact mxW_lt HQ.out k (Nat.le_refl _)
      have fM : isFin .f32 M = true := by rw [← wordF M]; exact word_fin false M hlt'
      have HMM := Lib.hid (show pick .f32 (numQ (mxW V X k)) 0 = M ∧ isFin .f32 (mxW V X k) = true by
        rw [← hM]
        unfold numQ
        rw [if_pos fM, pick_num (num_fin fM)]
        exact ⟨rfl, fM⟩)
      clear hM
      go_wp2
      go_ret2
      exact ⟨⟨0, by first | (rw [HMM.out.1, HMM.out.2]; done) | (rw [HMM.out.1, HMM.out.2]; rfl)⟩, hB1.trans (hBk.mono hB1.size)⟩
end Go.Proofs.Ytogmcinaoemnpab
