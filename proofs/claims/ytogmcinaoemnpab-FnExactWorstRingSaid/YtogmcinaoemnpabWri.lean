
/- The worst ring of edges: as the program tells it. -/
import Derived.Test.YtogmcinaoemnpabWrp
import Derived.Test.YtogmcinaoemnpabEls
import Derived.Test.YtogmcinaoemnpabNu5
import Derived.Deep.QuietTactic
import Derived.BigQuiet
namespace Go.Proofs.Ytogmcinaoemnpab
set_option linter.all false
open Go Go.ChangeShapes Go.WideShapes Go.ChangeAt Go.RowKit

def gpW (V : Nat → Nat) (e : Ed) : Nat := fbin .sub .f32 (fbin .sub .f32 (V e.b.toNat) (V e.a.toNat)) e.p
def mxW (V : Nat → Nat) (X : Nat → Ed) : Nat → Nat
  | 0 => 0
  | k + 1 => max (mxW V X k) (gpW V (X k) % 2147483648)
theorem fbinLt (op : BinOp) (x y : Nat) : fbin op .f32 x y < 4294967296 := by simpa [Lit.wf] using fbin_wf op .f32 x y
theorem word_num {b : Nat} (hb : b < 4294967296) (hn : isNaN .f32 b = false) : ∃ s r, r ≤ 2139095040 ∧ b = Ieee.single.word s r := by
  obtain ⟨s, r, hr, rfl⟩ := word_of b hb
  refine ⟨s, r, ?_, rfl⟩
  rcases Nat.lt_or_ge 2139095040 r with h | h
  · exfalso
    have h1 := read_wordS s r hr
    rw [if_neg (by omega), if_neg (by omega), if_neg (by omega)] at h1
    unfold isNaN at hn
    rw [h1] at hn
    cases hn
  · exact h
theorem mxW_le {V : Nat → Nat} {X : Nat → Ed} {n : Nat} (h : ∀ i, i < n → isNaN .f32 (gpW V (X i)) = false) : ∀ k, k ≤ n → mxW V X k ≤ 2139095040
  | 0, _ => Nat.zero_le _
  | k + 1, hk => by
    obtain ⟨s, r, hr, e⟩ := word_num (b := gpW V (X k)) (fbinLt _ _ _) (h k (by omega))
    have := mxW_le h k (by omega)
    show max (mxW V X k) (gpW V (X k) % 2147483648) ≤ _
    rw [e, word_mod' s r (by omega)]
    omega
set_option maxRecDepth 100000 in
set_option maxHeartbeats 6400000 in
theorem implWr_yes (L : Nat) (xa : Option Addr) (n cap : Nat) (X : Nat → Ed) (w : World) (hX : RdE w xa n X) (hk : okEds (L : Int) X n = true) (hp : ∀ i, i < n → isFin .f32 (X i).p = true) (hok : (elAll X n (L - 1) && finL (elSt X n (L - 1)).2 L) = true) :
    Calls Try.prog 34 #[.int .i64 (L : Int), .slice xa n cap] w fun e w' => (∃ s, e = .returned (.tuple #[.float .f32 (pick .f32 (numQ (mxW (elSt X n (L - 1)).2 X n)) s), .bool (isFin .f32 (mxW (elSt X n (L - 1)).2 X n))])) ∧ Below w.heap.size w w' := by
  obtain ⟨hL1, hL2, hn, hE⟩ := okEds_in hk
  have HEL := Lib.hid (implEl_yes L xa n cap X w hX hk true L (Lib.hid hok.symm) (Lib.hid rfl))
  have hfV : finL (elSt X n (L - 1)).2 L = true := by rw [Bool.and_eq_true] at hok; exact hok.2
  obtain ⟨V, hV⟩ : ∃ V, V = (elSt X n (L - 1)).2 := ⟨_, rfl⟩
  rw [← hV] at HEL hfV ⊢
  have HfV := Lib.hid (finL_at hfV)
  have HE := Lib.hid hE
  have HX := Lib.hid hX
  have HP := Lib.hid hp
  have HG := Lib.hid (show ∀ i, i < n → isNaN .f32 (gpW V (X i)) = false from fun i hi => by
    obtain ⟨e1, e2, e3, e4, e5⟩ := hE i hi
    exact nan_sub (nan_sub_l (finL_at hfV _ (by omega)) (num_fin (finL_at hfV _ (by omega)))) (hp i hi))
  clear hV hfV hE hX hk hp hok
  go_enter Try.func34, Try.ntmps34
  go_wp2_with (go_at_call 29; refine HEL.out.mono ?_; rintro e w1 ⟨v, Z, rfl, hown, hLk, hB1⟩; obtain ⟨za, zc, rfl, hz1, hz2, hRd⟩ := rd_of_own hown)
  have hZV : ∀ j, j < L → Z j = V j := fun j hj => by
    have h1 := hLk j hj
    have h2 : isNaN .f32 (V j) = false := num_fin (HfV.out j hj)
    rw [canon_num h2] at h1
    have h3 : isNaN .f32 (Z j) = false := by rw [← isNaN_canon, h1]; exact h2
    rw [canon_num h3] at h1
    exact h1
  have hRd2 : Rd w1 za L V := hRd.congr hZV
  obtain ⟨zb, zo, hza, hzc⟩ := hRd2
  have e := hza (by omega)
  subst e
  have HZ := Lib.hid hzc
  clear hRd hown hLk hZV hza hzc HEL
  go_loopw [8, 22] (fun m i wr => ∃ k : Nat, k ≤ n ∧ i = .int .i64 (k : Int) ∧ m = .float .f32 (mxW V X k) ∧ Below w1.heap.size w1 wr) (fun _ i _ => n - (intOf i).toNat)
  case atStart => exact ⟨0, Nat.zero_le _, rfl, rfl, Below.refl _ _⟩
  case round =>
    obtain ⟨k, hkn, rfl, rfl, hBk⟩ := hrel
    by_cases hlt : k < n
    · obtain ⟨e1, e2, e3, e4, e5⟩ := HE.out k hlt
      obtain ⟨A, hA⟩ : ∃ A : Nat, (X k).a = A := ⟨(X k).a.toNat, by omega⟩
      obtain ⟨B, hB⟩ : ∃ B : Nat, (X k).b = B := ⟨(X k).b.toNat, by omega⟩
      obtain ⟨P, hP⟩ : ∃ P : Nat, (X k).p = P := ⟨_, rfl⟩
      rw [hA] at e1 e2 e5
      rw [hB] at e3 e4 e5
      have hAl : A < L := by omega
      have hBl : B < L := by omega
      obtain ⟨xb, xo, hxa, hcx⟩ := id HX.out
      have e := hxa (by omega)
      subst e
      have hBw := hB1.trans (hBk.mono hB1.size)
      have hed := EdAt.below (hcx k hlt) hBw
      simp only [EdAt, hA, hB, hP] at hed
      obtain ⟨r0, r1, r2⟩ := hed
      have B6 := (Below.refl wr.heap.size wr).alloc (Nat.le_refl _) (.cells #[.int .i64 (A : Int), .int .i64 (B : Int), .float .f32 P] 80)
      have zA := (hBk.cell (p := ⟨zb, zo + A, none⟩) (World.block_lt_of_cell? w1 _ (HZ.out A hAl))).trans (HZ.out A hAl)
      have zB := (hBk.cell (p := ⟨zb, zo + B, none⟩) (World.block_lt_of_cell? w1 _ (HZ.out B hBl))).trans (HZ.out B hBl)
      have zA6 := (B6.cell (p := ⟨zb, zo + A, none⟩) (World.block_lt_of_cell? wr _ zA)).trans zA
      have zB6 := (B6.cell (p := ⟨zb, zo + B, none⟩) (World.block_lt_of_cell? wr _ zB)).trans zB
      have hsz := hBk.size
      have hB6 := hBk.trans (B6.mono hsz)
      obtain ⟨D, hD⟩ : ∃ D, fbin .sub .f32 (V B) (V A) = D := ⟨_, rfl⟩
      have nD : isNaN .f32 D = false := by rw [← hD]; exact nan_sub_l (HfV.out B hBl) (num_fin (HfV.out A hAl))
      obtain ⟨G, hG⟩ : ∃ G, fbin .sub .f32 D P = G := ⟨_, rfl⟩
      have hGe : gpW V (X k) = G := by rw [← hG, ← hD]; unfold gpW; rw [hA, hB, hP]; rfl
      have nG : isNaN .f32 G = false := by rw [← hGe]; exact HG.out k hlt
      have q1 := fun t => run_numop (op := .sub) rfl t _ _ _ hD nD
      have q2 := fun t => run_numop (op := .sub) rfl t _ _ _ hG nG
      obtain ⟨s, r, hr, hGw⟩ := word_num (b := G) (by rw [← hG]; exact fbinLt _ _ _) nG
      have hmx := mxW_le HG.out k (by omega)
      have hmax := fun ts t w => max3W (mxW V X k) r s hmx hr Try.prog ts t w
      rw [wordF, ← hGw, wordF] at hmax
      have HM := Lib.hid (show max (mxW V X k) r = mxW V X (k + 1) by
        show _ = max (mxW V X k) (gpW V (X k) % 2147483648)
        rw [hGe, hGw, word_mod' s r (by omega)])
      obtain ⟨M, hM⟩ : ∃ M, M = mxW V X k := ⟨_, rfl⟩
      obtain ⟨N, hN⟩ : ∃ N, N = max (mxW V X k) r := ⟨_, rfl⟩
      rw [← hN] at hmax HM
      rw [← hM] at hmax
      rw [← hM]
      have hst := run_store_f32
      clear hM hN hGw hGe hG hD e1 e2 e3 e4 e5 hxa hcx nD nG B6 zA zB
      go_wp2_with fail
      go_quiet (fail)
      go_wp2_with ((with_reducible refine wpL_fneg ?_); refine ⟨_, _, rfl, ?_⟩)
      go_roundw
      all_goals first | (simp [intOf]; omega) | exact ⟨k + 1, by omega, by go_num, by rw [HM.out], Below.drewN hB6 _⟩
    · have e : k = n := by omega
      subst e
      obtain ⟨M, hM⟩ : ∃ M, M = mxW V X k := ⟨_, rfl⟩
      rw [← hM]
      have hnM : isNaN .f32 M = false := by
        have h1 := mxW_le HG.out k (Nat.le_refl _)
        rw [← hM] at h1
        rw [← wordF M]
        by_cases h2 : M < 2139095040
        · exact num_fin (word_fin false M h2)
        · rw [show M = 2139095040 by omega]; decide +kernel
      have HI := Lib.hid (fun w => numI_any M 0 w)
      rw [pick_num hnM] at HI
      have HM := Lib.hid hM
      clear hM
      go_wp2_with (go_at_call 64; refine (HI.out _).mono ?_; rintro e w5 ⟨s, m, rfl, rfl⟩)
      go_ret2
      exact ⟨⟨s, by rw [← HM.out]; rfl⟩, Below.drewN (hB1.trans (hBk.mono hB1.size)) _⟩
end Go.Proofs.Ytogmcinaoemnpab
