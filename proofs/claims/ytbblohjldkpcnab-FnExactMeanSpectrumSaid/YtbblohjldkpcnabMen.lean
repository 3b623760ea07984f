/- The mean of spectra: as the model makes it, and as the program does. -/
import Derived.Test.YtbblohjldkpcnabMiI
import Derived.Test.YtbblohjldkpcnabMnp
import Derived.Test.YtbblohjldkpcnabRep
import Derived.Test.YtbblohjldkpcnabDiv
namespace Go.Proofs.Ytbblohjldkpcnab
open Go Go.ChangeShapes Go.WideShapes Go.ChangeAt Go.RowKit

def sumR (X : Nat → Nat → Nat) (K j : Nat) : Nat := smW (fun k => X k j) K
def menR (X : Nat → Nat → Nat) (K j : Nat) : Nat := fbin .quo .f32 (sumR X K j) (floatOfInt .f32 (K : Int))
set_option maxRecDepth 100000 in
set_option maxHeartbeats 3200000 in
theorem specMen_yes (xa : Option Addr) (K cap : Nat) (N : Nat → Nat) (X : Nat → Nat → Nat) (w : World) (hX : RdR w xa K N X) (h : K + totN N K ≤ 1048576) (hk : okSpc K N X = true) (ok : Bool) (ho : Hid (ok = finL (menR X K) (N 0))) (m : Nat) (hm : Hid (m = if ok = true then N 0 else 0)) :
    Calls Try.prog 16 #[.slice xa K cap] w (LstRet (menR X K) m ok w) := by
  obtain ⟨i0, hi, hz0, hz1, hz2⟩ := info_parts infoF
  have HT := Lib.hid (fun w hX => specSpc_any xa K cap N X w hX h true (Lib.hid hk.symm))
  obtain ⟨hK1, hK8, hall⟩ := okSpc_at hk
  have HA := Lib.hid hall
  obtain ⟨n, hn⟩ : ∃ n, n = N 0 := ⟨_, rfl⟩
  have hn128 : 1 ≤ n ∧ n ≤ 128 := by have := okLst_at (hall 0 (by omega)).1; omega
  have hX0 := hX
  obtain ⟨xb, xo, hxa, _⟩ := hX0
  have e := hxa (by omega)
  subst e
  have HX := Lib.hid (show ∀ w', Below w.heap.size w w' → ∀ k, k < K → ∃ b o c, w'.cell? ⟨xb, xo + k, none⟩ = some (.slice (some ⟨b, o, none⟩) n c) ∧ ∀ j, j < n → w'.cell? ⟨b, o + j, none⟩ = some (.float .f32 (X k j)) from fun w' hb k hk => by
    obtain ⟨a, c, h1, _, h2⟩ := RdR.row (RdR.below hX hb) hk
    rw [(HA.out k hk).2, ← hn] at h1 h2
    obtain ⟨b, o, rfl, h3⟩ := h2.at (by omega)
    exact ⟨b, o, c, h1, h3⟩)
  obtain ⟨b0, o0, c0, h0, _⟩ := HX.out w (Below.refl _ _) 0 (by omega)
  rw [Nat.add_zero] at h0
  have hi1 : (0 : Int) < (K : Int) := by omega
  have hi2 : 0 < K := by omega
  rw [← hn] at ho hm
  clear hall hxa hk hn h
  go_enter Try.func16, Try.ntmps16
  go_wp2_with fail
  refine (HT.out _ (by exact hX)).mono ?_
  rintro e w' ⟨rfl, q, rfl⟩
  have h0' : ∀ o, ((w.drewN q).alloc o).cell? ⟨xb, xo, none⟩ = some (.slice (some ⟨b0, o0, none⟩) n c0) := fun o => by
    have hb : Below w.heap.size w ((w.drewN q).alloc o) := Below.alloc (Below.drewN (Below.refl _ _) q) (Nat.le_refl _) o
    exact (hb.cell (p := ⟨xb, xo, none⟩) (World.block_lt_of_cell? w _ h0)).trans h0
  clear hX
  go_wp2
  go_loopw [4, 16] (fun v i wr => ∃ (c : Nat) (Z : Nat → Nat), c ≤ n ∧ i = .int .i64 (c : Int) ∧ wr.ownsRow w.heap.size 43 1 v c (rowOf Z c) ∧ Like Z (menR X K) c ∧ Below w.heap.size w wr) (fun _ i _ => n - (intOf i).toNat)
  case atStart => exact ⟨0, fun _ => 0, Nat.zero_le _, rfl, own_empty (w.drewN q) _, fun _ h => absurd h (Nat.not_lt_zero _), Below.alloc (Below.drewN (Below.refl _ _) _) (Nat.le_refl _) _⟩
  case round =>
    obtain ⟨c, Z, hc, rfl, hownk, hL, hBk⟩ := hrel
    have hsz := hBk.size
    clear h0 h0'
    by_cases hltc : c < n
    · obtain ⟨wu, hwu⟩ : ∃ wu, wu = wr := ⟨_, rfl⟩
      subst hwu
      obtain ⟨F, hF⟩ : ∃ F : Nat → Nat, F = fun k => X k c := ⟨_, rfl⟩
      have HF := Lib.hid hF
      have HU := Lib.hid (show menR X K c = fbin .quo .f32 (smW F K) (floatOfInt .f32 (K : Int)) by rw [hF]; rfl)
      clear hF
      go_wp2
      go_loopw [6, 21] (fun q i wr => ∃ (k mm s : Nat), k ≤ K ∧ i = .int .i64 (k : Int) ∧ q = .float .f32 (pick .f32 (smW F k) s) ∧ wr = wu.drewN mm) (fun _ i _ => K - (intOf i).toNat)
      case atStart => exact ⟨0, 0, 0, by omega, rfl, by rw [show smW F 0 = 0 from rfl, pick_zero], rfl⟩
      case round =>
        obtain ⟨k, mm, s, hk, rfl, rfl, hwr⟩ := hrel
        by_cases hkK : k < K
        · have HZ := Lib.hid hwr
          have hBw : Below w.heap.size w wr := by rw [hwr]; exact Below.drewN hBk mm
          obtain ⟨b, o, cc, h1, h2⟩ := HX.out wr hBw k hkK
          have h3 := h2 c hltc
          have hb1 : (k : Int) < (K : Int) := by omega
          have hb2 : (c : Int) < (n : Int) := by omega
          have hd := smW_succ F k
          have hfk : F k = X k c := by rw [HF.out]
          rw [hfk] at hd
          have hp := fbin_pick_l .add .f32
          obtain ⟨D, hD⟩ : ∃ D, D = smW F k := ⟨_, rfl⟩
          rw [← hD] at hd
          have HD := Lib.hid hD
          have HE := Lib.hid hd
          rw [← HD.out]
          clear hD hd hfk hwr hBw h2
          go_wp2_with ((with_reducible refine wpL_fbin ?_); refine ⟨_, _, _, rfl, rfl, rfl, fun s n => ?_⟩)
          go_roundw
          case rel => exact ⟨k + 1, _, _, by omega, by go_num, by rw [← HE.out], by rw [HZ.out, World.drewN_drewN]⟩
          case measure => simp [intOf]; omega
        · have hkk : k = K := by omega
          subst hkk
          subst hwr
          obtain ⟨E, hE⟩ : ∃ E, E = smW F k := ⟨_, rfl⟩
          rw [← hE] at HU
          rw [← hE]
          clear hE
          have hp := fbin_pick_l .quo .f32
          have hk0 : (k : Int) ≤ 8 := by omega
          go_wp2_with (first | (at_builtin; refine wpL_push hi hz0 hz1 hz2 rfl rfl rfl rfl (by exact own_drew hownk _) (by omega) (by exact hsz) ?_; intro v' w1 hown' hB') | ((with_reducible refine wpL_fbin ?_); refine ⟨_, _, _, rfl, rfl, rfl, fun s n => ?_⟩))
          go_roundw
          case rel => exact ⟨c + 1, _, by omega, by go_num, hown', like_push hL (by rw [HU.out]), Below.trans (Below.drewN hBk _) hB'⟩
          case measure => simp [intOf]; omega
    · have hck : c = n := by omega
      subst hck
      go_wp2_with fail
      refine (l07Give_any _ _ _ Z _ (by exact hownk) (by omega)).mono ?_
      rintro e w' ⟨rfl, q2, rfl⟩
      have HF2 := Lib.hid (show LstRet (menR X K) (if finL (menR X K) c = true then c else 0) (finL (menR X K) c) w = LstRet (menR X K) m ok w by rw [hm.out, ho.out])
      have HV := Lib.hid (lstGive (w := w) hL hownk (by omega) hBk)
      clear hL hownk
      cases hfz : finL Z c
      · rw [hfz, HF2.out] at HV
        go_wp2
        go_ret2
        obtain ⟨a, b, h3, h4, h5, h6, h7⟩ := HV.out
        exact ⟨a, b, h3, h4, h5, h6, Below.drewN h7 _⟩
      · rw [hfz, HF2.out] at HV
        go_wp2
        go_ret2
        obtain ⟨a, b, h3, h4, h5, h6, h7⟩ := HV.out
        exact ⟨a, b, h3, h4, h5, h6, Below.drewN h7 _⟩
def okMen (K : Nat) (N : Nat → Nat) (X : Nat → Nat → Nat) : Bool := okSpc K N X && finL (menR X K) (N 0)
set_option maxRecDepth 100000 in
set_option maxHeartbeats 1600000 in
theorem specMen_any (xa : Option Addr) (K cap : Nat) (N : Nat → Nat) (X : Nat → Nat → Nat) (w : World) (hX : RdR w xa K N X) (h : K + totN N K ≤ 1048576) (ok : Bool) (ho : Hid (ok = okMen K N X)) (m : Nat) (hm : Hid (m = if ok = true then N 0 else 0)) :
    Calls Try.prog 16 #[.slice xa K cap] w (LstRet (menR X K) m ok w) := by
  cases hk : okSpc K N X
  · have HT := Lib.hid (fun w hX => specSpc_any xa K cap N X w hX h false (Lib.hid hk.symm))
    have HN := Lib.hid (fun w' (hb : Below w.heap.size w w') => show LstRet (menR X K) m ok w (.returned (.tuple #[.slice none 0 0, .bool false])) w' by
      have e : ok = false := by rw [ho.out, okMen, hk]; rfl
      rw [hm.out, e, if_neg (by simp)]; exact lstNo hb)
    clear hk
    go_enter Try.func16, Try.ntmps16
    go_wp2_with (go_at_call 62; refine (HT.out _ (by exact hX)).mono ?_; rintro e w' ⟨rfl, q, rfl⟩)
    go_ret2
    refine HN.out _ ?_
    (repeat (first | with_reducible exact Below.refl _ _ | with_reducible refine Below.drewN ?_ _ | with_reducible refine Below.setCell ?_ (by simp; try omega) _ | with_reducible refine Below.alloc ?_ (by simp; try omega) _))
  · exact specMen_yes xa K cap N X w hX h hk ok (Lib.hid (by rw [ho.out, okMen, hk]; rfl)) m hm
theorem sum_mix {K : Nat} {N : Nat → Nat} {X : Nat → Nat → Nat} (h : okSpc K N X = true) {j : Nat} (hj : j < N 0) : mixR (fun _ => 1065353216) X K j = sumR X K j := by
  obtain ⟨_, _, hall⟩ := okSpc_at h
  exact dot_ones K fun k hk => finL_at (okLst_at (hall k hk).1).1 j (by rw [(hall k hk).2]; exact hj)
theorem ones_fin (K : Nat) : finL (fun _ => 1065353216) K = true := finL_yes fun _ _ => by decide +kernel
theorem men_ok (K : Nat) (N : Nat → Nat) (X : Nat → Nat → Nat) : (okMix K N X K (fun _ => 1065353216) && finL (mixR (fun _ => 1065353216) X K) (N 0)) = okMen K N X := by
  unfold okMix okMen
  cases hk : okSpc K N X
  · rfl
  · obtain ⟨h1, h8, _⟩ := okSpc_at hk
    have e1 : finL (menR X K) (N 0) = finL (sumR X K) (N 0) := finL_quo h1 h8
    have e2 : finL (mixR (fun _ => 1065353216) X K) (N 0) = finL (sumR X K) (N 0) := finL_like fun j hj => by rw [sum_mix hk hj]
    rw [e1, e2, ones_fin, decide_eq_true rfl]
    simp
set_option maxRecDepth 100000 in
set_option maxHeartbeats 1600000 in
theorem implMen_any (xa : Option Addr) (K cap : Nat) (N : Nat → Nat) (X : Nat → Nat → Nat) (w : World) (hX : RdR w xa K N X) (h : K + totN N K ≤ 1048576) (ok : Bool) (ho : Hid (ok = okMen K N X)) (m : Nat) (hm : Hid (m = if ok = true then N 0 else 0)) :
    Calls Try.prog 18 #[.slice xa K cap] w (LstRet (menR X K) m ok w) := by
  have hb0 : Below w.heap.size w (w.alloc (.cells #[.float .f32 1065353216] 43)) := Below.alloc (Below.refl _ _) (Nat.le_refl _) _
  have HR := Lib.hid (fun (xa : Option Addr) cx w hX => repF_any xa cx 1065353216 K w hX (by omega))
  have HM := Lib.hid (fun (sa : Option Addr) cs w hX hS => implMix_any xa K cap N X sa K cs (fun _ => 1065353216) w hX hS h (by omega) ok (Lib.hid (by rw [ho.out, men_ok])) m hm)
  have HK := Lib.hid (show ok = true → okSpc K N X = true from fun e => by
    have := ho.out
    rw [e, okMen] at this
    cases hk : okSpc K N X
    · rw [hk] at this; cases this
    · rfl)
  have HL := Lib.hid (show ok = true → m = N 0 from fun e => by rw [hm.out, if_pos e])
  have HZ := Lib.hid (fun (e : ok = false) w' (hb : Below w.heap.size w w') => show LstRet (menR X K) m false w (.returned (.tuple #[.slice none 0 0, .bool false])) w' by
    rw [hm.out, e, if_neg (by simp)]; exact lstNo hb)
  have hK : (K : Int) ≤ 1048576 := by omega
  clear h ho hm
  go_enter Try.func18, Try.ntmps18
  go_wp2_with fail
  refine (HR.out _ _ _ (by exact rd_one' _ _ _ (by simp))).mono ?_
  rintro e w1 ⟨v, rfl, hown, B1⟩
  have B1' := hb0.trans (B1.mono hb0.size)
  obtain ⟨sa, cs, rfl, _, _, hS⟩ := rd_of_own hown
  go_wp2_with fail
  refine (HM.out _ _ _ (by exact hX.below B1') (by exact hS)).mono ?_
  rintro e w2 ⟨v0, Y0, rfl, O0, L0, hmm, B2⟩
  have B2' := B1'.trans (B2.mono B1'.size)
  have O0' := own_mono0 O0 B1'.size
  obtain ⟨x0, c0, rfl, _, _, R0⟩ := rd_of_own O0
  cases ok
  · go_wp2
    go_ret2
    exact HZ.out (by first | rfl | trivial) _ B2'
  · have hk := HK.out rfl
    have hmN := HL.out rfl
    obtain ⟨d, hd⟩ : ∃ d, d = floatOfInt .f32 (K : Int) := ⟨_, rfl⟩
    have hpk : pick .f32 d 0 = d := by rw [hd]; exact pick_num (fin_nan (cnt_fin (okSpc_at hk).1 (okSpc_at hk).2.1)) 0
    have HD := Lib.hid hpk
    have HE := Lib.hid hd
    have HY := Lib.hid (show ∀ Z : Nat → Nat, LikeP Z (divR Y0 d) m → Like Z (menR X K) m from fun Z hZ j hj => by
      rw [(LikeP.like hZ) j hj, show divR Y0 d j = fbin .quo .f32 (Y0 j) d from rfl, fbin_congr (L0 j hj) rfl, sum_mix hk (by rw [← hmN]; exact hj), hd]
      rfl)
    clear hk hmN hpk hd L0
    go_wp2_with fail
    rw [← HE.out, ← HD.out]
    refine (div_any _ _ _ Y0 d 0 _ (by exact R0) hmm).mono ?_
    rintro e w3 ⟨v3, Z3, rfl, O3, L3, B3⟩
    have B3' := B2'.trans (B3.mono B2'.size)
    have O3' := own_mono0 O3 B2'.size
    go_wp2
    go_ret2
    exact lstYes (HY.out _ L3) O3' hmm B3'
end Go.Proofs.Ytbblohjldkpcnab
