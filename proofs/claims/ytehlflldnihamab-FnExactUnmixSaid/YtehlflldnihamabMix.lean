/- Mixtures: as the model makes them. -/
import Derived.Test.YtehlflldnihamabSpc
import Derived.Test.YtehlflldnihamabGiv
import Derived.Test.YtehlflldnihamabRo
namespace Go.Proofs.Ytehlflldnihamab
open Go Go.ChangeShapes Go.WideShapes Go.ChangeAt Go.RowKit

/-- The mixture of K rows by shares S. -/
def mixR (S : Nat → Nat) (X : Nat → Nat → Nat) (K j : Nat) : Nat := dotW S (fun k => X k j) K
theorem RdR.row {w : World} {xb xo K i : Nat} {N : Nat → Nat} {X : Nat → Nat → Nat} (h : RdR w (some ⟨xb, xo, none⟩) K N X) (hi : i < K) : ∃ a c, w.cell? ⟨xb, xo + i, none⟩ = some (.slice a (N i) c) ∧ N i ≤ c ∧ Rd w a (N i) (X i) := by
  obtain ⟨yb, yo, h1, h2⟩ := h
  have e := h1 (by omega)
  cases e
  exact h2 i hi
theorem Rd.at {w : World} {a : Option Addr} {n : Nat} {X : Nat → Nat} (h : Rd w a n X) (hn : 0 < n) : ∃ b o, a = some ⟨b, o, none⟩ ∧ ∀ i, i < n → w.cell? ⟨b, o + i, none⟩ = some (.float .f32 (X i)) := by
  obtain ⟨b, o, h1, h2⟩ := h
  exact ⟨b, o, h1 hn, h2⟩
/-- Where the rows lie. -/
theorem RdR.lay {w : World} {xb xo K n : Nat} {N : Nat → Nat} {X : Nat → Nat → Nat} (h : RdR w (some ⟨xb, xo, none⟩) K N X) (hN : ∀ k, k < K → N k = n) (h0 : 0 < n) :
    ∃ (b o c : Nat → Nat), ∀ w', Below w.heap.size w w' → ∀ k, k < K → w'.cell? ⟨xb, xo + k, none⟩ = some (.slice (some ⟨b k, o k, none⟩) n (c k)) ∧ ∀ j, j < n → w'.cell? ⟨b k, o k + j, none⟩ = some (.float .f32 (X k j)) := by
  have key : ∀ k, k < K → ∃ q : Nat × Nat × Nat, w.cell? ⟨xb, xo + k, none⟩ = some (.slice (some ⟨q.1, q.2.1, none⟩) n q.2.2) ∧ ∀ j, j < n → w.cell? ⟨q.1, q.2.1 + j, none⟩ = some (.float .f32 (X k j)) := fun k hk => by
    obtain ⟨a, c, h1, _, h2⟩ := RdR.row h hk
    rw [hN k hk] at h1 h2
    obtain ⟨b, o, rfl, h3⟩ := h2.at h0
    exact ⟨(b, o, c), h1, h3⟩
  obtain ⟨Q, hQ⟩ := Deep.choose_lt (α := Nat × Nat × Nat) (n := K) (p := fun k q => w.cell? ⟨xb, xo + k, none⟩ = some (.slice (some ⟨q.1, q.2.1, none⟩) n q.2.2) ∧ ∀ j, j < n → w.cell? ⟨q.1, q.2.1 + j, none⟩ = some (.float .f32 (X k j))) key
  refine ⟨fun k => (Q k).1, fun k => (Q k).2.1, fun k => (Q k).2.2, fun w' hb k hk => ?_⟩
  obtain ⟨h1, h2⟩ := hQ k hk
  exact ⟨(hb.cell (p := ⟨xb, xo + k, none⟩) (World.block_lt_of_cell? w _ h1)).trans h1, fun j hj => (hb.cell (p := ⟨(Q k).1, (Q k).2.1 + j, none⟩) (World.block_lt_of_cell? w _ (h2 j hj))).trans (h2 j hj)⟩
set_option maxRecDepth 100000 in
set_option maxHeartbeats 3200000 in
theorem l07Mix_any (xa : Option Addr) (K cap : Nat) (N : Nat → Nat) (X : Nat → Nat → Nat) (sa : Option Addr) (cs : Nat) (S : Nat → Nat) (w : World) (hX : RdR w xa K N X) (hS : Rd w sa K S) (hk : okSpc K N X = true) (hfs : finL S K = true) :
    Calls Try.prog 134 #[.slice xa K cap, .slice sa K cs] w fun e w' => ∃ v Z, e = .returned v ∧ w'.ownsRow w.heap.size 43 1 v (N 0) (rowOf Z (N 0)) ∧ Like Z (mixR S X K) (N 0) ∧ Below w.heap.size w w' := by
  obtain ⟨i0, hi, hz0, hz1, hz2⟩ := info_parts infoF
  obtain ⟨hK1, hK8, hall⟩ := okSpc_at hk
  have HA := Lib.hid hall
  obtain ⟨n, hn⟩ : ∃ n, n = N 0 := ⟨_, rfl⟩
  have hn128 : 1 ≤ n ∧ n ≤ 128 := by have := okLst_at (hall 0 (by omega)).1; omega
  have hX0 := hX
  obtain ⟨xb, xo, hxa, _⟩ := hX
  have e := hxa (by omega)
  subst e
  obtain ⟨sb, so, hsa, hcs⟩ := hS
  have e := hsa (by omega)
  subst e
  have HX := Lib.hid (show ∀ w', Below w.heap.size w w' → ∀ k, k < K → ∃ b o c, w'.cell? ⟨xb, xo + k, none⟩ = some (.slice (some ⟨b, o, none⟩) n c) ∧ ∀ j, j < n → w'.cell? ⟨b, o + j, none⟩ = some (.float .f32 (X k j)) from fun w' hb k hk => by
    obtain ⟨a, c, h1, _, h2⟩ := RdR.row (RdR.below hX0 hb) hk
    rw [(HA.out k hk).2, ← hn] at h1 h2
    obtain ⟨b, o, rfl, h3⟩ := h2.at (by omega)
    exact ⟨b, o, c, h1, h3⟩)
  have HS := Lib.hid (show ∀ w', Below w.heap.size w w' → ∀ k, k < K → w'.cell? ⟨sb, so + k, none⟩ = some (.float .f32 (S k)) from fun w' hb k hk =>
    (hb.cell (p := ⟨sb, so + k, none⟩) (World.block_lt_of_cell? w _ (hcs k hk))).trans (hcs k hk))
  have HFS := Lib.hid (finL_at hfs)
  have HFX := Lib.hid (show ∀ k, k < K → ∀ j, j < n → isFin .f32 (X k j) = true from fun k hk j hj => finL_at (okLst_at (HA.out k hk).1).1 j (by rw [(HA.out k hk).2, ← hn]; exact hj))
  obtain ⟨b0, o0, c0, h0, _⟩ := HX.out w (Below.refl _ _) 0 (by omega)
  rw [Nat.add_zero] at h0
  have h0' : ∀ o, (w.alloc o).cell? ⟨xb, xo, none⟩ = some (.slice (some ⟨b0, o0, none⟩) n c0) := fun o => by
    have := HX.out (w.alloc o) (Below.alloc (Below.refl _ _) (Nat.le_refl _) o) 0 (by omega)
    have hb : Below w.heap.size w (w.alloc o) := Below.alloc (Below.refl _ _) (Nat.le_refl _) o
    exact (hb.cell (p := ⟨xb, xo, none⟩) (World.block_lt_of_cell? w _ h0)).trans h0
  have hi1 : (0 : Int) < (K : Int) := by omega
  have hi2 : 0 < K := by omega
  rw [← hn]
  clear hX0 hall hxa hsa hcs hk hfs hn
  go_enter Try.func134, Try.ntmps134
  go_wp2
  go_loopw [5, 14] (fun v i wr => ∃ (c : Nat) (Z : Nat → Nat), c ≤ n ∧ i = .int .i64 (c : Int) ∧ wr.ownsRow w.heap.size 43 1 v c (rowOf Z c) ∧ Like Z (mixR S X K) c ∧ Below w.heap.size w wr) (fun _ i _ => n - (intOf i).toNat)
  case atStart => exact ⟨0, fun _ => 0, Nat.zero_le _, rfl, own_empty w _, fun _ h => absurd h (Nat.not_lt_zero _), Below.alloc (Below.refl _ _) (Nat.le_refl _) _⟩
  case round =>
    obtain ⟨c, Z, hc, rfl, hownk, hL, hBk⟩ := hrel
    have hsz := hBk.size
    clear h0 h0'
    by_cases hltc : c < n
    · obtain ⟨wu, hwu⟩ : ∃ wu, wu = wr := ⟨_, rfl⟩
      subst hwu
      obtain ⟨F, hF⟩ : ∃ F : Nat → Nat, F = fun k => X k c := ⟨_, rfl⟩
      have HF := Lib.hid hF
      have HU := Lib.hid (show mixR S X K c = dotW S F K by rw [hF]; rfl)
      clear hF
      go_wp2
      go_loopw [7, 19] (fun q i wr => ∃ (k mm s : Nat), k ≤ K ∧ i = .int .i64 (k : Int) ∧ q = .float .f32 (pick .f32 (dotW S F k) s) ∧ wr = wu.drewN mm) (fun _ i _ => K - (intOf i).toNat)
      case atStart => exact ⟨0, 0, 0, by omega, rfl, by rw [show dotW S F 0 = 0 from rfl, pick_zero], rfl⟩
      case round =>
        obtain ⟨k, mm, s, hk, rfl, rfl, hwr⟩ := hrel
        by_cases hkK : k < K
        · have HZ := Lib.hid hwr
          have hBw : Below w.heap.size w wr := by rw [hwr]; exact Below.drewN hBk mm
          obtain ⟨b, o, cc, h1, h2⟩ := HX.out wr hBw k hkK
          have h3 := h2 c hltc
          have h4 := HS.out wr hBw k hkK
          have hb1 : (k : Int) < (K : Int) := by omega
          have hb2 : (c : Int) < (n : Int) := by omega
          have hd := dotW_succ S F k
          have hfk : F k = X k c := by rw [HF.out]
          rw [hfk] at hd
          obtain ⟨P, hP⟩ : ∃ P, P = fbin .mul .f32 (S k) (X k c) := ⟨_, rfl⟩
          have nP : isNaN .f32 P = false := by rw [hP]; exact nan_mul (HFS.out k hkK) (HFX.out k hkK c hltc)
          have q1 := fun t => run_numop (op := .mul) rfl t _ _ _ hP.symm nP
          rw [← hP] at hd
          have hp := fbin_pick_l .add .f32
          obtain ⟨D, hD⟩ : ∃ D, D = dotW S F k := ⟨_, rfl⟩
          rw [← hD] at hd
          have HD := Lib.hid hD
          have HE := Lib.hid hd
          rw [← HD.out]
          clear hD hd hfk hP hwr hBw h2
          go_wp2_with fail
          go_still_tail 13, (by kernel_rfl)
          change wpList _ _ _ _ _ wr.drew
          have hEw : wr.drew = wr.drewN 1 := rfl
          rw [hEw]
          clear hEw
          go_wp2_with ((with_reducible refine wpL_fbin ?_); refine ⟨_, _, _, rfl, rfl, rfl, fun s n => ?_⟩)
          go_roundw
          case rel => exact ⟨k + 1, _, _, by omega, by go_num, by rw [← HE.out], by rw [HZ.out, World.drewN_drewN]⟩
          case measure => simp [intOf]; omega
        · have hkk : k = K := by omega
          subst hkk
          subst hwr
          obtain ⟨E, hE⟩ : ∃ E, E = dotW S F k := ⟨_, rfl⟩
          have HV := Lib.hid (show mixR S X k c = E by rw [HU.out, ← hE])
          rw [← hE]
          clear hE
          go_wp2_with (at_builtin; refine wpL_push hi hz0 hz1 hz2 rfl rfl rfl rfl (by exact own_drew hownk _) (by omega) (by exact hsz) ?_; intro v' w1 hown' hB')
          go_roundw
          case rel => exact ⟨c + 1, _, by omega, by go_num, hown', like_push hL (by rw [HV.out]), Below.trans (Below.drewN hBk _) hB'⟩
          case measure => simp [intOf]; omega
    · have hck : c = n := by omega
      subst hck
      go_wp2
      go_ret
      exact ⟨_, Z, rfl, hownk, hL, hBk⟩
def okMix (K : Nat) (N : Nat → Nat) (X : Nat → Nat → Nat) (n : Nat) (S : Nat → Nat) : Bool := okSpc K N X && decide ((n : Int) = (K : Int)) && finL S n
set_option maxRecDepth 100000 in
set_option maxHeartbeats 3200000 in
theorem specMix_any (xa : Option Addr) (K cap : Nat) (N : Nat → Nat) (X : Nat → Nat → Nat) (sa : Option Addr) (n cs : Nat) (S : Nat → Nat) (w : World) (hX : RdR w xa K N X) (hS : Rd w sa n S) (h : K + totN N K ≤ 1048576) (_hn : n ≤ 1048576) (ok : Bool) (ho : Hid (ok = (okMix K N X n S && finL (mixR S X K) (N 0)))) (m : Nat) (hm : Hid (m = if ok = true then N 0 else 0)) :
    Calls Try.prog 83 #[.slice xa K cap, .slice sa n cs] w (LstRet (mixR S X K) m ok w) := by
  have HNO := Lib.hid (fun (h : ok = false) w' (hb : Below w.heap.size w w') => show LstRet (mixR S X K) m ok w (.returned (.tuple #[.slice none 0 0, .bool false])) w' by
    rw [hm.out, h, if_neg (by simp)]; exact lstNo hb)
  obtain ⟨t, ht⟩ : ∃ t, t = okSpc K N X := ⟨_, rfl⟩
  have HT := Lib.hid (fun w hX => specSpc_any xa K cap N X w hX h t (Lib.hid ht))
  cases t
  · have HN := Lib.hid (HNO.out (by rw [ho.out, okMix, ← ht]; rfl))
    clear ht
    go_enter Try.func83, Try.ntmps83
    go_wp2_with (go_at_call 59; refine (HT.out _ (by exact hX)).mono ?_; rintro e w' ⟨rfl, q, rfl⟩)
    go_ret2
    refine HN.out _ ?_
    (repeat (first | with_reducible exact Below.refl _ _ | with_reducible refine Below.drewN ?_ _ | with_reducible refine Below.setCell ?_ (by simp; try omega) _ | with_reducible refine Below.alloc ?_ (by simp; try omega) _))
  · by_cases hnK : n = K
    · subst hnK
      have hne : ((n : Int) != (n : Int)) = false := by simp
      have HM := Lib.hid (show ok = (finL S n && finL (mixR S X n) (N 0)) by rw [ho.out, okMix, ← ht, decide_eq_true rfl]; rfl)
      have HMX := Lib.hid (fun (hf : finL S n = true) w hX hS => l07Mix_any xa n cap N X sa cs S w hX hS ht.symm hf)
      have hN0 : N 0 ≤ 1048576 := by have := okSpc_at ht.symm; have := totN_le (N := N) n 0 (by omega); omega
      obtain ⟨sb, so, hsa, hcs⟩ := hS
      have HS := Lib.hid hcs
      clear ht hcs
      go_enter Try.func83, Try.ntmps83
      go_wp2_with (go_at_call 59; refine (HT.out _ (by exact hX)).mono ?_; rintro e w' ⟨rfl, q, rfl⟩)
      go_loopw [19] (fun i wr => ∃ k mm : Nat, k ≤ n ∧ i = .int .i64 k ∧ wr = w.drewN mm ∧ Hid (∀ j, j < k → isFin .f32 (S j) = true)) (fun i _ => n - (intOf i).toNat)
      case atStart => exact ⟨0, _, Nat.zero_le _, rfl, rfl, Lib.hid fun j hj => absurd hj (Nat.not_lt_zero _)⟩
      case round =>
        obtain ⟨k, mm, hk, rfl, rfl, HF⟩ := hrel
        by_cases hlt : k < n
        · have e := hsa (by omega)
          subst e
          have h1 := HS.out k hlt
          cases hf : isFin .f32 (S k)
          · have HN := Lib.hid (HNO.out (by rw [HM.out, finL_no hlt hf]; rfl))
            go_wp2_with (first | (go_at_call 74; refine (l01Finite_any _ _).mono ?_; rintro e w' ⟨rfl, q, rfl⟩))
            go_ret2
            refine HN.out _ ?_
            (repeat (first | with_reducible exact Below.refl _ _ | with_reducible refine Below.drewN ?_ _ | with_reducible refine Below.setCell ?_ (by simp; try omega) _ | with_reducible refine Below.alloc ?_ (by simp; try omega) _))
          · have HN := Lib.hid (show ∀ j, j < k + 1 → isFin .f32 (S j) = true from fun j hj => by
              by_cases hj' : j < k
              · exact HF.out j hj'
              · rw [show j = k by omega]; exact hf)
            go_wp2_with (first | (go_at_call 74; refine (l01Finite_any _ _).mono ?_; rintro e w' ⟨rfl, q, rfl⟩))
            go_roundw
            case rel => exact ⟨k + 1, _, by omega, by go_num, rfl, HN⟩
            case measure => simp [intOf]; omega
        · have hkn : k = n := by omega
          subst hkn
          have hff := finL_yes HF.out
          have HC := Lib.hid (HMX.out hff)
          have HK := Lib.hid (show ok = finL (mixR S X k) (N 0) by rw [HM.out, hff, Bool.true_and])
          have hSr : Rd (w.drewN mm) sa k S := ⟨sb, so, hsa, HS.out⟩
          clear hff
          go_wp2_with fail
          refine (HC.out _ (by exact hX) (by exact hSr)).mono ?_
          rintro e w2 ⟨v, Z, rfl, hown, hL, hB⟩
          have hB' : Below w.heap.size w w2 := Below.trans (Below.drewN (Below.refl _ w) mm) hB
          go_wp2_with fail
          refine (l07Give_any _ _ _ Z _ (by exact hown) hN0).mono ?_
          rintro e w' ⟨rfl, q2, rfl⟩
          have HF2 := Lib.hid (show LstRet (mixR S X k) (if finL (mixR S X k) (N 0) = true then N 0 else 0) (finL (mixR S X k) (N 0)) w = LstRet (mixR S X k) m ok w by rw [hm.out, HK.out])
          have HV := Lib.hid (lstGive (w := w) hL hown hN0 hB')
          clear hL hown
          cases hfz : finL Z (N 0)
          · rw [hfz] at HV
            go_wp2
            go_ret2
            rw [← HF2.out]
            obtain ⟨a, b, h3, h4, h5, h6, h7⟩ := HV.out
            exact ⟨a, b, h3, h4, h5, h6, Below.drewN h7 _⟩
          · rw [hfz] at HV
            go_wp2
            go_ret2
            rw [← HF2.out]
            obtain ⟨a, b, h3, h4, h5, h6, h7⟩ := HV.out
            exact ⟨a, b, h3, h4, h5, h6, Below.drewN h7 _⟩
    · have hne : ((n : Int) != (K : Int)) = true := by simpa using (by omega : ¬ (n : Int) = (K : Int))
      have HN := Lib.hid (HNO.out (by rw [ho.out, okMix, decide_eq_false (show ¬ ((n : Int) = (K : Int)) by omega), Bool.and_false]; rfl))
      clear ht hnK
      go_enter Try.func83, Try.ntmps83
      go_wp2_with (go_at_call 59; refine (HT.out _ (by exact hX)).mono ?_; rintro e w' ⟨rfl, q, rfl⟩)
      go_ret2
      refine HN.out _ ?_
      (repeat (first | with_reducible exact Below.refl _ _ | with_reducible refine Below.drewN ?_ _ | with_reducible refine Below.setCell ?_ (by simp; try omega) _ | with_reducible refine Below.alloc ?_ (by simp; try omega) _))
end Go.Proofs.Ytehlflldnihamab
