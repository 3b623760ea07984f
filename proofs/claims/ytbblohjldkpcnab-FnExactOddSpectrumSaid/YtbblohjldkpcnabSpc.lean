/- Spectra: as the model asks for them, and as the program does. -/
import Derived.Test.YtbblohjldkpcnabRr
import Derived.Test.YtbblohjldkpcnabAlk
namespace Go.Proofs.Ytbblohjldkpcnab
open Go Go.ChangeShapes Go.WideShapes Go.ChangeAt Go.RowKit

def allTwo (K : Nat) (N : Nat → Nat) (X : Nat → Nat → Nat) : Bool := (List.range K).all fun i => okTwo (X i) (N i) (X 0) (N 0)
def okSpc (K : Nat) (N : Nat → Nat) (X : Nat → Nat → Nat) : Bool := decide (1 ≤ K) && decide (K ≤ 8) && allTwo K N X
theorem allTwo_no {K k : Nat} {N : Nat → Nat} {X : Nat → Nat → Nat} (hk : k < K) (h : okTwo (X k) (N k) (X 0) (N 0) = false) : allTwo K N X = false := by
  cases hc : allTwo K N X
  · rfl
  · unfold allTwo at hc
    rw [List.all_eq_true] at hc
    rw [hc k (by simpa using hk)] at h
    cases h
theorem allTwo_yes {K : Nat} {N : Nat → Nat} {X : Nat → Nat → Nat} (h : ∀ k, k < K → okTwo (X k) (N k) (X 0) (N 0) = true) : allTwo K N X = true := by
  unfold allTwo
  rw [List.all_eq_true]
  intro k hk
  exact h k (by simpa using hk)
theorem okSpc_at {K : Nat} {N : Nat → Nat} {X : Nat → Nat → Nat} (h : okSpc K N X = true) : 1 ≤ K ∧ K ≤ 8 ∧ ∀ i, i < K → okLst (X i) (N i) = true ∧ N i = N 0 := by
  unfold okSpc at h
  simp only [Bool.and_eq_true, decide_eq_true_eq] at h
  refine ⟨h.1.1, h.1.2, fun i hi => ?_⟩
  have h2 := h.2
  unfold allTwo at h2
  rw [List.all_eq_true] at h2
  have := okTwo_at (h2 i (by simpa using hi))
  exact ⟨this.1, this.2.2⟩
set_option maxRecDepth 100000 in
set_option maxHeartbeats 1600000 in
theorem specSpc_any (xa : Option Addr) (K cap : Nat) (N : Nat → Nat) (X : Nat → Nat → Nat) (w : World) (hX : RdR w xa K N X) (h : K + totN N K ≤ 1048576) (b : Bool) (hb : Hid (b = okSpc K N X)) :
    Calls Try.prog 62 #[.slice xa K cap] w fun e w' => e = .returned (.bool b) ∧ ∃ q, w' = w.drewN q := by
  obtain ⟨xb, xo, hxa, hcx⟩ := hX
  have HX := Lib.hid hcx
  clear hcx
  go_enter Try.func62, Try.ntmps62
  go_wp2
  go_loopw [6] (fun i wr => ∃ k m : Nat, k ≤ K ∧ i = .int .i64 k ∧ wr = w.drewN m ∧ Hid (∀ j, j < k → okTwo (X j) (N j) (X 0) (N 0) = true)) (fun i _ => K - (intOf i).toNat)
  case atStart => exact ⟨0, 0, Nat.zero_le _, rfl, rfl, Lib.hid fun j hj => absurd hj (Nat.not_lt_zero _)⟩
  case round =>
    obtain ⟨k, m, hk, rfl, rfl, HF⟩ := hrel
    by_cases hlt : k < K
    · have e := hxa (by omega)
      subst e
      obtain ⟨a, c, h1, _, ra⟩ := HX.out k hlt
      obtain ⟨b0, d, h2, _, rb⟩ := HX.out 0 (by omega)
      rw [Nat.add_zero] at h2
      have hNk := totN_le (N := N) K k hlt
      have hN0 := totN_le (N := N) K 0 (by omega)
      have hi0 : (k : Int) < (K : Int) := by omega
      have hi1 : (0 : Int) < (K : Int) := by omega
      have hi2 : 0 < K := by omega
      obtain ⟨wz, hwz⟩ : ∃ wz, wz = w.drewN m := ⟨_, rfl⟩
      have h1' : wz.cell? ⟨xb, xo + k, none⟩ = some (.slice a (N k) c) := by rw [hwz]; exact h1
      have h2' : wz.cell? ⟨xb, xo, none⟩ = some (.slice b0 (N 0) d) := by rw [hwz]; exact h2
      obtain ⟨t, ht⟩ : ∃ t, t = okTwo (X k) (N k) (X 0) (N 0) := ⟨_, rfl⟩
      have HE := Lib.hid (specTwo_any a (N k) c (X k) b0 (N 0) d (X 0) (wz.drewN 1) (by rw [hwz]; exact ra) (by rw [hwz]; exact rb) (by omega) (by omega) t (Lib.hid ht))
      have HWZ := Lib.hid hwz
      rw [← hwz]
      clear ra rb h1 h2 hwz
      cases t
      · have HN := Lib.hid (show false = b by rw [hb.out, okSpc, allTwo_no hlt ht.symm, Bool.and_false])
        clear hb ht
        go_wp2_with fail
        go_still_tail 7, (by kernel_rfl)
        change wpList _ _ _ _ _ wz.drew
        have hEw : wz.drew = wz.drewN 1 := rfl
        rw [hEw]
        clear hEw
        go_wp2_with (go_at_call 71; refine HE.out.mono ?_; rintro e w2 ⟨rfl, q, rfl⟩)
        go_ret
        exact ⟨ret_bool HN.out, m + (1 + q), by rw [HWZ.out, World.drewN_drewN]⟩
      · have HN := Lib.hid (show ∀ j, j < k + 1 → okTwo (X j) (N j) (X 0) (N 0) = true from fun j hj => by
          by_cases hj' : j < k
          · exact HF.out j hj'
          · rw [show j = k by omega]; exact ht.symm)
        clear ht
        go_wp2_with fail
        go_still_tail 7, (by kernel_rfl)
        change wpList _ _ _ _ _ wz.drew
        have hEw : wz.drew = wz.drewN 1 := rfl
        rw [hEw]
        clear hEw
        go_wp2_with (go_at_call 71; refine HE.out.mono ?_; rintro e w2 ⟨rfl, q, rfl⟩)
        go_roundw
        case rel => exact ⟨k + 1, m + (1 + q), by omega, by go_num, by rw [HWZ.out, World.drewN_drewN], HN⟩
        case measure => simp [intOf]; omega
    · have hkn : k = K := by omega
      subst hkn
      have HA := Lib.hid (show b = (decide (1 ≤ k) && decide (k ≤ 8)) by rw [hb.out, okSpc, allTwo_yes HF.out, Bool.and_true])
      clear hb
      by_cases h3 : 1 ≤ k
      · by_cases h4 : k ≤ 8
        · have HQ := Lib.hid (show true = b by rw [HA.out, decide_eq_true h3, decide_eq_true h4]; rfl)
          have d2 : decide ((k : Int) ≤ 8) = true := decide_eq_true (by omega)
          go_wp2
          go_ret
          exact ⟨ret_bool HQ.out, m, rfl⟩
        · have HQ := Lib.hid (show false = b by rw [HA.out, decide_eq_false h4, Bool.and_false])
          have d2 : decide ((k : Int) ≤ 8) = false := decide_eq_false (by omega)
          go_wp2
          go_ret
          exact ⟨ret_bool HQ.out, m, rfl⟩
      · have HQ := Lib.hid (show false = b by rw [HA.out, decide_eq_false h3, Bool.false_and])
        go_wp2
        go_ret
        exact ⟨ret_bool HQ.out, m, rfl⟩
set_option maxRecDepth 100000 in
set_option maxHeartbeats 1600000 in
theorem areSpc1_any (a : Option Addr) (n c : Nat) (Z : Nat → Nat) (xb xo K cap p : Nat) (N : Nat → Nat) (X : Nat → Nat → Nat) (w : World) (hp : w.cell? ⟨p, 0, none⟩ = some (.slice (some ⟨xb, xo, none⟩) K cap)) (hK : 0 < K) (hZ : Rd w a n Z) (hn : n ≤ 1048576)
    (b0 : Option Addr) (d : Nat) (h2 : w.cell? ⟨xb, xo, none⟩ = some (.slice b0 (N 0) d)) (rb : Rd w b0 (N 0) (X 0)) (hn0 : N 0 ≤ 1048576) :
    Calls Try.prog 169 #[.slice a n c, .pointer (some ⟨p, 0, none⟩)] w fun e w' => e = .returned (.bool (!okTwo Z n (X 0) (N 0))) ∧ ∃ m, w' = w.drewN m := by
  obtain ⟨t, ht⟩ : ∃ t, t = okTwo Z n (X 0) (N 0) := ⟨_, rfl⟩
  have HE := Lib.hid (implTwo_any a n c Z b0 (N 0) d (X 0) w hZ rb hn hn0 t (Lib.hid ht))
  rw [← ht]
  have hi1 : (0 : Int) < (K : Int) := by omega
  clear ht
  go_enter Try.func169, Try.ntmps169
  go_wp2_with (go_at_call 131; refine HE.out.mono ?_; rintro e w2 ⟨rfl, q, rfl⟩)
  go_ret
  exact ⟨rfl, _, rfl⟩
set_option maxRecDepth 100000 in
set_option maxHeartbeats 1600000 in
theorem indexSpc_any (xa : Option Addr) (K cap p : Nat) (N : Nat → Nat) (X : Nat → Nat → Nat) (w : World) (hX : RdR w xa K N X) (hK : 0 < K) (h : K + totN N K ≤ 1048576) (hp : w.cell? ⟨p, 0, none⟩ = some (.slice xa K cap)) :
    Calls Try.prog 189 #[.slice xa K cap, .func (.func 169) #[] #[.pointer (some ⟨p, 0, none⟩)]] w
      fun e w' => ∃ r : Int, e = .returned (.int .i64 r) ∧ -1 ≤ r ∧ decide (0 ≤ r) = !allTwo K N X ∧ ∃ m, w' = w.drewN m := by
  obtain ⟨xb, xo, hxa, hcx⟩ := hX
  have e := hxa hK
  subst e
  have HX := Lib.hid hcx
  have HP := Lib.hid hp
  clear hcx hxa hp
  go_enter Try.func189, Try.ntmps189
  go_wp2
  go_loopw [8] (fun i wr => ∃ k m : Nat, k ≤ K ∧ i = .int .i64 k ∧ wr = w.drewN m ∧ Hid (∀ j, j < k → okTwo (X j) (N j) (X 0) (N 0) = true)) (fun i _ => K - (intOf i).toNat)
  case atStart => exact ⟨0, 0, Nat.zero_le _, rfl, rfl, Lib.hid fun j hj => absurd hj (Nat.not_lt_zero _)⟩
  case round =>
    obtain ⟨k, m, hk, rfl, rfl, HF⟩ := hrel
    by_cases hlt : k < K
    · obtain ⟨a, c, h1, _, ra⟩ := HX.out k hlt
      obtain ⟨b0, d, h2, _, rb⟩ := HX.out 0 hK
      rw [Nat.add_zero] at h2
      have hNk := totN_le (N := N) K k hlt
      have hN0 := totN_le (N := N) K 0 (by omega)
      have HE := Lib.hid (areSpc1_any a (N k) c (X k) xb xo K cap p N X (w.drewN m) HP.out hK ra (by omega) b0 d h2 rb (by omega))
      obtain ⟨t, ht⟩ : ∃ t, t = okTwo (X k) (N k) (X 0) (N 0) := ⟨_, rfl⟩
      rw [← ht] at HE
      clear ra rb h2
      cases t
      · have HN := Lib.hid (allTwo_no hlt ht.symm)
        clear ht
        go_wp2_with (go_at_call 169; refine HE.out.mono ?_; rintro e w' ⟨rfl, q, rfl⟩)
        go_ret
        exact ⟨k, rfl, by omega, by rw [HN.out]; simp, _, rfl⟩
      · have HN := Lib.hid (show ∀ j, j < k + 1 → okTwo (X j) (N j) (X 0) (N 0) = true from fun j hj => by
          by_cases hj' : j < k
          · exact HF.out j hj'
          · rw [show j = k by omega]; exact ht.symm)
        clear ht
        go_wp2_with (go_at_call 169; refine HE.out.mono ?_; rintro e w' ⟨rfl, q, rfl⟩)
        go_roundw
        case rel => exact ⟨k + 1, _, by omega, by go_num, rfl, HN⟩
        case measure => simp [intOf]; omega
    · have hkn : k = K := by omega
      subst hkn
      have HN := Lib.hid (allTwo_yes HF.out)
      go_wp2
      go_ret
      exact ⟨-1, rfl, by omega, by rw [HN.out]; simp, m, rfl⟩
set_option maxRecDepth 100000 in
set_option maxHeartbeats 1600000 in
theorem implSpc_any (xa : Option Addr) (K cap : Nat) (N : Nat → Nat) (X : Nat → Nat → Nat) (w : World) (hX : RdR w xa K N X) (h : K + totN N K ≤ 1048576) (b : Bool) (hb : Hid (b = okSpc K N X)) :
    Calls Try.prog 126 #[.slice xa K cap] w fun e w' => e = .returned (.bool b) ∧ Below w.heap.size w w' := by
  by_cases h3 : 1 ≤ K
  · by_cases h4 : K ≤ 8
    · have d2 : decide ((8 : Int) < (K : Int)) = false := decide_eq_false (by omega)
      have HB := Lib.hid (show allTwo K N X = b by rw [hb.out, okSpc, decide_eq_true h3, decide_eq_true h4, Bool.true_and, Bool.true_and])
      clear hb
      go_enter Try.func126, Try.ntmps126
      go_wp2_with (first | (go_at_call 189; refine (indexSpc_any _ _ _ _ N X _ (by exact hX.below ((Below.refl _ _).alloc (Nat.le_refl _) _)) (by omega) h (by simp)).mono ?_; rintro e w' ⟨r, rfl, hr, hd, m, rfl⟩) | go_in)
      go_ret
      refine ⟨ret_bool ?_, ?_⟩
      · first | (rw [← HB.out]; done) | (rw [← HB.out]; simp_all)
      · exact Below.drewN (Below.alloc (Below.refl _ _) (Nat.le_refl _) _) _
    · have HB := Lib.hid (show false = b by rw [hb.out, okSpc, decide_eq_false h4, Bool.and_false, Bool.false_and])
      have d2 : decide ((8 : Int) < (K : Int)) = true := decide_eq_true (by omega)
      clear hb
      go_enter Try.func126, Try.ntmps126
      go_wp2
      go_ret
      refine ⟨ret_bool HB.out, ?_⟩
      (repeat (first | with_reducible exact Below.refl _ _ | with_reducible refine Below.drewN ?_ _ | with_reducible refine Below.setCell ?_ (by simp; try omega) _ | with_reducible refine Below.alloc ?_ (by simp; try omega) _))
  · have HB := Lib.hid (show false = b by rw [hb.out, okSpc, decide_eq_false h3, Bool.false_and, Bool.false_and])
    clear hb
    go_enter Try.func126, Try.ntmps126
    go_wp2
    go_ret
    refine ⟨ret_bool HB.out, ?_⟩
    (repeat (first | with_reducible exact Below.refl _ _ | with_reducible refine Below.drewN ?_ _ | with_reducible refine Below.setCell ?_ (by simp; try omega) _ | with_reducible refine Below.alloc ?_ (by simp; try omega) _))
end Go.Proofs.Ytbblohjldkpcnab
