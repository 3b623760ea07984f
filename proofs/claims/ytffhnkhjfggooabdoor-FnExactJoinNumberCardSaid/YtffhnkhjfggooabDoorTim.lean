/- A number taken as a factor: as the model counts its primes. -/
import Derived.Test.YtffhnkhjfggooabDoorPrm
namespace Go.Proofs.YtffhnkhjfggooabDoor
open Go Go.ChangeShapes Go.WideShapes Go.ChangeAt Go.RowKit

/-- The counts lie at the primes themselves. -/
def addS (C : Nat → Int) (t : Int) (n : Nat) : Nat → Nat → Int
  | 0 => C
  | k + 1 => fun q => if q = pr k then addS C t n k q + t * (expX n k : Int) else addS C t n k q
/-- While the k-th prime is taken out: d times so far. -/
def midS (C : Nat → Int) (t : Int) (n k d : Nat) : Nat → Int := fun q => if q = pr k then addS C t n k q + t * (d : Int) else addS C t n k q
theorem midS_zero (C : Nat → Int) (t : Int) (n k : Nat) : midS C t n k 0 = addS C t n k := by
  funext q
  unfold midS
  split <;> simp
theorem midS_end (C : Nat → Int) (t : Int) (n k : Nat) : midS C t n k (expX n k) = addS C t n (k + 1) := rfl
theorem times_rng {t : Int} {d : Nat} (ht : -2 ≤ t) (ht' : t ≤ 2) (hd : d ≤ 62) : -124 ≤ t * (d : Int) ∧ t * (d : Int) ≤ 124 := by
  rcases (by omega : t = -2 ∨ t = -1 ∨ t = 0 ∨ t = 1 ∨ t = 2) with rfl | rfl | rfl | rfl | rfl <;> omega
/-- Counts that are not great. -/
def Small (C : Nat → Int) (N : Nat) (K : Int) : Prop := ∀ q, q < N → -K ≤ C q ∧ C q ≤ K
theorem addS_rng {C : Nat → Int} {t K : Int} {n N : Nat} (ht : -2 ≤ t) (ht' : t ≤ 2) (hC : Small C N K) (k q : Nat) (hq : q < N) : -K - 124 * (k : Int) ≤ addS C t n k q ∧ addS C t n k q ≤ K + 124 * (k : Int) := by
  induction k with
  | zero => have := hC q hq; simp only [addS]; omega
  | succ k ih =>
    have h := times_rng ht ht' (expX_le n k)
    simp only [addS]
    split <;> omega
theorem addS_small {C : Nat → Int} {t K : Int} {n N : Nat} (ht : -2 ≤ t) (ht' : t ≤ 2) (hC : Small C N K) : Small (addS C t n 6) N (K + 744) := fun q hq => by
  have := addS_rng (n := n) ht ht' hC 6 q hq
  omega
theorem times_next (a t : Int) (d : Nat) : a + t * (d : Int) + t = a + t * ((d + 1 : Nat) : Int) := by
  rw [Int.natCast_add, Int.mul_add]
  omega
def primesI (i : Nat) : Int := (pr i : Int)
theorem rdI_primes (w : World) (t : TypeId) : RdI (w.alloc (.cells #[.int .i64 2, .int .i64 3, .int .i64 5, .int .i64 7, .int .i64 11, .int .i64 13] t)) (some ⟨w.heap.size, 0, none⟩) 6 primesI := by
  refine ⟨w.heap.size, 0, fun _ => rfl, fun i hi => ?_⟩
  rw [Nat.zero_add, World.cell?_alloc_new]
  rcases (by omega : i = 0 ∨ i = 1 ∨ i = 2 ∨ i = 3 ∨ i = 4 ∨ i = 5) with rfl | rfl | rfl | rfl | rfl | rfl <;> rfl
set_option maxRecDepth 100000 in
set_option maxHeartbeats 3200000 in
theorem l03Times_any (g : Nat) (C : Nat → Int) (n : Nat) (t : Int) (w : World) (hE : Exps w g 70 14 C) (h1 : 1 ≤ n) (h2 : n < 2 ^ 62) (ht : -2 ≤ t) (ht' : t ≤ 2) (hC : Small C 14 1000000000) :
    Calls Tryd.prog 65 #[.pointer (some ⟨g, 0, none⟩), .int .i64 (n : Int), .int .i64 t] w fun e w' => (∃ v, e = .returned v) ∧ Exps w' g 70 14 (addS C t n 6) ∧ Only g w w' := by
  have hgl := hE.lt
  have HE := Lib.hid hE
  clear hE
  have HCB := Lib.hid hC
  clear hC
  have hrd := rdI_primes w 2
  obtain ⟨xb, xo, hxa, hcx⟩ := hrd
  obtain ⟨w1, hw1⟩ : ∃ w1, w1 = w.alloc (.cells #[.int .i64 2, .int .i64 3, .int .i64 5, .int .i64 7, .int .i64 11, .int .i64 13] 2) := ⟨_, rfl⟩
  have hE1 : Exps w1 g 70 14 C := by rw [hw1]; exact HE.out.below ((Below.refl _ w).alloc (Nat.le_refl _) _)
  have hO1 : Only g w w1 := by rw [hw1]; exact (Only.refl g w).alloc _
  have hsz : w1.heap.size = w.heap.size + 1 := by rw [hw1]; simp
  have hP : ∀ i, i < 6 → w1.cell? ⟨w.heap.size, i, none⟩ = some (.int .i64 (pr i : Int)) := by
    rw [hw1]
    intro i hi
    have h := hcx i hi
    have e := hxa (by omega)
    simp only [Option.some.injEq, Addr.mk.injEq] at e
    rw [← e.1, ← e.2.1, Nat.zero_add] at h
    exact h
  have HP := Lib.hid hP
  have HE1 := Lib.hid hE1
  have HO1 := Lib.hid hO1
  clear hcx hP hE1 hO1 hxa
  go_enter Tryd.func65, Tryd.ntmps65
  go_wp2
  rw [← hw1]
  clear hw1
  go_loopw [1, 10] (fun nv i wr => ∃ k : Nat, k ≤ 6 ∧ i = .int .i64 (k : Int) ∧ nv = .int .i64 (restT n k : Int) ∧ Exps wr g 70 14 (addS C t n k) ∧ Only g w1 wr) (fun _ i _ => 6 - (intOf i).toNat)
  case atStart => exact ⟨0, Nat.zero_le _, rfl, rfl, HE1.out, Only.refl _ _⟩
  case round =>
    obtain ⟨k, hk, rfl, rfl, hEk, hOk⟩ := hrel
    have HEk := Lib.hid hEk
    have HOk := Lib.hid hOk
    clear hEk hOk
    by_cases hlt : k < 6
    · have hpk : wr.cell? ⟨w.heap.size, k, none⟩ = some (.int .i64 (pr k : Int)) := (HOk.out.cell (a := ⟨w.heap.size, k, none⟩) (by simp only; omega) (by simp only; omega)).trans (HP.out k hlt)
      obtain ⟨r0, r1⟩ := restT_rng n k h1
      have hms := mid_start (p := pr k) r0 (show restT n k < 2 ^ 62 by omega)
      obtain ⟨p2, p13⟩ := pr_two k
      obtain ⟨P, hPd⟩ : ∃ P, P = pr k := ⟨_, rfl⟩
      rw [← hPd] at hpk hms p2 p13
      have HPd := Lib.hid hPd
      clear hPd
      have HMS := Lib.hid hms
      clear hms
      go_wp2
      go_loopw [1] (fun nv wr => ∃ c d : Nat, nv = .int .i64 (c : Int) ∧ Mid P (vp P (restT n k)) (rs P (restT n k)) c d ∧ Exps wr g 70 14 (midS C t n k d) ∧ Only g w1 wr) (fun nv _ => (intOf nv).toNat)
      case atStart => exact ⟨_, 0, rfl, HMS.out, by rw [midS_zero]; exact HEk.out, HOk.out⟩
      case round =>
        obtain ⟨c, d, rfl, hmid, hEd, hOd⟩ := hrel
        have HM := Lib.hid hmid
        have HEd := Lib.hid hEd
        have HOd := Lib.hid hOd
        clear hmid hEd hOd
        have hc1 := HM.out.pos
        have hm : Int.tmod (c : Int) (P : Int) = (c : Int) % (P : Int) := Int.tmod_eq_emod_of_nonneg (by omega)
        have hP0 : (P : Int) ≠ 0 := by omega
        by_cases hz : c % P = 0
        · have ht0 : (((c : Int) % (P : Int)) == 0) = true := by rw [← Int.natCast_emod, hz]; rfl
          have hcl0 := HEd.out.cell (k := P) (by omega)
          have hval : midS C t n k d P = addS C t n k P + t * (d : Int) := by unfold midS; rw [if_pos HPd.out]
          rw [hval] at hcl0
          obtain ⟨A, hA⟩ : ∃ A, A = addS C t n k P := ⟨_, rfl⟩
          obtain ⟨D, hD⟩ : ∃ D, D = t * (d : Int) := ⟨_, rfl⟩
          have hAr := addS_rng (n := n) ht ht' HCB.out k P (by omega)
          have hDr := times_rng ht ht' HM.out.dle
          rw [← hA, ← hD] at hcl0
          rw [← hA] at hAr
          rw [← hD] at hDr
          obtain ⟨a0, a1⟩ := hAr
          obtain ⟨b0, b1⟩ := hDr
          have hfz := HEd.out.frozen (k := P)
          have HN := Lib.hid (mid_step HM.out p2 (vpF_le _ _ _) hz)
          have HV := Lib.hid (show (fun j => if j = P then A + D + t else midS C t n k d j) = midS C t n k (d + 1) by
            funext j
            unfold midS
            by_cases hj : j = P
            · rw [if_pos hj, if_pos (hj.trans HPd.out), hA, hD, times_next, hj]
            · rw [if_neg hj, if_neg (fun e => hj (e.trans HPd.out.symm)), if_neg (fun e => hj (e.trans HPd.out.symm))])
          have hq3 : c / P < c := Nat.div_lt_self (by omega) (by omega)
          have hc2 := HM.out.cle
          have hq4 : 0 ≤ (c : Int) / (P : Int) := Int.ediv_nonneg (by omega) (by omega)
          have hq5 : (c : Int) / (P : Int) ≤ 4611686018427387904 := Int.le_trans (Int.ediv_le_self _ (by omega)) (by omega)
          clear hval hA hD
          go_wp2_with fail
          go_region
          all_goals go_wp2
          all_goals go_roundw
          case rel => exact ⟨c / P, d + 1, by rw [Int.natCast_ediv], HN.out, by have h := HEd.out.stored P (A + D + t); rw [HV.out] at h; exact h, Only.drew (HOd.out.setCell P _) 1⟩
          case measure => rw [← Int.natCast_ediv]; simp only [intOf, Int.toNat_natCast]; exact hq3
        · have ht0 : (((c : Int) % (P : Int)) == 0) = false := by
            rw [← Int.natCast_emod, beq_eq_false_iff_ne]
            omega
          obtain ⟨hd, hcr⟩ := mid_end HM.out hz
          have hEe : Exps wr g 70 14 (addS C t n (k + 1)) := by
            rw [← midS_end]
            have e : expX n k = d := by rw [hd, HPd.out]; rfl
            rw [e]
            exact HEd.out
          have hce : (c : Int) = (restT n (k + 1) : Int) := by rw [hcr, HPd.out]; rfl
          have HEe := Lib.hid hEe
          have HCE := Lib.hid hce
          clear hEe hce hd hcr
          go_wp2
          go_roundw
          case rel => exact ⟨k + 1, by omega, by go_num, by rw [HCE.out], HEe.out, HOd.out⟩
          case measure => simp [intOf]; omega
    · obtain rfl : k = 6 := by omega
      go_wp2
      go_end0
      exact ⟨⟨_, rfl⟩, HEk.out, HO1.out.trans HOk.out⟩
/-- The counts when a factorial is taken. -/
def facS (C : Nat → Int) (t : Int) : Nat → Nat → Int
  | 0 => C
  | 1 => C
  | m + 2 => addS (facS C t (m + 1)) t (m + 2) 6
theorem facS_succ (C : Nat → Int) (t : Int) (m : Nat) (h : 1 ≤ m) : facS C t (m + 1) = addS (facS C t m) t (m + 1) 6 := by
  obtain ⟨j, rfl⟩ : ∃ j, m = j + 1 := ⟨m - 1, by omega⟩
  rfl
theorem facS_small {C : Nat → Int} {t K : Int} (ht : -2 ≤ t) (ht' : t ≤ 2) {N : Nat} (hC : Small C N K) (m : Nat) : Small (facS C t m) N (K + 744 * m) := by
  induction m with
  | zero => intro q hq; have := hC q hq; simp only [facS]; omega
  | succ m ih =>
    by_cases h : 1 ≤ m
    · rw [facS_succ _ _ _ h]
      intro q hq
      have := addS_small (n := m + 1) ht ht' ih q hq
      omega
    · obtain rfl : m = 0 := by omega
      intro q hq
      have := hC q hq
      simp only [facS]
      omega
set_option maxHeartbeats 1600000 in
theorem l03Factorial_any (g : Nat) (C : Nat → Int) (n : Nat) (t : Int) (w : World) (hE : Exps w g 70 14 C) (h2 : n ≤ 100) (ht : -2 ≤ t) (ht' : t ≤ 2) (hC : Small C 14 900000000) :
    Calls Tryd.prog 48 #[.pointer (some ⟨g, 0, none⟩), .int .i64 (n : Int), .int .i64 t] w fun e w' => (∃ v, e = .returned v) ∧ Exps w' g 70 14 (facS C t n) ∧ Only g w w' := by
  have HE := Lib.hid hE
  have HC := Lib.hid hC
  clear hE hC
  go_enter Tryd.func48, Tryd.ntmps48
  go_wp2
  go_loopw [6] (fun i wr => ∃ k : Nat, k ≤ n ∧ (1 ≤ k ∨ n = 0) ∧ (i = .int .i64 ((k : Int) + 1) ∨ (n = 0 ∧ i = .int .i64 2)) ∧ Exps wr g 70 14 (facS C t k) ∧ Only g w wr) (fun i _ => n + 2 - (intOf i).toNat)
  case atStart => 
    by_cases hn : n = 0
    · exact ⟨0, by omega, .inr hn, .inr ⟨hn, rfl⟩, HE.out, Only.refl _ _⟩
    · exact ⟨1, by omega, .inl (Nat.le_refl _), .inl rfl, HE.out, Only.refl _ _⟩
  case round =>
    obtain ⟨k, hk, hk1, hi, hEk, hOk⟩ := hrel
    have HEk := Lib.hid hEk
    have HOk := Lib.hid hOk
    clear hEk hOk
    by_cases hlt : k < n
    · obtain rfl : u6 = .int .i64 ((k : Int) + 1) := by
        rcases hi with h | h
        · exact h
        · omega
      clear hi
      have hk0 : 1 ≤ k := by omega
      have hle : (k : Int) + 1 ≤ (n : Int) := by omega
      go_wp2_with fail
      refine (l03Times_any g (facS C t k) (k + 1) t _ HEk.out (by omega) (by omega) ht ht' (fun q hq => by have := facS_small ht ht' HC.out k q hq; omega)).mono ?_
      rintro e w' ⟨⟨v, rfl⟩, hE', hO'⟩
      go_wp2
      go_roundw
      case rel => exact ⟨k + 1, by omega, .inl (by omega), .inl (by go_num), by rw [facS_succ _ _ _ hk0]; exact hE', HOk.out.trans hO'⟩
      case measure => simp [intOf]; omega
    · have hkn : k = n := by omega
      subst hkn
      rcases hi with rfl | ⟨h0, rfl⟩
      · go_wp2
        go_end0
        exact ⟨⟨_, rfl⟩, HEk.out, HOk.out⟩
      · subst h0
        go_wp2
        go_end0
        exact ⟨⟨_, rfl⟩, HEk.out, HOk.out⟩
end Go.Proofs.YtffhnkhjfggooabDoor
