/- The sign of a sum, and its square times a product of primes: as the model tells them. -/
import Derived.Test.YtffhnkhjfggooabDoorTim
namespace Go.Proofs.YtffhnkhjfggooabDoor
open Go Go.ChangeShapes Go.WideShapes Go.ChangeAt Go.RowKit

/-- What the numbers below q make together, each as often as it is counted. -/
def upQ (C : Nat → Int) : Nat → Nat
  | 0 => 1
  | q + 1 => upQ C q * q ^ (C q).toNat
def loQ (C : Nat → Int) : Nat → Nat := upQ fun q => -C q
theorem loQ_succ (C : Nat → Int) (q : Nat) : loQ C (q + 1) = loQ C q * q ^ (-C q).toNat := rfl
/-- Part of a power. -/
theorem pow_part {b q d m B : Nat} (hd : d ≤ m) (hq : q ≤ 1 → m = 0) (h : b * q ^ m ≤ B) : b * q ^ d ≤ B := by
  by_cases h1 : q ≤ 1
  · have := hq h1
    obtain rfl : d = m := by omega
    exact h
  · exact Nat.le_trans (Nat.mul_le_mul_left _ (Nat.pow_le_pow_right (by omega) hd)) h
theorem pow_next (b q d : Nat) : ((b * q ^ d : Nat) : Int) * (q : Int) = ((b * q ^ (d + 1) : Nat) : Int) := by
  rw [Nat.pow_succ, ← Nat.mul_assoc, Int.natCast_mul (b * q ^ d) q]
def sgnI (s : Int) : Int := if s < 0 then -1 else 1
/-- What the bounds ask of the counts. -/
structure FitS (C : Nat → Int) (r : Nat) : Prop where
  small : Small C 14 1000
  few : ∀ q, q ≤ 1 → C q = 0
  up : ∀ q, q ≤ 14 → r * r * upQ C q ≤ 100000000000000000
  lo : ∀ q, q ≤ 14 → loQ C q ≤ 100000000000000000
/-- The model's sign and square. -/
def sqS (C : Nat → Int) (s : Int) : Int × Int × Int :=
  if s = 0 then (0, 0, 1) else (sgnI s, ((restT s.natAbs 6 * restT s.natAbs 6 * upQ (addS C 2 s.natAbs 6) 14 : Nat) : Int), (loQ (addS C 2 s.natAbs 6) 14 : Int))
/-- What is left of a number when the primes are taken out: the walk of both loops. -/
def SqRet (C : Nat → Int) (s : Int) (g : Nat) (w : World) (e : Ending) (w' : World) : Prop :=
  e = .returned (.tuple #[.int .i64 (sqS C s).1, .int .i64 (sqS C s).2.1, .int .i64 (sqS C s).2.2]) ∧ Only g w w'
theorem sq_zero (g : Nat) (C : Nat → Int) (w : World) : Calls Tryd.prog 50 #[.pointer (some ⟨g, 0, none⟩), .int .i64 0] w (SqRet C 0 g w) := by
  go_enter Tryd.func50, Tryd.ntmps50
  go_wp2
  go_ret3
  exact ⟨rfl, Only.refl _ _⟩
set_option maxRecDepth 100000 in
set_option maxHeartbeats 6400000 in
theorem sq_some (g : Nat) (C : Nat → Int) (s : Int) (w : World) (hE : Exps w g 70 14 C) (hC : Small C 14 900000000) (hs0 : s ≠ 0) (hs1 : -1000000 ≤ s) (hs2 : s ≤ 1000000) (hF : FitS (addS C 2 s.natAbs 6) (restT s.natAbs 6)) :
    Calls Tryd.prog 50 #[.pointer (some ⟨g, 0, none⟩), .int .i64 s] w (SqRet C s g w) := by
  have hgl := hE.lt
  have HR := Lib.hid (show sqS C s = (sgnI s, ((restT s.natAbs 6 * restT s.natAbs 6 * upQ (addS C 2 s.natAbs 6) 14 : Nat) : Int), (loQ (addS C 2 s.natAbs 6) 14 : Int)) by unfold sqS; rw [if_neg hs0])
  obtain ⟨n, hn⟩ : ∃ n, n = s.natAbs := ⟨_, rfl⟩
  rw [← hn] at HR hF
  have h1 : 1 ≤ n := by omega
  have h2 : n ≤ 1000000 := by omega
  have h3 : n < 2 ^ 62 := by omega
  have HE := Lib.hid hE
  have HC := Lib.hid hC
  have HF := Lib.hid hF
  clear hE hC hF
  have HSG0 := Lib.hid (show (s < 0 → sgnI s = -1) ∧ (¬ s < 0 → sgnI s = 1) from ⟨fun h => by unfold sgnI; rw [if_pos h], fun h => by unfold sgnI; rw [if_neg h]⟩)
  have hcase : s = (n : Int) ∨ s = -(n : Int) := by omega
  clear hn hs0 hs1 hs2
  obtain ⟨sg, hsg⟩ : ∃ sg, sg = sgnI s := ⟨_, rfl⟩
  rw [← hsg] at HR HSG0
  clear hsg
  obtain ⟨RS, hRS⟩ : ∃ RS, RS = SqRet C s g w := ⟨_, rfl⟩
  have HRS := Lib.hid hRS
  rw [← hRS]
  have HEND := Lib.hid (show ∀ e w', e = .returned (.tuple #[.int .i64 sg, .int .i64 ((restT n 6 * restT n 6 * upQ (addS C 2 n 6) 14 : Nat) : Int), .int .i64 (loQ (addS C 2 n 6) 14 : Int)]) → Only g w w' → RS e w' from fun e w' he ho => by
    rw [hRS]
    refine ⟨?_, ho⟩
    rw [he, HR.out])
  clear hRS HRS HR
  have HSG1 := Lib.hid (show (s < 0 → sg = -1) ∧ (¬ s < 0 → sg = 1) from HSG0.out)
  clear HSG0
  obtain ⟨b, hb⟩ : ∃ b, b = decide (s < 0) := ⟨_, rfl⟩
  rcases hcase with rfl | rfl
  all_goals
    first
      | (have e : sg = 1 := HSG1.out.2 (by omega)
         have d0 : (((n : Int)) == 0) = false := by rw [beq_eq_false_iff_ne]; omega
         have d1 : decide ((n : Int) < 0) = false := decide_eq_false (by omega))
      | (have e : sg = -1 := HSG1.out.1 (by omega)
         have d0 : ((-(n : Int)) == 0) = false := by rw [beq_eq_false_iff_ne]; omega
         have d1 : decide (-(n : Int) < 0) = true := decide_eq_true (by omega))
    subst e
    clear HSG1 hb
    go_enter Tryd.func50, Tryd.ntmps50
    go_wp2_with fail
    refine (l03Times_any g C n 2 _ (by exact HE.out) h1 h3 (by omega) (by omega) (fun q hq => by have := HC.out q hq; omega)).mono ?_
    rintro e w1 ⟨⟨v, rfl⟩, hE1, hO1⟩
    have HE1 := Lib.hid hE1
    have HO1 := Lib.hid hO1
    have hsz1 := hO1.2.2.2.1
    clear hE1 hO1 d0 d1
    have hrd := rdI_primes w1 2
    obtain ⟨xb, xo, hxa, hcx⟩ := hrd
    obtain ⟨w2, hw2⟩ : ∃ w2, w2 = w1.alloc (.cells #[.int .i64 2, .int .i64 3, .int .i64 5, .int .i64 7, .int .i64 11, .int .i64 13] 2) := ⟨_, rfl⟩
    have hE2 : Exps w2 g 70 14 (addS C 2 n 6) := by rw [hw2]; exact HE1.out.below ((Below.refl _ w1).alloc (Nat.le_refl _) _)
    have hO2 : Only g w w2 := by rw [hw2]; exact HO1.out.alloc _
    have hP : ∀ i, i < 6 → w2.cell? ⟨w1.heap.size, i, none⟩ = some (.int .i64 (pr i : Int)) := by
      rw [hw2]
      intro i hi
      have h := hcx i hi
      have e := hxa (by omega)
      simp only [Option.some.injEq, Addr.mk.injEq] at e
      rw [← e.1, ← e.2.1, Nat.zero_add] at h
      exact h
    have HP := Lib.hid hP
    have HE2 := Lib.hid hE2
    have HO2 := Lib.hid hO2
    clear hcx hP hE2 hO2 hxa
    go_wp2
    rw [← hw2]
    clear hw2
    go_loopw [1, 26] (fun nv i wr => ∃ k m : Nat, k ≤ 6 ∧ i = .int .i64 (k : Int) ∧ nv = .int .i64 (restT n k : Int) ∧ wr = w2.drewN m) (fun _ i _ => 6 - (intOf i).toNat)
    case atStart => exact ⟨0, 0, Nat.zero_le _, rfl, rfl, rfl⟩
    case round =>
      obtain ⟨k, m, hk, rfl, rfl, rfl⟩ := hrel
      by_cases hlt : k < 6
      · have hpk : w2.cell? ⟨w1.heap.size, k, none⟩ = some (.int .i64 (pr k : Int)) := HP.out k hlt
        obtain ⟨r0, r1⟩ := restT_rng n k h1
        have hms := mid_start (p := pr k) r0 (show restT n k < 2 ^ 62 by omega)
        obtain ⟨p2, p13⟩ := pr_two k
        obtain ⟨P, hPd⟩ : ∃ P, P = pr k := ⟨_, rfl⟩
        rw [← hPd] at hpk hms p2 p13
        have HPd := Lib.hid hPd
        clear hPd
        have HMS := Lib.hid hms
        clear hms
        go_wp2
        go_loopw [1] (fun nv wr => ∃ c d m' : Nat, nv = .int .i64 (c : Int) ∧ Mid P (vp P (restT n k)) (rs P (restT n k)) c d ∧ wr = w2.drewN m') (fun nv _ => (intOf nv).toNat)
        case atStart => exact ⟨_, 0, m, rfl, HMS.out, rfl⟩
        case round =>
          obtain ⟨c, d, m', rfl, hmid, rfl⟩ := hrel
          have HM := Lib.hid hmid
          clear hmid
          have hc1 := HM.out.pos
          have hm : Int.tmod (c : Int) (P : Int) = (c : Int) % (P : Int) := Int.tmod_eq_emod_of_nonneg (by omega)
          have hP0 : (P : Int) ≠ 0 := by omega
          by_cases hz : c % P = 0
          · have ht0 : (((c : Int) % (P : Int)) == 0) = true := by rw [← Int.natCast_emod, hz]; rfl
            have HN := Lib.hid (mid_step HM.out p2 (vpF_le _ _ _) hz)
            have hq3 : c / P < c := Nat.div_lt_self (by omega) (by omega)
            have hc2 := HM.out.cle
            have hq4 : 0 ≤ (c : Int) / (P : Int) := Int.ediv_nonneg (by omega) (by omega)
            have hq5 : (c : Int) / (P : Int) ≤ 4611686018427387904 := Int.le_trans (Int.ediv_le_self _ (by omega)) (by omega)
            go_wp2
            go_roundw
            case rel => exact ⟨c / P, d + 1, _, by rw [Int.natCast_ediv], HN.out, rfl⟩
            case measure => rw [← Int.natCast_ediv]; simp only [intOf, Int.toNat_natCast]; exact hq3
          · have ht0 : (((c : Int) % (P : Int)) == 0) = false := by
              rw [← Int.natCast_emod, beq_eq_false_iff_ne]
              omega
            obtain ⟨_, hcr⟩ := mid_end HM.out hz
            have HCE := Lib.hid (show (c : Int) = (restT n (k + 1) : Int) by rw [hcr, HPd.out]; rfl)
            clear hcr
            go_wp2
            go_roundw
            case rel => exact ⟨k + 1, _, by omega, by go_num, by rw [HCE.out], rfl⟩
            case measure => simp [intOf]; omega
      · obtain rfl : k = 6 := by omega
        clear hlt hk
        obtain ⟨r0, r1⟩ := restT_rng n 6 h1
        obtain ⟨r, hr⟩ : ∃ r, r = restT n 6 := ⟨_, rfl⟩
        rw [← hr] at r0 r1 HF ⊢
        have HRR := Lib.hid hr
        clear hr
        obtain ⟨E, hEq⟩ : ∃ E, E = addS C 2 n 6 := ⟨_, rfl⟩
        rw [← hEq] at HF HE2
        have HEQ := Lib.hid hEq
        clear hEq
        have hrr0 : 0 ≤ (r : Int) * (r : Int) := Int.mul_nonneg (by omega) (by omega)
        have hrr1 : (r : Int) * (r : Int) ≤ 1000000000000 := Int.mul_le_mul (c := 1000000) (d := 1000000) (by omega) (by omega) (by omega) (by omega)
        have hst : Value.int .i64 ((r : Int) * (r : Int)) = .int .i64 ((r * r * upQ E 0 : Nat) : Int) := by simp [upQ]
        go_wp2
        go_loopw [10, 11, 41] (fun u l i wr => ∃ q m' : Nat, q ≤ 14 ∧ i = .int .i64 (q : Int) ∧ u = .int .i64 ((r * r * upQ E q : Nat) : Int) ∧ l = .int .i64 (loQ E q : Int) ∧ wr = w2.drewN m') (fun _ _ i _ => 14 - (intOf i).toNat)
        case atStart => exact ⟨0, m, Nat.zero_le _, rfl, hst, rfl, rfl⟩
        case round =>
          obtain ⟨q, m', hq, rfl, rfl, rfl, rfl⟩ := hrel
          clear hst hrr0 hrr1
          by_cases hlt : q < 14
          · have hcl := (HE2.out.drew m').cell (k := q) hlt
            obtain ⟨s0, s1⟩ := HF.out.small q hlt
            obtain ⟨M, hM⟩ : ∃ M, M = (E q).toNat := ⟨_, rfl⟩
            obtain ⟨N, hN⟩ : ∃ N, N = (-E q).toNat := ⟨_, rfl⟩
            have hMq : q ≤ 1 → M = 0 := fun h => by rw [hM, HF.out.few q h]; rfl
            have hNq : q ≤ 1 → N = 0 := fun h => by rw [hN, HF.out.few q h]; rfl
            obtain ⟨B0, hB0⟩ : ∃ B0, B0 = r * r * upQ E q := ⟨_, rfl⟩
            obtain ⟨L0, hL0⟩ : ∃ L0, L0 = loQ E q := ⟨_, rfl⟩
            have hup : B0 * q ^ M ≤ 100000000000000000 := by
              have h := HF.out.up (q + 1) (by omega)
              rw [hB0, hM, Nat.mul_assoc]
              exact h
            have hlo : L0 * q ^ N ≤ 100000000000000000 := by
              have h := HF.out.lo (q + 1) (by omega)
              rw [hL0, hN]
              exact h
            have HUP := Lib.hid (show B0 * q ^ M = r * r * upQ E (q + 1) by rw [hB0, hM, Nat.mul_assoc]; rfl)
            have HLO := Lib.hid (show L0 * q ^ N = loQ E (q + 1) by rw [hL0, hN]; rfl)
            have hMc : (E q ≤ 0 ∧ M = 0) ∨ E q = (M : Int) := by omega
            have hNc : (0 ≤ E q ∧ N = 0) ∨ E q = -(N : Int) := by omega
            rw [← hB0, ← hL0]
            obtain ⟨c, hc⟩ : ∃ c, c = E q := ⟨_, rfl⟩
            rw [← hc] at hcl s0 s1 hMc hNc
            have HHUP := Lib.hid hup
            have HHLO := Lib.hid hlo
            clear hM hN hB0 hL0 hc hup hlo
            go_wp2
            go_loopw [10, 13] (fun u k wr => ∃ d m'' : Nat, d ≤ M ∧ u = .int .i64 ((B0 * q ^ d : Nat) : Int) ∧ k = .int .i64 (c - (d : Int)) ∧ wr = w2.drewN m'') (fun _ k _ => (intOf k).toNat)
            case atStart => exact ⟨0, m', Nat.zero_le _, by simp, by simp, rfl⟩
            case round =>
              obtain ⟨d, m'', hd, rfl, rfl, rfl⟩ := hrel
              by_cases hdl : d < M
              · have hcm : c = (M : Int) := by omega
                have hx := pow_next B0 q d
                have hb := pow_part (b := B0) (q := q) (d := d + 1) (m := M) (by omega) hMq HHUP.out
                have hb2 : ((B0 * q ^ (d + 1) : Nat) : Int) ≤ 100000000000000000 := by omega
                obtain ⟨Z, hZ⟩ : ∃ Z, Z = ((B0 * q ^ (d + 1) : Nat) : Int) := ⟨_, rfl⟩
                rw [← hZ] at hx hb2
                have hz0 : 0 ≤ Z := by omega
                obtain ⟨Y, hY⟩ : ∃ Y, Y = ((B0 * q ^ d : Nat) : Int) := ⟨_, rfl⟩
                rw [← hY] at hx ⊢
                have HZ := Lib.hid hZ
                clear hZ hY
                go_wp2
                go_roundw
                case rel => exact ⟨d + 1, _, by omega, by rw [HZ.out], by go_num, rfl⟩
                case measure => simp [intOf]; omega
              · obtain rfl : d = M := by omega
                have hcl2 := (HE2.out.drew m'').cell (k := q) hlt
                have hcE : E q = c := by
                  have h1 := (HE2.out.drew m').cell (k := q) hlt
                  rw [hcl] at h1
                  simpa using h1.symm
                rw [hcE] at hcl2
                clear hcl
                rw [HUP.out]
                obtain ⟨UV, hUV⟩ : ∃ UV, UV = ((r * r * upQ E (q + 1) : Nat) : Int) := ⟨_, rfl⟩
                rw [← hUV]
                have HUV := Lib.hid hUV
                clear hUV
                go_wp2
                go_loopw [11, 14] (fun u k wr => ∃ d m'' : Nat, d ≤ N ∧ u = .int .i64 ((L0 * q ^ d : Nat) : Int) ∧ k = .int .i64 (c + (d : Int)) ∧ wr = w2.drewN m'') (fun _ k _ => (-intOf k).toNat)
                case atStart => exact ⟨0, m'', Nat.zero_le _, by simp, by simp, rfl⟩
                case round =>
                  obtain ⟨d', m3, hd, rfl, rfl, rfl⟩ := hrel
                  by_cases hdl : d' < N
                  · have hcm : c = -(N : Int) := by omega
                    have hx := pow_next L0 q d'
                    have hb := pow_part (b := L0) (q := q) (d := d' + 1) (m := N) (by omega) hNq HHLO.out
                    have hb2 : ((L0 * q ^ (d' + 1) : Nat) : Int) ≤ 100000000000000000 := by omega
                    obtain ⟨Z, hZ⟩ : ∃ Z, Z = ((L0 * q ^ (d' + 1) : Nat) : Int) := ⟨_, rfl⟩
                    rw [← hZ] at hx hb2
                    have hz0 : 0 ≤ Z := by omega
                    obtain ⟨Y, hY⟩ : ∃ Y, Y = ((L0 * q ^ d' : Nat) : Int) := ⟨_, rfl⟩
                    rw [← hY] at hx ⊢
                    have HZ := Lib.hid hZ
                    clear hZ hY
                    go_wp2
                    go_roundw
                    case rel => exact ⟨d' + 1, _, by omega, by rw [HZ.out], by go_num, rfl⟩
                    case measure => simp [intOf]; omega
                  · obtain rfl : d' = N := by omega
                    rw [HLO.out]
                    obtain ⟨LV, hLV⟩ : ∃ LV, LV = (loQ E (q + 1) : Int) := ⟨_, rfl⟩
                    rw [← hLV]
                    have HLV := Lib.hid hLV
                    clear hLV
                    go_wp2
                    go_roundw
                    case rel => exact ⟨q + 1, _, by omega, by go_num, by rw [HUV.out], by rw [HLV.out], rfl⟩
                    case measure => simp [intOf]; omega
          · obtain rfl : q = 14 := by omega
            have HEND2 := Lib.hid (HEND.out)
            clear HEND
            obtain ⟨UV, hUV⟩ : ∃ UV, UV = ((r * r * upQ E 14 : Nat) : Int) := ⟨_, rfl⟩
            obtain ⟨LV, hLV⟩ : ∃ LV, LV = (loQ E 14 : Int) := ⟨_, rfl⟩
            rw [← hUV, ← hLV]
            have HUV := Lib.hid hUV
            have HLV := Lib.hid hLV
            clear hUV hLV
            go_wp2
            go_ret3
            exact HEND2.out _ _ (by rw [HUV.out, HLV.out, HRR.out, HEQ.out]; rfl) (HO2.out.drew _)
theorem l03Square_any (g : Nat) (C : Nat → Int) (s : Int) (w : World) (hE : Exps w g 70 14 C) (hC : Small C 14 900000000) (hs1 : -1000000 ≤ s) (hs2 : s ≤ 1000000) (hF : s ≠ 0 → FitS (addS C 2 s.natAbs 6) (restT s.natAbs 6)) :
    Calls Tryd.prog 50 #[.pointer (some ⟨g, 0, none⟩), .int .i64 s] w (SqRet C s g w) := by
  by_cases h : s = 0
  · subst h
    exact sq_zero g C w
  · exact sq_some g C s w hE hC h hs1 hs2 (hF h)
end Go.Proofs.YtffhnkhjfggooabDoor
