/- A number taken as a factor, and factorials: as the program counts their primes. -/
import Derived.Test.YtffhnkhjfggooabDoorJn
namespace Go.Proofs.YtffhnkhjfggooabDoor
open Go Go.ChangeShapes Go.WideShapes Go.ChangeAt Go.RowKit

/-- What the package's variables hold. -/
structure Glob (w : World) : Prop where
  p : ∀ i, i < 6 → w.cell? ⟨1, i, none⟩ = some (.int .i64 (pr i : Int))
  n0 : w.cell? ⟨0, 0, none⟩ = some (.int .i64 0)
  n1 : w.cell? ⟨0, 1, none⟩ = some (.int .i64 1)
theorem Glob.lt {w : World} (h : Glob w) : 1 < w.heap.size := World.block_lt_of_cell? w _ (h.p 0 (by omega))
theorem Glob.only {g : Nat} {w w' : World} (h : Glob w) (o : Only g w w') (hg : 2 ≤ g) : Glob w' := by
  have h1 := h.lt
  exact ⟨fun i hi => (o.cell (a := ⟨1, i, none⟩) (by simp only; omega) (by simp only; omega)).trans (h.p i hi), (o.cell (a := ⟨0, 0, none⟩) (by simp only; omega) (by simp only; omega)).trans h.n0, (o.cell (a := ⟨0, 1, none⟩) (by simp only; omega) (by simp only; omega)).trans h.n1⟩
theorem Glob.below {w w' : World} (h : Glob w) (o : Below w.heap.size w w') : Glob w' := by
  have h1 := h.lt
  exact ⟨fun i hi => (o.cell (p := ⟨1, i, none⟩) (by simp only; omega)).trans (h.p i hi), (o.cell (p := ⟨0, 0, none⟩) (by simp only; omega)).trans h.n0, (o.cell (p := ⟨0, 1, none⟩) (by simp only; omega)).trans h.n1⟩
def primesA : Value := .agg #[.int .i64 2, .int .i64 3, .int .i64 5, .int .i64 7, .int .i64 11, .int .i64 13]
theorem run_primes (k : Nat) (hk : k < 6) (w : World) : (Instr.index 79 (.agg #[.int .i64 2, .int .i64 3, .int .i64 5, .int .i64 7, .int .i64 11, .int .i64 13]) (.int .i64 (k : Int))).run Tryd.prog w = .ok (.int .i64 (pr k : Int)) w := by
  rcases (by omega : k = 0 ∨ k = 1 ∨ k = 2 ∨ k = 3 ∨ k = 4 ∨ k = 5) with rfl | rfl | rfl | rfl | rfl | rfl <;> simp [Instr.index, run_underlying Tryd.underlying79, asIntOf, go_sem, pr]
/-- The counts lie at the places of the primes. -/
def addP (C : Nat → Int) (t : Int) (n : Nat) : Nat → Nat → Int
  | 0 => C
  | k + 1 => fun q => if q = k then addP C t n k q + t * (expX n k : Int) else addP C t n k q
def midP (C : Nat → Int) (t : Int) (n k d : Nat) : Nat → Int := fun q => if q = k then addP C t n k q + t * (d : Int) else addP C t n k q
theorem midP_zero (C : Nat → Int) (t : Int) (n k : Nat) : midP C t n k 0 = addP C t n k := by
  funext q
  unfold midP
  split <;> simp
theorem midP_end (C : Nat → Int) (t : Int) (n k : Nat) : midP C t n k (expX n k) = addP C t n (k + 1) := rfl
theorem addP_rng {C : Nat → Int} {t K : Int} {n N : Nat} (ht : -2 ≤ t) (ht' : t ≤ 2) (hC : Small C N K) (k q : Nat) (hq : q < N) : -K - 124 * (k : Int) ≤ addP C t n k q ∧ addP C t n k q ≤ K + 124 * (k : Int) := by
  induction k with
  | zero => have := hC q hq; simp only [addP]; omega
  | succ k ih =>
    have h := times_rng ht ht' (expX_le n k)
    simp only [addP]
    split <;> omega
theorem addP_small {C : Nat → Int} {t K : Int} {n N : Nat} (ht : -2 ≤ t) (ht' : t ≤ 2) (hC : Small C N K) : Small (addP C t n 6) N (K + 744) := fun q hq => by
  have := addP_rng (n := n) ht ht' hC 6 q hq
  omega
set_option maxRecDepth 100000 in
set_option maxHeartbeats 3200000 in
theorem take_any (g : Nat) (C : Nat → Int) (n : Nat) (t : Int) (w : World) (hG : Glob w) (_hg : 2 ≤ g) (hE : Exps w g 80 6 C) (h1 : 1 ≤ n) (h2 : n < 2 ^ 62) (ht : -2 ≤ t) (ht' : t ≤ 2) (hC : Small C 6 1000000000) :
    Calls Tryd.prog 69 #[.pointer (some ⟨g, 0, none⟩), .int .i64 (n : Int), .int .i64 t] w fun e w' => (∃ v, e = .returned v) ∧ Exps w' g 80 6 (addP C t n 6) ∧ Only g w w' := by
  have hgl := hE.lt
  have HE := Lib.hid hE
  have HCB := Lib.hid hC
  have p0 := hG.p 0 (by omega)
  have p1 := hG.p 1 (by omega)
  have p2 := hG.p 2 (by omega)
  have p3 := hG.p 3 (by omega)
  have p4 := hG.p 4 (by omega)
  have p5 := hG.p 5 (by omega)
  simp only [pr] at p0 p1 p2 p3 p4 p5
  clear hE hC
  go_enter Tryd.func69, Tryd.ntmps69
  go_wp2
  clear p0 p1 p2 p3 p4 p5
  go_loopw [1, 9] (fun nv i wr => ∃ k : Nat, k ≤ 6 ∧ i = .int .i64 (k : Int) ∧ nv = .int .i64 (restT n k : Int) ∧ Exps wr g 80 6 (addP C t n k) ∧ Only g w wr) (fun _ i _ => 6 - (intOf i).toNat)
  case atStart => exact ⟨0, Nat.zero_le _, rfl, rfl, HE.out, Only.refl _ _⟩
  case round =>
    obtain ⟨k, hk, rfl, rfl, hEk, hOk⟩ := hrel
    have HEk := Lib.hid hEk
    have HOk := Lib.hid hOk
    clear hEk hOk
    by_cases hlt : k < 6
    · have hix := run_primes k hlt
      obtain ⟨r0, r1⟩ := restT_rng n k h1
      have hms := mid_start (p := pr k) r0 (show restT n k < 2 ^ 62 by omega)
      obtain ⟨q2, q13⟩ := pr_two k
      obtain ⟨P, hPd⟩ : ∃ P, P = pr k := ⟨_, rfl⟩
      rw [← hPd] at hix hms q2 q13
      have HPd := Lib.hid hPd
      clear hPd
      have HMS := Lib.hid hms
      clear hms
      go_wp2
      go_loopw [1] (fun nv wr => ∃ c d : Nat, nv = .int .i64 (c : Int) ∧ Mid P (vp P (restT n k)) (rs P (restT n k)) c d ∧ Exps wr g 80 6 (midP C t n k d) ∧ Only g w wr) (fun nv _ => (intOf nv).toNat)
      case atStart => exact ⟨_, 0, rfl, HMS.out, by rw [midP_zero]; exact HEk.out, HOk.out⟩
      case round =>
        obtain ⟨c, d, rfl, hmid, hEd, hOd⟩ := hrel
        have HM := Lib.hid hmid
        have HEd := Lib.hid hEd
        have HOd := Lib.hid hOd
        clear hmid hEd hOd hix
        have hc1 := HM.out.pos
        have hm : Int.tmod (c : Int) (P : Int) = (c : Int) % (P : Int) := Int.tmod_eq_emod_of_nonneg (by omega)
        have hP0 : (P : Int) ≠ 0 := by omega
        by_cases hz : c % P = 0
        · have ht0 : (((c : Int) % (P : Int)) == 0) = true := by rw [← Int.natCast_emod, hz]; rfl
          have hcl0 := HEd.out.cell (k := k) (by omega)
          have hval : midP C t n k d k = addP C t n k k + t * (d : Int) := by unfold midP; rw [if_pos rfl]
          rw [hval] at hcl0
          obtain ⟨A, hA⟩ : ∃ A, A = addP C t n k k := ⟨_, rfl⟩
          obtain ⟨D, hD⟩ : ∃ D, D = t * (d : Int) := ⟨_, rfl⟩
          have hAr := addP_rng (n := n) ht ht' HCB.out k k (by omega)
          have hDr := times_rng ht ht' HM.out.dle
          rw [← hA, ← hD] at hcl0
          rw [← hA] at hAr
          rw [← hD] at hDr
          obtain ⟨a0, a1⟩ := hAr
          obtain ⟨b0, b1⟩ := hDr
          have hfz := HEd.out.frozen (k := k)
          have HN := Lib.hid (mid_step HM.out q2 (vpF_le _ _ _) hz)
          have HV := Lib.hid (show (fun j => if j = k then A + D + t else midP C t n k d j) = midP C t n k (d + 1) by
            funext j
            unfold midP
            by_cases hj : j = k
            · rw [if_pos hj, if_pos hj, hA, hD, times_next, hj]
            · rw [if_neg hj, if_neg hj, if_neg hj])
          have hq3 : c / P < c := Nat.div_lt_self (by omega) (by omega)
          have hc2 := HM.out.cle
          have hq4 : 0 ≤ (c : Int) / (P : Int) := Int.ediv_nonneg (by omega) (by omega)
          have hq5 : (c : Int) / (P : Int) ≤ 4611686018427387904 := Int.le_trans (Int.ediv_le_self _ (by omega)) (by omega)
          clear hval hA hD
          go_wp2
          go_region
          all_goals go_wp2
          all_goals go_roundw
          case rel => exact ⟨c / P, d + 1, by rw [Int.natCast_ediv], HN.out, by have h := HEd.out.stored k (A + D + t); rw [HV.out] at h; exact h, Only.drew (HOd.out.setCell k _) 1⟩
          case measure => rw [← Int.natCast_ediv]; simp only [intOf, Int.toNat_natCast]; exact hq3
        · have ht0 : (((c : Int) % (P : Int)) == 0) = false := by
            rw [← Int.natCast_emod, beq_eq_false_iff_ne]
            omega
          obtain ⟨hd, hcr⟩ := mid_end HM.out hz
          have hEe : Exps wr g 80 6 (addP C t n (k + 1)) := by
            rw [← midP_end]
            have e : expX n k = d := by rw [hd, HPd.out]; rfl
            rw [e]
            exact HEd.out
          have hce : (c : Int) = (restT n (k + 1) : Int) := by rw [hcr, HPd.out]; rfl
          have HEe := Lib.hid hEe
          have HCE := Lib.hid hce
          clear hEe hce hd hcr
          go_wp2
          go_roundw
          case rel => exact ⟨k + 1, by omega, by go_num, by rw [HCE.out], HEe.out, HOd.out⟩
          case measure => simp [intOf]; omega
    · obtain rfl : k = 6 := by omega
      go_wp2
      go_end0
      exact ⟨⟨_, rfl⟩, HEk.out, HOk.out⟩
/-- The counts when a factorial is taken. -/
def facP (C : Nat → Int) (t : Int) : Nat → Nat → Int
  | 0 => C
  | 1 => C
  | m + 2 => addP (facP C t (m + 1)) t (m + 2) 6
theorem facP_succ (C : Nat → Int) (t : Int) (m : Nat) (h : 1 ≤ m) : facP C t (m + 1) = addP (facP C t m) t (m + 1) 6 := by
  obtain ⟨j, rfl⟩ : ∃ j, m = j + 1 := ⟨m - 1, by omega⟩
  rfl
theorem facP_small {C : Nat → Int} {t K : Int} (ht : -2 ≤ t) (ht' : t ≤ 2) {N : Nat} (hC : Small C N K) (m : Nat) : Small (facP C t m) N (K + 744 * m) := by
  induction m with
  | zero => intro q hq; have := hC q hq; simp only [facP]; omega
  | succ m ih =>
    by_cases h : 1 ≤ m
    · rw [facP_succ _ _ _ h]
      intro q hq
      have := addP_small (n := m + 1) ht ht' ih q hq
      omega
    · obtain rfl : m = 0 := by omega
      intro q hq
      have := hC q hq
      simp only [facP]
      omega
/-- The counts when the factorials of a list are taken. -/
def facPL (C : Nat → Int) (t : Int) (L : Nat → Nat) : Nat → Nat → Int
  | 0 => C
  | k + 1 => facP (facPL C t L k) t (L k)
theorem facPL_small {C : Nat → Int} {t K : Int} (ht : -2 ≤ t) (ht' : t ≤ 2) {N : Nat} (hC : Small C N K) {L : Nat → Nat} (n : Nat) (hL : ∀ i, i < n → L i ≤ 100) (k : Nat) (hk : k ≤ n) : Small (facPL C t L k) N (K + 100000 * k) := by
  induction k with
  | zero => intro q hq; have := hC q hq; simp only [facPL]; omega
  | succ k ih =>
    intro q hq
    have h1 := facP_small ht ht' (ih (by omega)) (L k) q hq
    have h2 := hL k (by omega)
    simp only [facPL]
    omega
set_option maxRecDepth 100000 in
set_option maxHeartbeats 3200000 in
theorem takeFac_any (g sb N cap : Nat) (C : Nat → Int) (L : Nat → Nat) (t : Int) (w : World) (hG : Glob w) (hg : 2 ≤ g) (hE : Exps w g 80 6 C) (hN : N ≤ 10) (hP : ∀ i, i < N → w.cell? ⟨sb, i, none⟩ = some (.int .i64 (L i : Int))) (hsb : sb ≠ g)
    (hL : ∀ i, i < N → L i ≤ 100) (ht : -2 ≤ t) (ht' : t ≤ 2) (hC : Small C 6 10000000) :
    Calls Tryd.prog 53 #[.pointer (some ⟨g, 0, none⟩), .int .i64 t, .slice (some ⟨sb, 0, none⟩) N cap] w fun e w' => (∃ v, e = .returned v) ∧ Exps w' g 80 6 (facPL C t L N) ∧ Only g w w' := by
  have HE := Lib.hid hE
  have HC := Lib.hid hC
  have HP := Lib.hid hP
  have HL := Lib.hid hL
  clear hE hC hP hL
  go_enter Tryd.func53, Tryd.ntmps53
  go_wp2
  go_loopw [11] (fun i wr => ∃ k : Nat, k ≤ N ∧ i = .int .i64 (k : Int) ∧ Exps wr g 80 6 (facPL C t L k) ∧ Only g w wr) (fun i _ => N - (intOf i).toNat)
  case atStart => exact ⟨0, Nat.zero_le _, rfl, HE.out, Only.refl _ _⟩
  case round =>
    obtain ⟨k, hk, rfl, hEk, hOk⟩ := hrel
    have HEk := Lib.hid hEk
    have HOk := Lib.hid hOk
    clear hEk hOk
    by_cases hlt : k < N
    · have hblk := World.block_lt_of_cell? w _ (HP.out k hlt)
      have hpk : wr.cell? ⟨sb, k, none⟩ = some (.int .i64 (L k : Int)) := (HOk.out.cell (a := ⟨sb, k, none⟩) hblk hsb).trans (HP.out k hlt)
      have hn100 := HL.out k hlt
      obtain ⟨n, hn⟩ : ∃ n, n = L k := ⟨_, rfl⟩
      obtain ⟨C1, hC1⟩ : ∃ C1, C1 = facPL C t L k := ⟨_, rfl⟩
      have HS1 := Lib.hid (show facP C1 t n = facPL C t L (k + 1) by rw [hC1, hn]; rfl)
      have HSM := Lib.hid (show Small C1 6 100000000 from fun q hq => by
        have h := facPL_small (C := C) (L := L) ht ht' HC.out N HL.out k hk q hq
        rw [← hC1] at h
        omega)
      rw [← hn] at hpk hn100
      rw [← hC1] at HEk
      clear hn hC1 hblk
      go_wp2
      go_loopw [8] (fun i wr => ∃ j : Nat, j ≤ n ∧ (1 ≤ j ∨ n = 0) ∧ (i = .int .i64 ((j : Int) + 1) ∨ (n = 0 ∧ i = .int .i64 2)) ∧ Exps wr g 80 6 (facP C1 t j) ∧ Only g w wr) (fun i _ => n + 2 - (intOf i).toNat)
      case atStart =>
        by_cases hn : n = 0
        · exact ⟨0, by omega, .inr hn, .inr ⟨hn, rfl⟩, HEk.out, HOk.out⟩
        · exact ⟨1, by omega, .inl (Nat.le_refl _), .inl rfl, HEk.out, HOk.out⟩
      case round =>
        obtain ⟨j, hj, hj1, hi, hEj, hOj⟩ := hrel
        have HEj := Lib.hid hEj
        have HOj := Lib.hid hOj
        clear hEj hOj
        by_cases hlt2 : j < n
        · obtain rfl : u8 = .int .i64 ((j : Int) + 1) := by
            rcases hi with h | h
            · exact h
            · omega
          clear hi
          have hj0 : 1 ≤ j := by omega
          have hle : (j : Int) + 1 ≤ (n : Int) := by omega
          go_wp2_with fail
          refine (take_any g (facP C1 t j) (j + 1) t _ (hG.only HOj.out hg) hg HEj.out (by omega) (by omega) ht ht' (fun q hq => by have := facP_small ht ht' HSM.out j q hq; omega)).mono ?_
          rintro e w' ⟨⟨v, rfl⟩, hE', hO'⟩
          go_wp2
          go_roundw
          case rel => exact ⟨j + 1, by omega, .inl (by omega), .inl (by go_num), by rw [facP_succ _ _ _ hj0]; exact hE', HOj.out.trans hO'⟩
          case measure => simp [intOf]; omega
        · have hjn : j = n := by omega
          subst hjn
          rcases hi with rfl | ⟨h0, rfl⟩
          · go_wp2
            go_roundw
            case rel => exact ⟨k + 1, by omega, by go_num, by rw [← HS1.out]; exact HEj.out, HOj.out⟩
            case measure => simp [intOf]; omega
          · subst h0
            go_wp2
            go_roundw
            case rel => exact ⟨k + 1, by omega, by go_num, by rw [← HS1.out]; exact HEj.out, HOj.out⟩
            case measure => simp [intOf]; omega
    · have hkn : k = N := by omega
      subst hkn
      go_wp2
      go_end0
      exact ⟨⟨_, rfl⟩, HEk.out, HOk.out⟩
end Go.Proofs.YtffhnkhjfggooabDoor
