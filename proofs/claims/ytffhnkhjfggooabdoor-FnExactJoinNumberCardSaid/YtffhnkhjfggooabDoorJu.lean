/- All turns and parts that can be joined: the numbers, one after the other. -/
import Derived.Test.YtffhnkhjfggooabDoorJt
namespace Go.Proofs.YtffhnkhjfggooabDoor
open Go Go.ChangeShapes Go.WideShapes Go.ChangeAt Go.RowKit

/-- The counts behind the sum's primes. -/
def e2 (e : Nat → Int) (n : Nat) (i : Nat) : Int := e i + 2 * (expX n i : Int)
def bigN : Nat := 100000000000000000
def okE (s : Int) (e : Nat → Int) : Bool :=
  decide (-1000000 ≤ s) && decide (s ≤ 1000000) &&
  ((List.range 6).all fun i => decide (-500 ≤ e i) && decide (e i ≤ 500)) &&
  (decide (s = 0) || (decide (restT s.natAbs 6 * restT s.natAbs 6 * upP (e2 e s.natAbs) 6 ≤ bigN) && decide (loP (e2 e s.natAbs) 6 ≤ bigN))) &&
  decide (upP e 6 ≤ bigN) && decide (loP e 6 ≤ bigN) && decide (sqU e s ≤ (bigN : Int)) &&
  (if s = 0 then decide (sqG e s = 0) && decide (sqU e s = 0) && decide (sqD e s = 1)
   else decide (sqG e s = sgnI s) && decide (sqU e s = ((restT s.natAbs 6 * restT s.natAbs 6 * upP (e2 e s.natAbs) 6 : Nat) : Int)) && decide (sqD e s = (loP (e2 e s.natAbs) 6 : Int)))
def okJ (a x b y c : Int) : Bool := okE (sumAll a x b y c) (eJ a x b y c)
def okAt (a i b j k : Nat) : Bool :=
  let x : Int := (a : Int) - 2 * i
  let y : Int := (b : Int) - 2 * j
  let c : Int := (a : Int) + b - 2 * k
  !(decide (x + y ≤ c) && decide (-c ≤ x + y)) || okJ a x b y c
def okAB (a b : Nat) : Bool := (List.range (a + 1)).all fun i => (List.range (b + 1)).all fun j => (List.range (min a b + 1)).all fun k => okAt a i b j k
theorem ok_0 : ((List.range 7).all fun b => okAB 0 b) = true := by decide +kernel
theorem ok_1 : ((List.range 7).all fun b => okAB 1 b) = true := by decide +kernel
theorem ok_2 : ((List.range 7).all fun b => okAB 2 b) = true := by decide +kernel
theorem ok_3 : ((List.range 7).all fun b => okAB 3 b) = true := by decide +kernel
theorem ok_4 : ((List.range 7).all fun b => okAB 4 b) = true := by decide +kernel
theorem ok_5 : ((List.range 7).all fun b => okAB 5 b) = true := by decide +kernel
theorem ok_6 : ((List.range 7).all fun b => okAB 6 b) = true := by decide +kernel
theorem okAB_all {a b : Nat} (ha : a ≤ 6) (hb : b ≤ 6) : okAB a b = true := by
  have key : ((List.range 7).all fun b => okAB a b) = true := by
    rcases (by omega : a = 0 ∨ a = 1 ∨ a = 2 ∨ a = 3 ∨ a = 4 ∨ a = 5 ∨ a = 6) with rfl | rfl | rfl | rfl | rfl | rfl | rfl
    · exact ok_0
    · exact ok_1
    · exact ok_2
    · exact ok_3
    · exact ok_4
    · exact ok_5
    · exact ok_6
  rw [List.all_eq_true] at key
  exact key b (List.mem_range.2 (by omega))
theorem okJ_all {a x b y c : Int} (h : JAt a x b y c) : okJ a x b y c = true := by
  obtain ⟨a0, a1, b0, b1, x0, x1, xe, y0, y1, ye, c0, c1, c2, ce, z0, z1, ze⟩ := h
  have h1 := okAB_all (a := a.toNat) (b := b.toNat) (by omega) (by omega)
  unfold okAB at h1
  rw [List.all_eq_true] at h1
  have h2 := h1 ((a - x) / 2).toNat (List.mem_range.2 (by omega))
  rw [List.all_eq_true] at h2
  have h3 := h2 ((b - y) / 2).toNat (List.mem_range.2 (by omega))
  rw [List.all_eq_true] at h3
  have h4 := h3 ((a + b - c) / 2).toNat (List.mem_range.2 (by omega))
  unfold okAt at h4
  simp only at h4
  have ea : (a.toNat : Int) = a := by omega
  have eb : (b.toNat : Int) = b := by omega
  have ex : a - 2 * (((a - x) / 2).toNat : Int) = x := by omega
  have ey : b - 2 * (((b - y) / 2).toNat : Int) = y := by omega
  have ec : a + b - 2 * (((a + b - c) / 2).toNat : Int) = c := by omega
  rw [ea, eb, ex, ey, ec, decide_eq_true z1, decide_eq_true z0] at h4
  exact h4
/-- What the table says of one. -/
theorem share_eq {a x b y c : Int} (h : JAt a x b y c) :
    (-1000000 ≤ sumAll a x b y c ∧ sumAll a x b y c ≤ 1000000) ∧ (sumAll a x b y c ≠ 0 → FitS (addS (cntJ a x b y c) 2 (sumAll a x b y c).natAbs 6) (restT (sumAll a x b y c).natAbs 6)) ∧ FitI (expJ a x b y c) (sumAll a x b y c) ∧
      (sqS (cntJ a x b y c) (sumAll a x b y c)).1 = sqG (expJ a x b y c) (sumAll a x b y c) ∧ (sqS (cntJ a x b y c) (sumAll a x b y c)).2.1 = sqU (expJ a x b y c) (sumAll a x b y c) ∧ (sqS (cntJ a x b y c) (sumAll a x b y c)).2.2 = sqD (expJ a x b y c) (sumAll a x b y c) := by
  have ho := okJ_all h
  have he := fun i hi => expJ_at h i hi
  have hc := fun i hi => cntJ_at h i hi
  have hn := cntJ_no a x b y c
  unfold okJ okE at ho
  obtain ⟨s, hs⟩ : ∃ s, s = sumAll a x b y c := ⟨_, rfl⟩
  obtain ⟨e, hee⟩ : ∃ e, e = eJ a x b y c := ⟨_, rfl⟩
  obtain ⟨E, hE⟩ : ∃ E, E = expJ a x b y c := ⟨_, rfl⟩
  obtain ⟨C, hC⟩ : ∃ C, C = cntJ a x b y c := ⟨_, rfl⟩
  rw [← hs, ← hee] at ho
  rw [← hs, ← hE, ← hC]
  rw [← hE, ← hee] at he
  rw [← hC, ← hee] at hc
  rw [← hC] at hn
  clear hs hee hE hC h
  simp only [Bool.and_eq_true, decide_eq_true_eq, Bool.or_eq_true, List.all_eq_true, List.mem_range] at ho
  obtain ⟨⟨⟨⟨⟨⟨⟨s0, s1⟩, hsm⟩, hS⟩, hu⟩, hl⟩, hq⟩, hres⟩ := ho
  have uE : upP E 6 = upP e 6 := upP_congr he
  have lE : loP E 6 = loP e 6 := upP_congr fun i hi => by rw [he i hi]
  have gE : gS E s = gS e s := by unfold gS; rw [lE]
  have qU : sqU E s = sqU e s := by unfold sqU; rw [gE, uE]
  have qD : sqD E s = sqD e s := by unfold sqD; rw [gE, lE]
  have qG : sqG E s = sqG e s := by unfold sqG; rw [qU, qD]
  have hat : ∀ i, i < 6 → addS C 2 s.natAbs 6 (pr i) = e2 e s.natAbs i := fun i hi => by
    rw [addS_at _ _ _ i hi 6 (Nat.le_refl _), if_pos hi, hc i hi]
    rfl
  have hz : ∀ q, (∀ i, i < 6 → pr i ≠ q) → addS C 2 s.natAbs 6 q = 0 := fun q hqq => by
    rw [addS_no _ _ _ q hqq 6 (Nat.le_refl _), hn q hqq]
  have hup : upQ (addS C 2 s.natAbs 6) 14 = upP (e2 e s.natAbs) 6 := (upQ_upP fun q _ hqq => hz q hqq).trans (upP_congr hat)
  have hlo : loQ (addS C 2 s.natAbs 6) 14 = loP (e2 e s.natAbs) 6 := (upQ_upP (C := fun q => -addS C 2 s.natAbs 6 q) fun q _ hqq => by rw [hz q hqq]; rfl).trans (upP_congr fun i hi => by rw [hat i hi])
  refine ⟨⟨s0, s1⟩, fun hs0 => ?_, ⟨fun q hqq => ?_, by rw [uE]; exact hu, by rw [lE]; exact hl, by rw [qU]; exact hq⟩, ?_⟩
  · rcases hS with hS | ⟨hS1, hS2⟩
    · exact absurd hS hs0
    · refine ⟨fun q hqq => ?_, fun q hqq => hz q ?_, fun q hqq => ?_, fun q hqq => ?_⟩
      · by_cases hp : ∃ i, i < 6 ∧ pr i = q
        · obtain ⟨i, hi, rfl⟩ := hp
          rw [hat i hi]
          have h1 := hsm i hi
          have h2 := expX_le s.natAbs i
          unfold e2
          omega
        · rw [hz q (fun i hi e => hp ⟨i, hi, e⟩)]
          omega
      · intro i hi e
        have := pr_two i
        omega
      · refine Nat.le_trans (Nat.mul_le_mul_left _ (upQ_mono (hz 0 (by decide)) hqq)) ?_
        rw [hup]
        exact hS1
      · refine Nat.le_trans (upQ_mono (C := fun q => -addS C 2 s.natAbs 6 q) (by show -addS C 2 s.natAbs 6 0 = 0; rw [hz 0 (by decide)]; rfl) hqq) ?_
        have e : upQ (fun q => -addS C 2 s.natAbs 6 q) 14 = loP (e2 e s.natAbs) 6 := hlo
        rw [e]
        exact hS2
  · have h1 := hsm q hqq
    rw [he q hqq]
    omega
  · rw [qG, qU, qD]
    unfold sqS
    by_cases h0 : s = 0
    · rw [if_pos h0] at hres ⊢
      simp only [Bool.and_eq_true, decide_eq_true_eq] at hres
      exact ⟨hres.1.1.symm, hres.1.2.symm, hres.2.symm⟩
    · rw [if_neg h0] at hres ⊢
      simp only [Bool.and_eq_true, decide_eq_true_eq] at hres
      rw [hup, hlo]
      exact ⟨hres.1.1.symm, hres.1.2.symm, hres.2.symm⟩
end Go.Proofs.YtffhnkhjfggooabDoor
