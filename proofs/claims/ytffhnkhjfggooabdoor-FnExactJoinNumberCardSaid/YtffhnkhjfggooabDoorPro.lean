/- What factors make together: as the program reckons it. -/
import Derived.Test.YtffhnkhjfggooabDoorTak
namespace Go.Proofs.YtffhnkhjfggooabDoor
open Go Go.ChangeShapes Go.WideShapes Go.ChangeAt Go.RowKit

def upP (E : Nat → Int) : Nat → Nat
  | 0 => 1
  | k + 1 => upP E k * pr k ^ (E k).toNat
def loP (E : Nat → Int) : Nat → Nat := upP fun i => -E i
theorem upP_step (E : Nat → Int) (k : Nat) : upP E k ≤ upP E (k + 1) := Nat.le_mul_of_pos_right _ (Nat.pow_pos (by have := pr_two k; omega))
theorem upP_mono (E : Nat → Int) {j k : Nat} (h : j ≤ k) : upP E j ≤ upP E k := by
  induction k with
  | zero => rw [Nat.le_zero.1 h]; exact Nat.le_refl _
  | succ k ih =>
    by_cases hj : j ≤ k
    · exact Nat.le_trans (ih hj) (upP_step E k)
    · rw [show j = k + 1 by omega]; exact Nat.le_refl _
theorem upP_pos (E : Nat → Int) (k : Nat) : 1 ≤ upP E k := upP_mono E (Nat.zero_le k)
def pq (u l : Int) (i : Nat) : Int := if i = 0 then u else l
theorem pq_up (u l u' : Int) : (fun j => if j = 0 then u' else pq u l j) = pq u' l := by
  funext j; unfold pq; split <;> rfl
/-- The two cells of a fraction. -/
theorem exps_pq {w : World} {g e : Nat} {C : Nat → Int} (h : Exps w g e 2 C) : Exps w g e 2 (pq (C 0) (C 1)) := h.congr fun i hi => by
  rcases (by omega : i = 0 ∨ i = 1) with rfl | rfl <;> rfl
theorem exps_up {w : World} {g e : Nat} {u l : Int} (h : Exps w g e 2 (pq u l)) (v : Int) : Exps (w.setCell ⟨g, 0, none⟩ (.int .i64 v)) g e 2 (pq v l) := (h.stored 0 v).congr fun i hi => by
  rcases (by omega : i = 0 ∨ i = 1) with rfl | rfl <;> rfl
theorem exps_lo {w : World} {g e : Nat} {u l : Int} (h : Exps w g e 2 (pq u l)) (v : Int) : Exps (w.setCell ⟨g, 1, none⟩ (.int .i64 v)) g e 2 (pq u v) := (h.stored 1 v).congr fun i hi => by
  rcases (by omega : i = 0 ∨ i = 1) with rfl | rfl <;> rfl
theorem exps_two (w : World) (e : TypeId) (u l : Int) : Exps (w.alloc (.cells #[.int .i64 u, .int .i64 l] e)) w.heap.size e 2 (pq u l) :=
  ⟨rfl, .inr ⟨w.heap.size, 2, _, rfl, Nat.zero_le _, World.alloc_heap_new w _, Nat.le_refl _, by unfold maxLen; omega, rfl, rfl⟩⟩
theorem exps_six (w : World) (e : TypeId) (E : Nat → Int) : Exps (w.alloc (.cells #[.int .i64 (E 0), .int .i64 (E 1), .int .i64 (E 2), .int .i64 (E 3), .int .i64 (E 4), .int .i64 (E 5)] e)) w.heap.size e 6 E :=
  ⟨rfl, .inr ⟨w.heap.size, 6, _, rfl, Nat.zero_le _, World.alloc_heap_new w _, Nat.le_refl _, by unfold maxLen; omega, rfl, rfl⟩⟩
theorem pow_part2 {b q d m B : Nat} (hd : d ≤ m) (hq : 2 ≤ q) (h : b * q ^ m ≤ B) : b * q ^ d ≤ B :=
  Nat.le_trans (Nat.mul_le_mul_left _ (Nat.pow_le_pow_right (by omega) hd)) h
set_option maxRecDepth 100000 in
set_option maxHeartbeats 6400000 in
theorem product_any (E : Nat → Int) (w : World) (hG : Glob w) (hE : Small E 6 1000) (hu : upP E 6 ≤ 100000000000000000) (hl : loP E 6 ≤ 100000000000000000) :
    Calls Tryd.prog 77 #[.agg #[.int .i64 (E 0), .int .i64 (E 1), .int .i64 (E 2), .int .i64 (E 3), .int .i64 (E 4), .int .i64 (E 5)]] w fun e w' => e = .returned (frac (upP E 6 : Int) (loP E 6 : Int)) ∧ Below w.heap.size w w' := by
  have HE := Lib.hid hE
  have HU := Lib.hid hu
  have HL := Lib.hid hl
  have hlt2 := hG.lt
  have hB3 : Below w.heap.size w (((w.alloc (.cells #[.int .i64 (E 0), .int .i64 (E 1), .int .i64 (E 2), .int .i64 (E 3), .int .i64 (E 4), .int .i64 (E 5)] 80)).alloc (.cells #[.int .i64 0, .int .i64 0] 58)).alloc (.cells #[.int .i64 1, .int .i64 1] 58)) :=
    (((Below.refl _ w).alloc (Nat.le_refl _) _).alloc (by simp) _).alloc (by simp; omega) _
  have hE3 : Exps (((w.alloc (.cells #[.int .i64 (E 0), .int .i64 (E 1), .int .i64 (E 2), .int .i64 (E 3), .int .i64 (E 4), .int .i64 (E 5)] 80)).alloc (.cells #[.int .i64 0, .int .i64 0] 58)).alloc (.cells #[.int .i64 1, .int .i64 1] 58)) w.heap.size 80 6 E :=
    ((exps_six w _ E).below ((Below.refl _ _).alloc (Nat.le_refl _) _)).below ((Below.refl _ _).alloc (Nat.le_refl _) _)
  have hR3 : Exps (((w.alloc (.cells #[.int .i64 (E 0), .int .i64 (E 1), .int .i64 (E 2), .int .i64 (E 3), .int .i64 (E 4), .int .i64 (E 5)] 80)).alloc (.cells #[.int .i64 0, .int .i64 0] 58)).alloc (.cells #[.int .i64 1, .int .i64 1] 58)) (w.heap.size + 1) 58 2 (pq 0 0) := by
    have h := (exps_two (w.alloc (.cells #[.int .i64 (E 0), .int .i64 (E 1), .int .i64 (E 2), .int .i64 (E 3), .int .i64 (E 4), .int .i64 (E 5)] 80)) 58 0 0).below ((Below.refl _ _).alloc (Nat.le_refl _) (.cells #[.int .i64 1, .int .i64 1] 58))
    rw [World.size_alloc] at h
    exact h
  have hF3 : Exps (((w.alloc (.cells #[.int .i64 (E 0), .int .i64 (E 1), .int .i64 (E 2), .int .i64 (E 3), .int .i64 (E 4), .int .i64 (E 5)] 80)).alloc (.cells #[.int .i64 0, .int .i64 0] 58)).alloc (.cells #[.int .i64 1, .int .i64 1] 58)) (w.heap.size + 1 + 1) 58 2 (pq 1 1) := by
    have h := exps_two ((w.alloc (.cells #[.int .i64 (E 0), .int .i64 (E 1), .int .i64 (E 2), .int .i64 (E 3), .int .i64 (E 4), .int .i64 (E 5)] 80)).alloc (.cells #[.int .i64 0, .int .i64 0] 58)) 58 1 1
    rw [World.size_alloc, World.size_alloc] at h
    exact h
  obtain ⟨w3, hw3⟩ : ∃ w3, w3 = (((w.alloc (.cells #[.int .i64 (E 0), .int .i64 (E 1), .int .i64 (E 2), .int .i64 (E 3), .int .i64 (E 4), .int .i64 (E 5)] 80)).alloc (.cells #[.int .i64 0, .int .i64 0] 58)).alloc (.cells #[.int .i64 1, .int .i64 1] 58)) := ⟨_, rfl⟩
  have p0 := (hG.below hB3).p 0 (by omega)
  have p1 := (hG.below hB3).p 1 (by omega)
  have p2 := (hG.below hB3).p 2 (by omega)
  have p3 := (hG.below hB3).p 3 (by omega)
  have p4 := (hG.below hB3).p 4 (by omega)
  have p5 := (hG.below hB3).p 5 (by omega)
  simp only [pr] at p0 p1 p2 p3 p4 p5
  rw [← hw3] at hB3 hE3 hR3 hF3
  have HW3 := Lib.hid hw3
  have HB3 := Lib.hid hB3
  have HE3 := Lib.hid hE3
  have HR3 := Lib.hid hR3
  have HF3 := Lib.hid hF3
  clear hE hu hl hw3 hB3 hE3 hR3 hF3
  go_enter Tryd.func77, Tryd.ntmps77
  go_wp2
  rw [← HW3.out]
  clear p0 p1 p2 p3 p4 p5
  go_loopw [8] (fun i wr => ∃ k : Nat, k ≤ 6 ∧ i = .int .i64 (k : Int) ∧ Exps wr (w.heap.size + 1 + 1) 58 2 (pq (upP E k : Int) (loP E k : Int)) ∧ Only (w.heap.size + 1 + 1) w3 wr) (fun i _ => 6 - (intOf i).toNat)
  case atStart => exact ⟨0, Nat.zero_le _, rfl, HF3.out, Only.refl _ _⟩
  case round =>
    obtain ⟨k, hk, rfl, hEk, hOk⟩ := hrel
    have HEk := Lib.hid hEk
    have HOk := Lib.hid hOk
    clear hEk hOk
    by_cases hlt : k < 6
    · have hix := run_primes k hlt
      have hex := HOk.out.exps HE3.out (show w.heap.size ≠ w.heap.size + 1 + 1 by omega)
      have hck := hex.cell (k := k) hlt
      obtain ⟨s0, s1⟩ := HE.out k hlt
      obtain ⟨q2, q13⟩ := pr_two k
      have hup : upP E k * pr k ^ (E k).toNat ≤ 100000000000000000 := Nat.le_trans (upP_mono E (show k + 1 ≤ 6 by omega)) HU.out
      have hlo : loP E k * pr k ^ (-E k).toNat ≤ 100000000000000000 := Nat.le_trans (upP_mono (fun i => -E i) (show k + 1 ≤ 6 by omega)) HL.out
      obtain ⟨P, hPd⟩ : ∃ P, P = pr k := ⟨_, rfl⟩
      obtain ⟨c, hc⟩ : ∃ c, c = E k := ⟨_, rfl⟩
      obtain ⟨M, hM⟩ : ∃ M, M = c.toNat := ⟨_, rfl⟩
      obtain ⟨N, hN⟩ : ∃ N, N = (-c).toNat := ⟨_, rfl⟩
      obtain ⟨B0, hB0⟩ : ∃ B0, B0 = upP E k := ⟨_, rfl⟩
      obtain ⟨L0, hL0⟩ : ∃ L0, L0 = loP E k := ⟨_, rfl⟩
      have HUP := Lib.hid (show B0 * P ^ M = upP E (k + 1) by rw [hB0, hPd, hM, hc]; rfl)
      have HLO := Lib.hid (show L0 * P ^ N = loP E (k + 1) by rw [hL0, hPd, hN, hc]; rfl)
      rw [← hPd] at hix q2 q13
      rw [← hPd, ← hc, ← hM, ← hB0] at hup
      rw [← hPd, ← hc, ← hN, ← hL0] at hlo
      rw [← hc] at hck s0 s1
      rw [← hB0, ← hL0] at HEk
      have hMc : (c ≤ 0 ∧ M = 0) ∨ c = (M : Int) := by omega
      have hNc : (0 ≤ c ∧ N = 0) ∨ c = -(N : Int) := by omega
      have HHUP := Lib.hid hup
      have HHLO := Lib.hid hlo
      have HC := Lib.hid hc.symm
      clear hPd hc hM hN hB0 hL0 hup hlo hex
      go_wp2
      go_loopw [15] (fun i wr => ∃ d : Nat, d ≤ M ∧ i = .int .i64 (d : Int) ∧ Exps wr (w.heap.size + 1 + 1) 58 2 (pq ((B0 * P ^ d : Nat) : Int) (L0 : Int)) ∧ Only (w.heap.size + 1 + 1) w3 wr) (fun i _ => M - (intOf i).toNat)
      case atStart => exact ⟨0, Nat.zero_le _, rfl, by rw [Nat.pow_zero, Nat.mul_one]; exact HEk.out, HOk.out⟩
      case round =>
        obtain ⟨d, hd, rfl, hEd, hOd⟩ := hrel
        clear hix hck
        by_cases hdl : d < M
        · have hcm : c = (M : Int) := by omega
          have hx := pow_next B0 P d
          have hb := pow_part2 (b := B0) (q := P) (d := d + 1) (m := M) (by omega) q2 HHUP.out
          have hb2 : ((B0 * P ^ (d + 1) : Nat) : Int) ≤ 100000000000000000 := by omega
          have c0 : wr.cell? ⟨w.heap.size + 1 + 1, 0, none⟩ = some (.int .i64 ((B0 * P ^ d : Nat) : Int)) := hEd.cell (k := 0) (by omega)
          have f0 := hEd.frozen (k := 0)
          obtain ⟨Z, hZ⟩ : ∃ Z, Z = ((B0 * P ^ (d + 1) : Nat) : Int) := ⟨_, rfl⟩
          rw [← hZ] at hx hb2
          have hz0 : 0 ≤ Z := by omega
          have HN := Lib.hid (exps_up hEd Z)
          have HOd := Lib.hid hOd
          obtain ⟨Y, hY⟩ : ∃ Y, Y = ((B0 * P ^ d : Nat) : Int) := ⟨_, rfl⟩
          rw [← hY] at hx c0
          have HZ := Lib.hid hZ
          clear hZ hY hEd hOd
          go_wp2
          go_roundw
          case rel => exact ⟨d + 1, by omega, by go_num, by rw [← HZ.out]; exact HN.out, HOd.out.setCell 0 _⟩
          case measure => simp [intOf]; omega
        · obtain rfl : d = M := by omega
          have hex := hOd.exps HE3.out (show w.heap.size ≠ w.heap.size + 1 + 1 by omega)
          have hck0 := hex.cell (k := k) hlt
          have hck : wr.cell? ⟨w.heap.size, k, none⟩ = some (.int .i64 c) := by rw [hck0, HC.out]
          rw [HUP.out] at hEd
          have HEd := Lib.hid hEd
          have HOd := Lib.hid hOd
          clear hEd hOd hex hck0
          go_wp2
          go_loopw [27] (fun i wr => ∃ d : Nat, d ≤ N ∧ i = .int .i64 (d : Int) ∧ Exps wr (w.heap.size + 1 + 1) 58 2 (pq (upP E (k + 1) : Int) ((L0 * P ^ d : Nat) : Int)) ∧ Only (w.heap.size + 1 + 1) w3 wr) (fun i _ => N - (intOf i).toNat)
          case atStart => exact ⟨0, Nat.zero_le _, rfl, by rw [Nat.pow_zero, Nat.mul_one]; exact HEd.out, HOd.out⟩
          case round =>
            obtain ⟨d', hd, rfl, hEd, hOd⟩ := hrel
            clear hck
            by_cases hdl : d' < N
            · have hcm : c = -(N : Int) := by omega
              have hx := pow_next L0 P d'
              have hb := pow_part2 (b := L0) (q := P) (d := d' + 1) (m := N) (by omega) q2 HHLO.out
              have hb2 : ((L0 * P ^ (d' + 1) : Nat) : Int) ≤ 100000000000000000 := by omega
              have c1 : wr.cell? ⟨w.heap.size + 1 + 1, 1, none⟩ = some (.int .i64 ((L0 * P ^ d' : Nat) : Int)) := hEd.cell (k := 1) (by omega)
              have f1 := hEd.frozen (k := 1)
              obtain ⟨Z, hZ⟩ : ∃ Z, Z = ((L0 * P ^ (d' + 1) : Nat) : Int) := ⟨_, rfl⟩
              rw [← hZ] at hx hb2
              have hz0 : 0 ≤ Z := by omega
              have HN := Lib.hid (exps_lo hEd Z)
              have HOd2 := Lib.hid hOd
              obtain ⟨Y, hY⟩ : ∃ Y, Y = ((L0 * P ^ d' : Nat) : Int) := ⟨_, rfl⟩
              rw [← hY] at hx c1
              have HZ := Lib.hid hZ
              clear hZ hY hEd hOd
              go_wp2
              go_roundw
              case rel => exact ⟨d' + 1, by omega, by go_num, by rw [← HZ.out]; exact HN.out, HOd2.out.setCell 1 _⟩
              case measure => simp [intOf]; omega
            · obtain rfl : d' = N := by omega
              rw [HLO.out] at hEd
              have HEd2 := Lib.hid hEd
              have HOd2 := Lib.hid hOd
              clear hEd hOd
              go_wp2
              go_roundw
              case rel => exact ⟨k + 1, by omega, by go_num, HEd2.out, HOd2.out⟩
              case measure => simp [intOf]; omega
    · obtain rfl : k = 6 := by omega
      have c0 : wr.cell? ⟨w.heap.size + 1 + 1, 0, none⟩ = some (.int .i64 (upP E 6 : Int)) := HEk.out.cell (k := 0) (by omega)
      have c1 : wr.cell? ⟨w.heap.size + 1 + 1, 1, none⟩ = some (.int .i64 (loP E 6 : Int)) := HEk.out.cell (k := 1) (by omega)
      have hr := HOk.out.exps HR3.out (show w.heap.size + 1 ≠ w.heap.size + 1 + 1 by omega)
      have r0 : wr.cell? ⟨w.heap.size + 1, 0, none⟩ = some (.int .i64 0) := hr.cell (k := 0) (by omega)
      have r1 : wr.cell? ⟨w.heap.size + 1, 1, none⟩ = some (.int .i64 0) := hr.cell (k := 1) (by omega)
      have g0 := hr.frozen (k := 0)
      have g1 := hr.frozen (k := 1)
      have HB := Lib.hid (HOk.out.below HB3.out (show w.heap.size ≤ w.heap.size + 1 + 1 by omega))
      clear hr
      go_wp2
      refine bodyPost_ret (v := frac (upP E 6 : Int) (loP E 6 : Int)) ?_ rfl ⟨rfl, ?_⟩
      · rw [results_cell rfl]
        go_simp
        rfl
      · exact (HB.out.setCell (p := ⟨w.heap.size + 1, 0, none⟩) (Nat.le_succ _) _).setCell (p := ⟨w.heap.size + 1, 1, none⟩) (Nat.le_succ _) _
end Go.Proofs.YtffhnkhjfggooabDoor
