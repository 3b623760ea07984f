
/- Whether a list has edges, as the program asks it; the law: for all arguments. -/
import Derived.Test.YtogmcinaoemnpabAed
namespace Go.Proofs.Ytogmcinaoemnpab
open Go Go.ChangeShapes Go.WideShapes Go.ChangeAt Go.RowKit

set_option maxRecDepth 100000 in
set_option maxHeartbeats 800000 in
theorem isLvl_any (v L : Int) (g : Nat) (w : World) (hg : w.cell? ⟨g, 0, none⟩ = some (.int .i64 L)) :
    Calls Try.prog 79 #[.int .i64 v, .pointer (some ⟨g, 0, none⟩)] w fun e w' => e = .returned (.bool (inB v 0 (L - 1))) ∧ w' = w := by
  have hq : decide (v ≤ L - 1) = decide (v < L) := decide_eq_decide.2 (by omega)
  cases c1 : decide (0 ≤ v)
  · have HQ := Lib.hid (show false = inB v 0 (L - 1) by rw [inB, c1, Bool.false_and])
    clear hq
    go_enter Try.func79, Try.ntmps79
    go_wp2
    go_ret
    exact ⟨ret_bool HQ.out, rfl⟩
  · have HQ := Lib.hid (show decide (v < L) = inB v 0 (L - 1) by rw [inB, c1, Bool.true_and, hq])
    clear hq
    go_enter Try.func79, Try.ntmps79
    go_wp2
    go_ret
    exact ⟨ret_bool HQ.out, rfl⟩
def lvlF (g : Nat) : Value := .func (.func 79) #[] #[.pointer (some ⟨g, 0, none⟩)]
set_option maxRecDepth 100000 in
set_option maxHeartbeats 3200000 in
theorem isOdd_any (l : Ed) (L : Int) (g h : Nat) (w : World) (hg : w.cell? ⟨g, 0, none⟩ = some (.int .i64 L)) (hh : w.cell? ⟨h, 0, none⟩ = some (.func (.func 79) #[] #[.pointer (some ⟨g, 0, none⟩)])) (R : Bool) (hR : Hid (R = !okEd L l)) :
    Calls Try.prog 81 #[.agg #[.int .i64 l.a, .int .i64 l.b, .float .f32 l.p], .pointer (some ⟨h, 0, none⟩)] w fun e w' => e = .returned (.bool R) ∧ Below w.heap.size w w' := by
  have hgl := World.block_lt_of_cell? w _ hg
  have hhl := World.block_lt_of_cell? w _ hh
  have HA := Below.alloc (Below.refl w.heap.size w) (Nat.le_refl _) (.cells #[.int .i64 l.a, .int .i64 l.b, .float .f32 l.p] 80)
  have hg1 := (HA.cell (p := ⟨g, 0, none⟩) hgl).trans hg
  have hh1 := (HA.cell (p := ⟨h, 0, none⟩) hhl).trans hh
  obtain ⟨w1, hw1⟩ : ∃ w1, w1 = w.alloc (.cells #[.int .i64 l.a, .int .i64 l.b, .float .f32 l.p] 80) := ⟨_, rfl⟩
  have p0 : w1.cell? ⟨w.heap.size, 0, none⟩ = some (.int .i64 l.a) := by rw [hw1]; simp
  have p1 : w1.cell? ⟨w.heap.size, 1, none⟩ = some (.int .i64 l.b) := by rw [hw1]; simp
  have p2 : w1.cell? ⟨w.heap.size, 2, none⟩ = some (.float .f32 l.p) := by rw [hw1]; simp
  have HL := Lib.hid (fun v w hg => isLvl_any v L g w hg)
  obtain ⟨A, hA⟩ : ∃ A, A = l.a := ⟨_, rfl⟩
  obtain ⟨B, hB⟩ : ∃ B, B = l.b := ⟨_, rfl⟩
  obtain ⟨P, hP⟩ : ∃ P, P = l.p := ⟨_, rfl⟩
  have hok : okEd L l = ((inB A 0 (L - 1) && inB B 0 (L - 1)) && (!(A == B) && isFin .f32 P)) := by rw [okEd, ← hA, ← hB, ← hP, eq_dec]
  rw [← hw1] at HA hg1 hh1
  cases c1 : inB A 0 (L - 1)
  · skip
    have HQ := Lib.hid (show true = R by rw [hR.out, hok]; (first | (simp [c1, c2, c3, c4, c5, c6, c7]; done) | (simp [c1, c2, c3, c4, c5, c6]; done) | (simp [c1, c2, c3, c4, c5]; done) | (simp [c1, c2, c3, c4]; done) | (simp [c1, c2, c3]; done) | (simp [c1, c2]; done) | (simp [c1]; done)))
    clear hok
    go_enter Try.func81, Try.ntmps81
    go_wp2_with fail
    rw [← hw1]
    rw [← hA] at p0 ⊢
    rw [← hB] at p1 ⊢
    rw [← hP] at p2 ⊢
    clear hw1 hg hh hA hB hP
    refine (HL.out _ _ (by exact hg1)).mono ?_
    rintro e w' ⟨rfl, rfl⟩
    go_wp2_with (first | (go_at_call 79; refine (HL.out _ _ (by exact hg1)).mono ?_; rintro e w' ⟨rfl, rfl⟩) | (first | (go_at_call 82; refine (IsFinite_any _ _).mono ?_; rintro e w' ⟨rfl, q, rfl⟩)))
    go_ret
    exact ⟨ret_bool HQ.out, HA⟩
  · skip
    cases c2 : inB B 0 (L - 1)
    · skip
      have HQ := Lib.hid (show true = R by rw [hR.out, hok]; (first | (simp [c1, c2, c3, c4, c5, c6, c7]; done) | (simp [c1, c2, c3, c4, c5, c6]; done) | (simp [c1, c2, c3, c4, c5]; done) | (simp [c1, c2, c3, c4]; done) | (simp [c1, c2, c3]; done) | (simp [c1, c2]; done) | (simp [c1]; done)))
      clear hok
      go_enter Try.func81, Try.ntmps81
      go_wp2_with fail
      rw [← hw1]
      rw [← hA] at p0 ⊢
      rw [← hB] at p1 ⊢
      rw [← hP] at p2 ⊢
      clear hw1 hg hh hA hB hP
      refine (HL.out _ _ (by exact hg1)).mono ?_
      rintro e w' ⟨rfl, rfl⟩
      go_wp2_with (first | (go_at_call 79; refine (HL.out _ _ (by exact hg1)).mono ?_; rintro e w' ⟨rfl, rfl⟩) | (first | (go_at_call 82; refine (IsFinite_any _ _).mono ?_; rintro e w' ⟨rfl, q, rfl⟩)))
      go_ret
      exact ⟨ret_bool HQ.out, HA⟩
    · skip
      cases c3 : (A == B)
      rotate_left
      · skip
        have HQ := Lib.hid (show true = R by rw [hR.out, hok]; (first | (simp [c1, c2, c3, c4, c5, c6, c7]; done) | (simp [c1, c2, c3, c4, c5, c6]; done) | (simp [c1, c2, c3, c4, c5]; done) | (simp [c1, c2, c3, c4]; done) | (simp [c1, c2, c3]; done) | (simp [c1, c2]; done) | (simp [c1]; done)))
        clear hok
        go_enter Try.func81, Try.ntmps81
        go_wp2_with fail
        rw [← hw1]
        rw [← hA] at p0 ⊢
        rw [← hB] at p1 ⊢
        rw [← hP] at p2 ⊢
        clear hw1 hg hh hA hB hP
        refine (HL.out _ _ (by exact hg1)).mono ?_
        rintro e w' ⟨rfl, rfl⟩
        go_wp2_with (first | (go_at_call 79; refine (HL.out _ _ (by exact hg1)).mono ?_; rintro e w' ⟨rfl, rfl⟩) | (first | (go_at_call 82; refine (IsFinite_any _ _).mono ?_; rintro e w' ⟨rfl, q, rfl⟩)))
        go_ret
        exact ⟨ret_bool HQ.out, HA⟩
      · skip
        have HQ := Lib.hid (show (!isFin .f32 P) = R by rw [hR.out, hok]; (first | (simp [c1, c2, c3, c4, c5, c6, c7]; done) | (simp [c1, c2, c3, c4, c5, c6]; done) | (simp [c1, c2, c3, c4, c5]; done) | (simp [c1, c2, c3, c4]; done) | (simp [c1, c2, c3]; done) | (simp [c1, c2]; done) | (simp [c1]; done)))
        clear hok
        go_enter Try.func81, Try.ntmps81
        go_wp2_with fail
        rw [← hw1]
        rw [← hA] at p0 ⊢
        rw [← hB] at p1 ⊢
        rw [← hP] at p2 ⊢
        clear hw1 hg hh hA hB hP
        refine (HL.out _ _ (by exact hg1)).mono ?_
        rintro e w' ⟨rfl, rfl⟩
        go_wp2_with (first | (go_at_call 79; refine (HL.out _ _ (by exact hg1)).mono ?_; rintro e w' ⟨rfl, rfl⟩) | (first | (go_at_call 82; refine (IsFinite_any _ _).mono ?_; rintro e w' ⟨rfl, q, rfl⟩)))
        go_ret
        exact ⟨ret_bool HQ.out, Below.drewN HA _⟩
/-- The index of the first edge that is none, or -1. -/
def OddEd (w : World) (b : Bool) (e : Ending) (w' : World) : Prop := ∃ r : Int, e = .returned (.int .i64 r) ∧ -1 ≤ r ∧ decide (0 ≤ r) = !b ∧ Below w.heap.size w w'
set_option maxRecDepth 100000 in
set_option maxHeartbeats 1600000 in
theorem indexEd_any (xa : Option Addr) (n cap : Nat) (X : Nat → Ed) (L : Int) (g h : Nat) (w : World) (hX : RdE w xa n X) (hn : n ≤ 1048576) (hg : w.cell? ⟨g, 0, none⟩ = some (.int .i64 L)) (hh : w.cell? ⟨h, 0, none⟩ = some (.func (.func 79) #[] #[.pointer (some ⟨g, 0, none⟩)])) :
    Calls Try.prog 59 #[.slice xa n cap, .func (.func 81) #[] #[.pointer (some ⟨h, 0, none⟩)]] w (OddEd w ((List.range n).all fun i => okEd L (X i))) := by
  obtain ⟨xb, xo, hxa, hcx⟩ := hX
  have HX := Lib.hid hcx
  have hgl := World.block_lt_of_cell? w _ hg
  have hhl := World.block_lt_of_cell? w _ hh
  obtain ⟨R, hR⟩ : ∃ R, R = ((List.range n).all fun i => okEd L (X i)) := ⟨_, rfl⟩
  rw [← hR]
  have HR := Lib.hid hR
  clear hcx hR
  go_enter Try.func59, Try.ntmps59
  go_wp2
  go_loopw [8] (fun i wr => ∃ k : Nat, k ≤ n ∧ i = .int .i64 k ∧ Below w.heap.size w wr ∧ Hid (∀ j, j < k → okEd L (X j) = true)) (fun i _ => n - (intOf i).toNat)
  case atStart => exact ⟨0, Nat.zero_le _, rfl, Below.refl _ _, Lib.hid fun j hj => absurd hj (Nat.not_lt_zero _)⟩
  case round =>
    obtain ⟨k, hk, rfl, hBk, HF⟩ := hrel
    by_cases hlt : k < n
    · have e := hxa (by omega)
      subst e
      obtain ⟨r0, r1, r2⟩ := EdAt.below (HX.out k hlt) hBk
      have hg1 := (hBk.cell (p := ⟨g, 0, none⟩) hgl).trans hg
      have hh1 := (hBk.cell (p := ⟨h, 0, none⟩) hhl).trans hh
      have hsz := hBk.size
      cases c : okEd L (X k)
      · have HO := Lib.hid (fun w hg hh => isOdd_any (X k) L g h w hg hh true (Lib.hid (by rw [c]; rfl)))
        have HN := Lib.hid (show R = false by
          rw [HR.out, List.all_eq_false]
          exact ⟨k, List.mem_range.2 hlt, by rw [c]; simp⟩)
        clear hg hh
        go_wp2_with (go_at_call 81; refine (HO.out _ (by exact hg1) (by exact hh1)).mono ?_; rintro e w2 ⟨rfl, B0⟩; have B2 := hBk.trans (B0.mono hsz))
        go_ret
        exact ⟨k, rfl, by omega, by rw [HN.out]; simp, B2⟩
      · have HO := Lib.hid (fun w hg hh => isOdd_any (X k) L g h w hg hh false (Lib.hid (by rw [c]; rfl)))
        have HN := Lib.hid (show ∀ j, j < k + 1 → okEd L (X j) = true from fun j hj => by
          by_cases hj' : j < k
          · exact HF.out j hj'
          · rw [show j = k by omega]; exact c)
        clear hg hh
        go_wp2_with (go_at_call 81; refine (HO.out _ (by exact hg1) (by exact hh1)).mono ?_; rintro e w2 ⟨rfl, B0⟩; have B2 := hBk.trans (B0.mono hsz))
        go_roundw
        case rel => exact ⟨k + 1, by omega, by go_num, B2, HN⟩
        case measure => simp [intOf]; omega
    · have hkn : k = n := by omega
      subst hkn
      have HN := Lib.hid (show R = true by
        rw [HR.out, List.all_eq_true]
        exact fun j hj => HF.out j (List.mem_range.1 hj))
      go_wp2
      go_ret
      exact ⟨-1, rfl, by omega, by rw [HN.out]; simp, hBk⟩
set_option maxRecDepth 100000 in
set_option maxHeartbeats 3200000 in
theorem implAE_any (L : Int) (_ : (Lit.int .i64 L).wf = true) (xa : Option Addr) (n cap : Nat) (X : Nat → Ed) (w : World) (hX : RdE w xa n X) (hn : n ≤ 1048576) (R : Bool) (hR : Hid (R = okEds L X n)) :
    Calls Try.prog 58 #[.int .i64 L, .slice xa n cap] w fun e w' => e = .returned (.bool R) ∧ Below w.heap.size w w' := by
  cases c1 : inB L 1 12
  · have HQ := Lib.hid (show false = R by rw [hR.out, okEds_lev (by rw [c1]; rfl)])
    have hd : decide (L < 1) = true ∨ (decide (L < 1) = false ∧ decide (12 < L) = true) := by
      by_cases h1 : L < 1
      · exact .inl (decide_eq_true h1)
      · refine .inr ⟨decide_eq_false h1, decide_eq_true ?_⟩
        by_cases h2 : 12 < L
        · exact h2
        · rw [inB_yes (by omega) (by omega)] at c1; cases c1
    clear c1
    rcases hd with d1 | ⟨d1, d2⟩
    · go_enter Try.func58, Try.ntmps58
      go_wp2
      go_ret
      refine ⟨ret_bool HQ.out, ?_⟩
      (repeat (first | with_reducible exact Below.refl _ _ | with_reducible refine Below.drewN ?_ _ | with_reducible refine Below.setCell ?_ (by simp; try omega) _ | with_reducible refine Below.alloc ?_ (by simp; try omega) _))
    · go_enter Try.func58, Try.ntmps58
      go_wp2
      go_ret
      refine ⟨ret_bool HQ.out, ?_⟩
      (repeat (first | with_reducible exact Below.refl _ _ | with_reducible refine Below.drewN ?_ _ | with_reducible refine Below.setCell ?_ (by simp; try omega) _ | with_reducible refine Below.alloc ?_ (by simp; try omega) _))
  · obtain ⟨hl1, hl2⟩ := inB_rng c1
    have d1 : decide (L < 1) = false := decide_eq_false (by omega)
    have d2 : decide (12 < L) = false := decide_eq_false (by omega)
    by_cases h32 : n ≤ 32
    · have d32 : decide (32 < (n : Int)) = false := decide_eq_false (by omega)
      have HQ := Lib.hid (show ((List.range n).all fun i => okEd L (X i)) = R by rw [hR.out, okEds, c1, decide_eq_true h32]; rfl)
      have HI := Lib.hid (fun g h w hX hg hh => indexEd_any xa n cap X L g h w hX hn hg hh)
      have hst2 := run_store_i64
      have hst3 := fun (a : Addr) (g : Nat) (m : Mode) (w : World) => run_store Try.prog w a (.func (.func 79) #[] #[.pointer (some ⟨g, 0, none⟩)]) m rfl
      go_enter Try.func58, Try.ntmps58
      go_wp2_with (first | (go_at_call 59; refine (HI.out w.heap.size (w.heap.size + 1) _ (by refine hX.below ?_; (repeat (first | with_reducible exact Below.refl _ _ | with_reducible refine Below.drewN ?_ _ | with_reducible refine Below.setCell ?_ (by simp; try omega) _ | with_reducible refine Below.alloc ?_ (by simp; try omega) _))) (by simp) (by simp)).mono ?_; rintro e w' ⟨r, rfl, hr, hd, B0⟩) | go_in)
      go_ret
      refine ⟨ret_bool ?_, ?_⟩
      · have hQ := HQ.out
        clear HQ HI
        rw [← hQ]
        try simp_all
      · refine Below.trans ?_ (B0.mono (by first | (simp; done) | (simp; omega)))
        (repeat (first | with_reducible exact Below.refl _ _ | with_reducible refine Below.drewN ?_ _ | with_reducible refine Below.setCell ?_ (by simp; try omega) _ | with_reducible refine Below.alloc ?_ (by simp; try omega) _))
    · have d32 : decide (32 < (n : Int)) = true := decide_eq_true (by omega)
      have HQ := Lib.hid (show false = R by rw [hR.out, okEds_lev (by rw [decide_eq_false h32, Bool.and_false])])
      go_enter Try.func58, Try.ntmps58
      go_wp2
      go_ret
      refine ⟨ret_bool HQ.out, ?_⟩
      (repeat (first | with_reducible exact Below.refl _ _ | with_reducible refine Below.drewN ?_ _ | with_reducible refine Below.setCell ?_ (by simp; try omega) _ | with_reducible refine Below.alloc ?_ (by simp; try omega) _))
end Go.Proofs.Ytogmcinaoemnpab
