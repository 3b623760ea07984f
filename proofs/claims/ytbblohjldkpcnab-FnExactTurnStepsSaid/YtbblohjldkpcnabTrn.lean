
/- Steps, turned: as the program does it. -/
import Derived.Test.YtbblohjldkpcnabCls
import Derived.Test.YtbblohjldkpcnabRev
import Derived.Test.YtbblohjldkpcnabVal
import Derived.Test.YtbblohjldkpcnabRo
import Derived.Test.YtbblohjldkpcnabStm
namespace Go.Proofs.Ytbblohjldkpcnab
open Go Go.ChangeShapes Go.WideShapes Go.ChangeAt Go.RowKit
set_option linter.all false

def TurnRet (n : Nat) (N : Nat → Nat) (m : Nat) (Y : Nat → Nat) (w : World) (e : Ending) (w' : World) : Prop :=
  ∃ g c h d, e = .returned (.tuple #[.agg #[.slice (some ⟨g, 0, none⟩) n c, .slice (some ⟨h, 0, none⟩) m d], .bool true]) ∧
    w'.ownsRow w.heap.size 43 1 (.slice (some ⟨g, 0, none⟩) n c) n (rowOf (fun i => N (n - 1 - i)) n) ∧
    w'.ownsRow w.heap.size 43 1 (.slice (some ⟨h, 0, none⟩) m d) m (rowOf (fun i => Y (m - 1 - i)) m) ∧ g ≠ h ∧ Below w.heap.size w w'
set_option maxRecDepth 100000 in
set_option maxHeartbeats 6400000 in
theorem implTurn_pos (xa ya : Option Addr) (n m cx cy : Nat) (X Y N : Nat → Nat) (w : World) (hX : Rd w xa n X) (hY : Rd w ya m Y) (hn : n ≤ 1048576) (hm : m ≤ 1048576) (hn1 : 1 ≤ n) (hm1 : 1 ≤ m)
    (hok : stepsOk X n Y m = true) (hN : ∀ i, i < n → fbin .sub .f32 0 (X i) = N i ∧ isNaN .f32 (N i) = false) :
    Calls Try.prog 46 #[.agg #[.slice xa n cx, .slice ya m cy]] w (TurnRet n N m Y w) := by
  have HN := Lib.hid hN
  clear hN
  go_enter Try.func46, Try.ntmps46
  go_wp2_with fail
  refine (implValid_any xa ya n m cx cy X Y _ (by exact (hX.alloc _).alloc _) (by exact (hY.alloc _).alloc _) hn hm).mono ?_
  rintro e0 w1 ⟨rfl, B1⟩
  rw [hok]
  obtain ⟨hc1, hf1⟩ := bcell B1
  have hs1 := B1.size
  have hx1 : Rd w1 xa n X := ((hX.alloc _).alloc _).below B1
  have hy1 : Rd w1 ya m Y := ((hY.alloc _).alloc _).below B1
  have hz0 : w.heap.size < w1.heap.size := by simp at hs1; omega
  have hz1 : w.heap.size + 1 < w1.heap.size := by simp at hs1; omega
  have HA : Below w.heap.size w w1 := (((Below.refl _ _).alloc (Nat.le_refl _) _).alloc (by simp) _).trans (B1.mono (by simp; omega))
  go_wp2_with fail
  refine (cloneSteps_any xa ya n m cx cy X Y _ hx1 hy1 hn hm).mono ?_
  rintro e0 w2 ⟨a, c, b, d, rfl, M1, M2, ap, B2⟩
  obtain ⟨hc2, hf2⟩ := bcell B2
  have hs2 := B2.size
  rcases M1 with h0 | ⟨g, rfl, O1⟩
  · omega
  rcases M2 with h0 | ⟨h, rfl, O2⟩
  · omega
  have hgh : g ≠ h := by
    rcases ap with h0 | h0 | ⟨g', h', e1, e2, h3⟩
    · omega
    · omega
    · simp only [Option.some.injEq, Addr.mk.injEq] at e1 e2
      omega
  have HB := HA.trans (B2.mono (by omega))
  have hg1 := own_lt O1
  have hg2 := own_lt O2
  have hg3 := own_ge O1
  have hg4 := own_ge O2
  go_wp2
  obtain ⟨w3, hw3⟩ : ∃ w3, w3 = w2.alloc (Obj.cells #[Value.slice (some ⟨g, 0, none⟩) n c, Value.slice (some ⟨h, 0, none⟩) m d] 62) := ⟨_, rfl⟩
  rw [← hw3]
  have hs3 : w3.heap.size = w2.heap.size + 1 := by rw [hw3]; simp
  have P1 : w3.ownsRow w1.heap.size 43 1 (.slice (some ⟨g, 0, none⟩) n c) n (rowOf X n) := by rw [hw3]; exact O1.alloc _
  have P2 : w3.ownsRow w1.heap.size 43 1 (.slice (some ⟨h, 0, none⟩) m d) m (rowOf Y m) := by rw [hw3]; exact O2.alloc _
  have b0 : w3.cell? ⟨w2.heap.size, 0, none⟩ = some (Value.slice (some ⟨g, 0, none⟩) n c) := by rw [hw3]; simp
  have b1 : w3.cell? ⟨w2.heap.size, 1, none⟩ = some (Value.slice (some ⟨h, 0, none⟩) m d) := by rw [hw3]; simp
  have hz2 : w.heap.size + 1 < w2.heap.size := by omega
  have r0 : w3.cell? ⟨w.heap.size + 1, 0, none⟩ = some (.slice none 0 0) := by rw [hw3]; simp [go_sem, hc2, hc1, hz1, hz2]
  have r1 : w3.cell? ⟨w.heap.size + 1, 1, none⟩ = some (.slice none 0 0) := by rw [hw3]; simp [go_sem, hc2, hc1, hz1, hz2]
  have q0 : w3.frozen? ⟨w.heap.size + 1, 0, none⟩ = false := by rw [hw3]; simp [go_sem, hf2, hf1, hz1, hz2]
  have q1 : w3.frozen? ⟨w.heap.size + 1, 1, none⟩ = false := by rw [hw3]; simp [go_sem, hf2, hf1, hz1, hz2]
  have HC : Below w.heap.size w w3 := by rw [hw3]; exact HB.alloc HB.size _
  clear hw3 hX hY hx1 hy1 hc1 hf1 hc2 hf2 B1 B2 HA HB O1 O2 ap
  go_loopw [5, 6, 16] (fun _ _ i wr => ∃ k : Nat, k ≤ n ∧ i = .int .i64 k ∧ wr.ownsRow w1.heap.size 43 1 (.slice (some ⟨g, 0, none⟩) n c) n (rowOf (fun j => if j < k then N j else X j) n) ∧ Only g w3 wr) (fun _ _ i _ => n - (intOf i).toNat)
  case atStart => exact ⟨0, Nat.zero_le _, rfl, by simpa using P1, Only.refl _ _⟩
  case round =>
    obtain ⟨k, hk, rfl, hownk, hBk⟩ := hrel
    have e0 : ∀ o, wr.cell? ⟨w2.heap.size, o, none⟩ = w3.cell? ⟨w2.heap.size, o, none⟩ := fun o => cell_same (hBk.2.2.2.2 _ (by omega) (by omega)) o
    have t0 := (e0 0).trans b0
    by_cases hlt : k < n
    · have hfz := hownk.frozenAt k
      have hcl : wr.cell? ⟨g, k, none⟩ = some (.float .f32 (X k)) := by
        rw [hownk.cellAt k (by omega), rowOf_get _ _ _ hlt, if_neg (by omega)]
      have hst := (hownk.stored k (.float .f32 (N k))).1
      rw [rowOf_set] at hst
      rw [rowOf_congr (Y := fun j => if j < k + 1 then N j else X j) (fun j _ => by
          by_cases hj : j = k
          · subst hj; simp
          · rw [if_neg hj]; by_cases hj2 : j < k
            · rw [if_pos hj2, if_pos (by omega)]
            · rw [if_neg hj2, if_neg (by omega)])] at hst
      have hB' : Only g w3 (wr.setCell ⟨g, k, none⟩ (.float .f32 (N k))) := hBk.setCell _ _
      have hsf := store_float wr ⟨g, k, none⟩ (N k) hcl hfz
      have hop := run_numop rfl 43 0 (X k) (N k) (HN.out k hlt).1 (HN.out k hlt).2
      clear hownk hBk P1
      go_wp2
      go_roundw
      case rel => exact ⟨k + 1, by omega, by go_num, hst, hB'⟩
      case measure => simp [intOf]; omega
    · have hkn : k = n := by omega
      subst hkn
      rw [rowOf_congr (Y := N) (fun j hj => by rw [if_pos hj])] at hownk
      have t1 := (e0 1).trans b1
      go_wp2_with fail
      refine (turnRow_any w1.heap.size g k c N _ hownk hn).mono ?_
      rintro e0 w4 ⟨rfl, O4, D4⟩
      have u1 : w4.cell? ⟨w2.heap.size, 1, none⟩ = _ := (cell_same (D4.2.2.2.2 _ (by have := hBk.2.2.2.1; omega) (by omega)) 1).trans t1
      have u0 : w4.cell? ⟨w2.heap.size, 0, none⟩ = _ := (cell_same (D4.2.2.2.2 _ (by have := hBk.2.2.2.1; omega) (by omega)) 0).trans t0
      have P3 := own_other (own_other P2 (Ne.symm hgh) hBk) (Ne.symm hgh) D4
      go_wp2_with fail
      refine (turnRow_any w1.heap.size h m d Y _ P3 hm).mono ?_
      rintro e0 w5 ⟨rfl, O5, D5⟩
      have hw4 := hBk.2.2.2.1
      have hw5 := D4.2.2.2.1
      have v1 : w5.cell? ⟨w2.heap.size, 1, none⟩ = _ := (cell_same (D5.2.2.2.2 _ (by omega) (by omega)) 1).trans u1
      have v0 : w5.cell? ⟨w2.heap.size, 0, none⟩ = _ := (cell_same (D5.2.2.2.2 _ (by omega) (by omega)) 0).trans u0
      have K1 : Below w1.heap.size w3 w5 := ((only_below hg3 (by omega) hBk).trans (only_below hg3 (by omega) D4)).trans (only_below hg4 (by omega) D5)
      have c0 := (K1.cell (p := ⟨w.heap.size + 1, 0, none⟩) hz1).trans r0
      have c1 := (K1.cell (p := ⟨w.heap.size + 1, 1, none⟩) hz1).trans r1
      have f0 := (K1.frozen (p := ⟨w.heap.size + 1, 0, none⟩) hz1).trans q0
      have f1 := (K1.frozen (p := ⟨w.heap.size + 1, 1, none⟩) hz1).trans q1
      have O4' := own_other O4 hgh D5
      go_wp2
      exact bodyPost_ret (v := .tuple #[.agg #[.slice (some ⟨g, 0, none⟩) k c, .slice (some ⟨h, 0, none⟩) m d], .bool true]) (by simp [results, Try.results46, go_sem, c0, c1]) rfl
        ⟨g, c, h, d, rfl, own_mono0 (ownsRow_setCell_below (ownsRow_setCell_below O4' (a := ⟨w.heap.size + 1, 0, none⟩) hz1 _) (a := ⟨w.heap.size + 1, 1, none⟩) hz1 _) (by omega),
          own_mono0 (ownsRow_setCell_below (ownsRow_setCell_below O5 (a := ⟨w.heap.size + 1, 0, none⟩) hz1 _) (a := ⟨w.heap.size + 1, 1, none⟩) hz1 _) (by omega), hgh,
          ((HC.trans (K1.mono (by omega))).setCell (p := ⟨w.heap.size + 1, 0, none⟩) (by simp) _).setCell (p := ⟨w.heap.size + 1, 1, none⟩) (by simp) _⟩
/-- Of no edges: the heights alone. -/
def TurnNil (m : Nat) (Y : Nat → Nat) (w : World) (e : Ending) (w' : World) : Prop :=
  ∃ a c h d, e = .returned (.tuple #[.agg #[.slice a 0 c, .slice (some ⟨h, 0, none⟩) m d], .bool true]) ∧
    w'.ownsRow w.heap.size 43 1 (.slice (some ⟨h, 0, none⟩) m d) m (rowOf (fun i => Y (m - 1 - i)) m) ∧ Below w.heap.size w w'
set_option maxRecDepth 100000 in
set_option maxHeartbeats 6400000 in
theorem implTurn_nil (xa ya : Option Addr) (m cx cy : Nat) (X Y : Nat → Nat) (w : World) (hX : Rd w xa 0 X) (hY : Rd w ya m Y) (hm : m ≤ 1048576) (hm1 : 1 ≤ m) (hok : stepsOk X 0 Y m = true) :
    Calls Try.prog 46 #[.agg #[.slice xa 0 cx, .slice ya m cy]] w (TurnNil m Y w) := by
  go_enter Try.func46, Try.ntmps46
  go_wp2_with fail
  refine (implValid_any xa ya 0 m cx cy X Y _ (by exact (hX.alloc _).alloc _) (by exact (hY.alloc _).alloc _) (by omega) hm).mono ?_
  rintro e0 w1 ⟨rfl, B1⟩
  rw [hok]
  obtain ⟨hc1, hf1⟩ := bcell B1
  have hs1 := B1.size
  have hx1 : Rd w1 xa 0 X := ((hX.alloc _).alloc _).below B1
  have hy1 : Rd w1 ya m Y := ((hY.alloc _).alloc _).below B1
  have hz0 : w.heap.size < w1.heap.size := by simp at hs1; omega
  have hz1 : w.heap.size + 1 < w1.heap.size := by simp at hs1; omega
  have HA : Below w.heap.size w w1 := (((Below.refl _ _).alloc (Nat.le_refl _) _).alloc (by simp) _).trans (B1.mono (by simp; omega))
  go_wp2_with fail
  refine (cloneSteps_any xa ya 0 m cx cy X Y _ hx1 hy1 (by omega) hm).mono ?_
  rintro e0 w2 ⟨a, c, b, d, rfl, M1, M2, ap, B2⟩
  obtain ⟨hc2, hf2⟩ := bcell B2
  have hs2 := B2.size
  rcases M2 with h0 | ⟨h, rfl, O2⟩
  · omega
  have HB := HA.trans (B2.mono (by omega))
  have hg2 := own_lt O2
  have hg4 := own_ge O2
  clear ap M1
  go_wp2
  obtain ⟨w3, hw3⟩ : ∃ w3, w3 = w2.alloc (Obj.cells #[Value.slice a 0 c, Value.slice (some ⟨h, 0, none⟩) m d] 62) := ⟨_, rfl⟩
  rw [← hw3]
  have hs3 : w3.heap.size = w2.heap.size + 1 := by rw [hw3]; simp
  have P2 : w3.ownsRow w1.heap.size 43 1 (.slice (some ⟨h, 0, none⟩) m d) m (rowOf Y m) := by rw [hw3]; exact O2.alloc _
  have b0 : w3.cell? ⟨w2.heap.size, 0, none⟩ = some (Value.slice a 0 c) := by rw [hw3]; simp
  have b1 : w3.cell? ⟨w2.heap.size, 1, none⟩ = some (Value.slice (some ⟨h, 0, none⟩) m d) := by rw [hw3]; simp
  have hz2 : w.heap.size + 1 < w2.heap.size := by omega
  have r0 : w3.cell? ⟨w.heap.size + 1, 0, none⟩ = some (.slice none 0 0) := by rw [hw3]; simp [go_sem, hc2, hc1, hz1, hz2]
  have r1 : w3.cell? ⟨w.heap.size + 1, 1, none⟩ = some (.slice none 0 0) := by rw [hw3]; simp [go_sem, hc2, hc1, hz1, hz2]
  have q0 : w3.frozen? ⟨w.heap.size + 1, 0, none⟩ = false := by rw [hw3]; simp [go_sem, hf2, hf1, hz1, hz2]
  have q1 : w3.frozen? ⟨w.heap.size + 1, 1, none⟩ = false := by rw [hw3]; simp [go_sem, hf2, hf1, hz1, hz2]
  have HC : Below w.heap.size w w3 := by rw [hw3]; exact HB.alloc HB.size _
  clear hw3 hX hY hx1 hy1 hc1 hf1 hc2 hf2 B1 B2 HA HB O2
  go_loopw [5, 6, 16] (fun _ _ i wr => i = .int .i64 0 ∧ wr = w3) (fun _ _ _ _ => 0)
  case atStart => exact ⟨rfl, rfl⟩
  case round =>
    obtain ⟨rfl, rfl⟩ := hrel
    go_wp2_with fail
    refine (turnNone_any a c _).mono ?_
    rintro e0 w4 ⟨rfl, rfl⟩
    go_wp2_with fail
    refine (turnRow_any w1.heap.size h m d Y _ P2 hm).mono ?_
    rintro e0 w5 ⟨rfl, O5, D5⟩
    have v1 : w5.cell? ⟨w2.heap.size, 1, none⟩ = _ := (cell_same (D5.2.2.2.2 _ (by omega) (by omega)) 1).trans b1
    have v0 : w5.cell? ⟨w2.heap.size, 0, none⟩ = _ := (cell_same (D5.2.2.2.2 _ (by omega) (by omega)) 0).trans b0
    have K1 := only_below hg4 (by omega) D5
    have c0 := (K1.cell (p := ⟨w.heap.size + 1, 0, none⟩) hz1).trans r0
    have c1 := (K1.cell (p := ⟨w.heap.size + 1, 1, none⟩) hz1).trans r1
    have f0 := (K1.frozen (p := ⟨w.heap.size + 1, 0, none⟩) hz1).trans q0
    have f1 := (K1.frozen (p := ⟨w.heap.size + 1, 1, none⟩) hz1).trans q1
    go_wp2
    exact bodyPost_ret (v := .tuple #[.agg #[.slice a 0 c, .slice (some ⟨h, 0, none⟩) m d], .bool true]) (by simp [results, Try.results46, go_sem, c0, c1]) rfl
      ⟨a, c, h, d, rfl, own_mono0 (ownsRow_setCell_below (ownsRow_setCell_below O5 (a := ⟨w.heap.size + 1, 0, none⟩) hz1 _) (a := ⟨w.heap.size + 1, 1, none⟩) hz1 _) (by omega),
        ((HC.trans (K1.mono (by omega))).setCell (p := ⟨w.heap.size + 1, 0, none⟩) (by simp) _).setCell (p := ⟨w.heap.size + 1, 1, none⟩) (by simp) _⟩
set_option maxRecDepth 100000 in
set_option maxHeartbeats 3200000 in
/-- Of what are no steps: nothing. -/
theorem implTurn_no (xa ya : Option Addr) (n m cx cy : Nat) (X Y : Nat → Nat) (w : World) (hX : Rd w xa n X) (hY : Rd w ya m Y) (hn : n ≤ 1048576) (hm : m ≤ 1048576) (hok : stepsOk X n Y m = false) :
    Calls Try.prog 46 #[.agg #[.slice xa n cx, .slice ya m cy]] w fun e w' => e = .returned (.tuple #[.agg #[.slice none 0 0, .slice none 0 0], .bool false]) ∧ Below w.heap.size w w' := by
  go_enter Try.func46, Try.ntmps46
  go_wp2_with fail
  refine (implValid_any xa ya n m cx cy X Y _ (by exact (hX.alloc _).alloc _) (by exact (hY.alloc _).alloc _) hn hm).mono ?_
  rintro e0 w1 ⟨rfl, B1⟩
  rw [hok]
  obtain ⟨hc1, hf1⟩ := bcell B1
  have hs1 := B1.size
  have hz1 : w.heap.size + 1 < w1.heap.size := by simp at hs1; omega
  have HA : Below w.heap.size w w1 := (((Below.refl _ _).alloc (Nat.le_refl _) _).alloc (by simp) _).trans (B1.mono (by simp; omega))
  have c0 : w1.cell? ⟨w.heap.size + 1, 0, none⟩ = some (.slice none 0 0) := by simp [go_sem, hc1]
  have c1 : w1.cell? ⟨w.heap.size + 1, 1, none⟩ = some (.slice none 0 0) := by simp [go_sem, hc1]
  have f0 : w1.frozen? ⟨w.heap.size + 1, 0, none⟩ = false := by simp [go_sem, hf1]
  have f1 : w1.frozen? ⟨w.heap.size + 1, 1, none⟩ = false := by simp [go_sem, hf1]
  go_wp2
  exact bodyPost_ret (v := .tuple #[.agg #[.slice none 0 0, .slice none 0 0], .bool false]) (by simp [results, Try.results46, go_sem, c0, c1]) rfl
    ⟨rfl, (HA.setCell (p := ⟨w.heap.size + 1, 0, none⟩) (by simp) _).setCell (p := ⟨w.heap.size + 1, 1, none⟩) (by simp) _⟩
end Go.Proofs.Ytbblohjldkpcnab
