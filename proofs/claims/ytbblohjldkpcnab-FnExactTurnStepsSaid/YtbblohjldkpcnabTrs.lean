
/- Steps, turned: as the model does it. -/
import Derived.Test.YtbblohjldkpcnabTrn
import Derived.Test.YtbblohjldkpcnabPuR
import Derived.Deep.AppendLies
import Derived.Deep.RegionLaw
namespace Go.Proofs.Ytbblohjldkpcnab
open Go Go.ChangeShapes Go.WideShapes Go.ChangeAt Go.RowKit
set_option linter.all false

/-- What is owned stays so where all below a bound that lies behind its block is as it was. -/
theorem own_keep {w w' : World} {B A e n : Nat} {v : Value} {xs : List Value} (h : w.ownsRow B e 1 v n xs) (hl : ∀ g k, v = .slice (some ⟨g, 0, none⟩) n k → g < A) (hb : Below A w w') : w'.ownsRow B e 1 v n xs := by
  refine ⟨h.1, ?_⟩
  rcases h.2 with h2 | ⟨g, cap, cur, h1, h2, h3, h4⟩
  · exact .inl h2
  · refine .inr ⟨g, cap, cur, h1, h2, ?_, h4⟩
    rw [hb.block g (hl g cap h1)]
    exact h3
def TurnSpec (n : Nat) (N : Nat → Nat) (m : Nat) (Y : Nat → Nat) (w : World) (e : Ending) (w' : World) : Prop :=
  ∃ v u, e = .returned (.tuple #[.agg #[v, u], .bool true]) ∧
    w'.ownsRow w.heap.size 43 1 v n (rowOf (fun i => N (n - 1 - i)) n) ∧
    w'.ownsRow w.heap.size 43 1 u m (rowOf (fun i => Y (m - 1 - i)) m) ∧ Below w.heap.size w w'
set_option maxRecDepth 100000 in
set_option maxHeartbeats 6400000 in
theorem specTurn_yes (xa ya : Option Addr) (n m cx cy : Nat) (X Y N : Nat → Nat) (w : World) (hX : Rd w xa n X) (hY : Rd w ya m Y) (hn : n ≤ 1048576) (hm : m ≤ 1048576)
    (hok : stepsOk X n Y m = true) (hN : ∀ i, i < n → fbin .sub .f32 0 (X i) = N i ∧ isNaN .f32 (N i) = false) :
    Calls Try.prog 44 #[.agg #[.slice xa n cx, .slice ya m cy]] w (TurnSpec n N m Y w) := by
  obtain ⟨i0, hi, hz0, hz1, hz2⟩ := info_parts infoF
  have HN := Lib.hid hN
  clear hN
  go_enter Try.func44, Try.ntmps44
  go_wp2_with fail
  refine (l02Is_any w.heap.size xa ya n m cx cy X Y _ (by simp [go_sem]) (by simp [go_sem]) (by exact (hX.alloc _).alloc _) (by exact (hY.alloc _).alloc _) hn hm).mono ?_
  rintro e0 w1 ⟨rfl, q, rfl⟩
  rw [hok]
  go_wp2
  obtain ⟨w2, hw2⟩ : ∃ w2, w2 = (((((w.alloc (Obj.cells #[Value.slice xa n cx, Value.slice ya m cy] 62)).alloc (Obj.cells #[Value.slice none 0 0, Value.slice none 0 0] 62)).drewN q).alloc (Obj.cells #[Value.slice none 0 0, Value.slice none 0 0] 62))) := ⟨_, rfl⟩
  rw [← hw2]
  have hs2 : w2.heap.size = w.heap.size + 3 := by rw [hw2]; simp
  have a0 : w2.cell? ⟨w.heap.size, 0, none⟩ = some (.slice xa n cx) := by rw [hw2]; simp [go_sem]
  have a1 : w2.cell? ⟨w.heap.size, 1, none⟩ = some (.slice ya m cy) := by rw [hw2]; simp [go_sem]
  have r0 : w2.cell? ⟨w.heap.size + 1, 0, none⟩ = some (.slice none 0 0) := by rw [hw2]; simp [go_sem]
  have r1 : w2.cell? ⟨w.heap.size + 1, 1, none⟩ = some (.slice none 0 0) := by rw [hw2]; simp [go_sem]
  have q0 : w2.frozen? ⟨w.heap.size + 1, 0, none⟩ = false := by rw [hw2]; simp [go_sem]
  have q1 : w2.frozen? ⟨w.heap.size + 1, 1, none⟩ = false := by rw [hw2]; simp [go_sem]
  have l0 : w2.cell? ⟨w.heap.size + 1 + 1, 0, none⟩ = some (.slice none 0 0) := by rw [hw2]; simp [go_sem]
  have l1 : w2.cell? ⟨w.heap.size + 1 + 1, 1, none⟩ = some (.slice none 0 0) := by rw [hw2]; simp [go_sem]
  have f0 : w2.frozen? ⟨w.heap.size + 1 + 1, 0, none⟩ = false := by rw [hw2]; simp [go_sem]
  have f1 : w2.frozen? ⟨w.heap.size + 1 + 1, 1, none⟩ = false := by rw [hw2]; simp [go_sem]
  have HC : Below w.heap.size w w2 := by
    rw [hw2]
    exact (Below.drewN (((Below.refl _ _).alloc (Nat.le_refl _) _).alloc (by simp) _) q).alloc (by simp; omega) _
  clear hw2
  go_loopw [5] (fun i wr => ∃ (c : Nat) (v : Value), c ≤ n ∧ i = .int .i64 ((n : Int) - 1 - c) ∧ wr.ownsRow (w.heap.size + 3) 43 1 v c (rowOf (fun j => N (n - 1 - j)) c) ∧ wr.cell? ⟨w.heap.size + 1 + 1, 0, none⟩ = some v ∧ wr.cell? ⟨w.heap.size + 1 + 1, 1, none⟩ = some (.slice none 0 0) ∧
    wr.frozen? ⟨w.heap.size + 1 + 1, 0, none⟩ = false ∧ wr.frozen? ⟨w.heap.size + 1 + 1, 1, none⟩ = false ∧ Below (w.heap.size + 2) w2 wr) (fun i _ => (intOf i + 1).toNat)
  case atStart => exact ⟨0, .slice none 0 0, Nat.zero_le _, by simp, ⟨by simp [rowOf], .inl ⟨rfl, rfl⟩⟩, l0, l1, f0, f1, Below.refl _ _⟩
  case round =>
    obtain ⟨c, v, hc, hiv, hownk, g0, g1, k0, k1, hBk⟩ := hrel
    have hsz := hBk.size
    have a0' : wr.cell? ⟨w.heap.size, 0, none⟩ = _ := (hBk.cell (p := ⟨w.heap.size, 0, none⟩) (by simp)).trans a0
    have a1' : wr.cell? ⟨w.heap.size, 1, none⟩ = _ := (hBk.cell (p := ⟨w.heap.size, 1, none⟩) (by simp)).trans a1
    by_cases hlt : c < n
    · obtain ⟨k, hk⟩ : ∃ k, k + c + 1 = n := ⟨n - 1 - c, by omega⟩
      rw [show (n : Int) - 1 - c = (k : Int) by omega] at hiv
      subst hiv
      have b2 : (k : Int) < (n : Int) := by omega
      have b3 : k < n := by omega
      obtain ⟨xb, xo, hxa, hcx⟩ := id hX
      have e := hxa (by omega)
      subst e
      have cw := hcx k b3
      have hlb := World.block_lt_of_cell? w _ cw
      have cx0 : wr.cell? ⟨xb, xo + k, none⟩ = _ := (hBk.cell (p := ⟨xb, xo + k, none⟩) (by simp at hlb ⊢; omega)).trans ((HC.cell (p := ⟨xb, xo + k, none⟩) hlb).trans cw)
      have hop := fun t => run_numop (op := .sub) rfl t 0 (X k) (N k) (HN.out k b3).1 (HN.out k b3).2
      have hrow : rowOf (fun j => if j = c then N k else N (n - 1 - j)) (c + 1) = rowOf (fun j => N (n - 1 - j)) (c + 1) := rowOf_congr (fun j _ => by
        by_cases hj : j = c
        · rw [if_pos hj, hj, show n - 1 - c = k by omega]
        · rw [if_neg hj])
      have z0 : w.heap.size < wr.heap.size := by omega
      have z2 : w.heap.size + 1 + 1 < wr.heap.size := by omega
      have zx : xb < wr.heap.size := by simp at hlb; omega
      have HH := Lib.hid hBk
      clear hcx hxa cw a0 a1 l0 l1 f0 f1 r0 r1 q0 q1 hBk
      go_wp2_with fail
      go_region_law (refine step_push (w0 := wr.drew) (u := N k) (ad := wr.heap.size) hi hz0 hz1 hz2 rfl (s := .tmp 20) (x := .tmp 27) rfl rfl rfl (by rfl) (by exact hownk) (by omega) (by show _ ≤ wr.heap.size; omega) (fun v2 w3 hown2 hB2 => ?_); rw [hrow] at hown2; obtain ⟨za, zc, rfl, _, _, _⟩ := rd_of_own hown2; have g0' := (hB2.cell (p := ⟨w.heap.size + 1 + 1, 0, none⟩) (by simp)).trans g0; have g1' := (hB2.cell (p := ⟨w.heap.size + 1 + 1, 1, none⟩) (by simp)).trans g1; have k0' := (hB2.frozen (p := ⟨w.heap.size + 1 + 1, 0, none⟩) (by simp)).trans k0; have k1' := (hB2.frozen (p := ⟨w.heap.size + 1 + 1, 1, none⟩) (by simp)).trans k1)
      all_goals go_wp2
      all_goals go_roundw
      all_goals first
        | exact ⟨c + 1, _, by omega, by first | go_num | (simp; omega), ownsRow_setCell_below hown2 (a := ⟨w.heap.size + 1 + 1, 0, none⟩) (by simp) _, by simp [go_sem, g0', g1'], by simp [go_sem, g0', g1'], by simp [go_sem, k0', k1'], by simp [go_sem, k0', k1'], ((Below.drewN HH.out 1).trans (hB2.mono (by omega))).setCell (p := ⟨w.heap.size + 1 + 1, 0, none⟩) (by simp) _⟩
        | (simp [intOf]; done)
        | (simp [intOf]; omega)
    · have hcn : n = c := by omega
      subst hcn
      rw [show (n : Int) - 1 - n = -1 by omega] at hiv
      subst hiv
      have hvl : ∀ g k, v = .slice (some ⟨g, 0, none⟩) n k → g < wr.heap.size := by
        rintro g k rfl
        exact own_lt hownk
      have hsz0 : w.heap.size + 3 ≤ wr.heap.size := by omega
      have HH := Lib.hid hBk
      have r0' := (hBk.cell (p := ⟨w.heap.size + 1, 0, none⟩) (by simp)).trans r0
      have r1' := (hBk.cell (p := ⟨w.heap.size + 1, 1, none⟩) (by simp)).trans r1
      have q0' := (hBk.frozen (p := ⟨w.heap.size + 1, 0, none⟩) (by simp)).trans q0
      have q1' := (hBk.frozen (p := ⟨w.heap.size + 1, 1, none⟩) (by simp)).trans q1
      clear a0 a1 l0 l1 f0 f1 r0 r1 q0 q1 hBk
      go_wp2
      go_loopw [6] (fun i wz => ∃ (d : Nat) (u : Value), d ≤ m ∧ i = .int .i64 ((m : Int) - 1 - d) ∧ wz.ownsRow wr.heap.size 43 1 u d (rowOf (fun j => Y (m - 1 - j)) d) ∧ wz.cell? ⟨w.heap.size + 1 + 1, 0, none⟩ = some v ∧ wz.cell? ⟨w.heap.size + 1 + 1, 1, none⟩ = some u ∧
        wz.frozen? ⟨w.heap.size + 1 + 1, 0, none⟩ = false ∧ wz.frozen? ⟨w.heap.size + 1 + 1, 1, none⟩ = false ∧ Below (w.heap.size + 2) wr wz ∧ wz.ownsRow (w.heap.size + 3) 43 1 v n (rowOf (fun j => N (n - 1 - j)) n)) (fun i _ => (intOf i + 1).toNat)
      case atStart => exact ⟨0, .slice none 0 0, Nat.zero_le _, by simp, ⟨by simp [rowOf], .inl ⟨rfl, rfl⟩⟩, g0, g1, k0, k1, Below.refl _ _, hownk⟩
      case round =>
        obtain ⟨d, u, hd, hiv, hownu, y0, y1, x0, x1, hBz, hownv⟩ := hrel
        have hsy := hBz.size
        have e0 : wr.cell? ⟨w.heap.size, 0, none⟩ = _ := (hBz.cell (p := ⟨w.heap.size, 0, none⟩) (by simp)).trans a0'
        have e1 : wr.cell? ⟨w.heap.size, 1, none⟩ = _ := (hBz.cell (p := ⟨w.heap.size, 1, none⟩) (by simp)).trans a1'
        by_cases hlt2 : d < m
        · obtain ⟨k, hk⟩ : ∃ k, k + d + 1 = m := ⟨m - 1 - d, by omega⟩
          rw [show (m : Int) - 1 - d = (k : Int) by omega] at hiv
          subst hiv
          have b2 : (k : Int) < (m : Int) := by omega
          have b3 : k < m := by omega
          obtain ⟨yb, yo, hya, hcy⟩ := id hY
          have e := hya (by omega)
          subst e
          have cw := hcy k b3
          have hlb := World.block_lt_of_cell? w _ cw
          have cy0 : wr.cell? ⟨yb, yo + k, none⟩ = _ := (hBz.cell (p := ⟨yb, yo + k, none⟩) (by simp at hlb ⊢; omega)).trans ((HH.out.cell (p := ⟨yb, yo + k, none⟩) (by simp at hlb ⊢; omega)).trans ((HC.cell (p := ⟨yb, yo + k, none⟩) hlb).trans cw))
          have hrow : rowOf (fun j => if j = d then Y k else Y (m - 1 - j)) (d + 1) = rowOf (fun j => Y (m - 1 - j)) (d + 1) := rowOf_congr (fun j _ => by
            by_cases hj : j = d
            · rw [if_pos hj, hj, show m - 1 - d = k by omega]
            · rw [if_neg hj])
          have z0 : w.heap.size < wr.heap.size := by omega
          have z2 : w.heap.size + 1 + 1 < wr.heap.size := by omega
          have zx : yb < wr.heap.size := by simp at hlb; omega
          have HZ := Lib.hid hBz
          clear hcy hya cw hBz
          go_wp2_with fail
          go_region_law (refine step_push (w0 := wr.drew) (u := Y k) (ad := wr.heap.size) hi hz0 hz1 hz2 rfl (s := .tmp 39) (x := .tmp 45) rfl rfl rfl (by rfl) (by exact hownu) (by omega) (by show _ ≤ wr.heap.size; omega) (fun v2 w3 hown2 hB2 => ?_); rw [hrow] at hown2; obtain ⟨za, zc, rfl, _, _, _⟩ := rd_of_own hown2; have y0' := (hB2.cell (p := ⟨w.heap.size + 1 + 1, 0, none⟩) (by show w.heap.size + 1 + 1 < _; omega)).trans y0; have y1' := (hB2.cell (p := ⟨w.heap.size + 1 + 1, 1, none⟩) (by show w.heap.size + 1 + 1 < _; omega)).trans y1; have x0' := (hB2.frozen (p := ⟨w.heap.size + 1 + 1, 0, none⟩) (by show w.heap.size + 1 + 1 < _; omega)).trans x0; have x1' := (hB2.frozen (p := ⟨w.heap.size + 1 + 1, 1, none⟩) (by show w.heap.size + 1 + 1 < _; omega)).trans x1; have hov := own_keep (w := wr.drew) (by exact hownv) hvl hB2)
          all_goals go_wp2
          all_goals go_roundw
          all_goals first
            | exact ⟨d + 1, _, by omega, by first | go_num | (simp; omega), ownsRow_setCell_below hown2 (a := ⟨w.heap.size + 1 + 1, 1, none⟩) (by show w.heap.size + 1 + 1 < _; omega) _, by simp [go_sem, y0', y1'], by simp [go_sem, y0', y1'], by simp [go_sem, x0', x1'], by simp [go_sem, x0', x1'], ((Below.drewN HZ.out 1).trans (hB2.mono (by omega))).setCell (p := ⟨w.heap.size + 1 + 1, 1, none⟩) (by simp) _, ownsRow_setCell_below hov (a := ⟨w.heap.size + 1 + 1, 1, none⟩) (by simp) _⟩
            | (simp [intOf]; done)
            | (simp [intOf]; omega)
        · have hdm : m = d := by omega
          subst hdm
          rw [show (m : Int) - 1 - m = -1 by omega] at hiv
          subst hiv
          obtain ⟨va, vc, rfl, _, _, _⟩ := rd_of_own hownv
          obtain ⟨ua, uc, rfl, _, _, _⟩ := rd_of_own hownu
          have c0 := (hBz.cell (p := ⟨w.heap.size + 1, 0, none⟩) (by simp)).trans r0'
          have c1 := (hBz.cell (p := ⟨w.heap.size + 1, 1, none⟩) (by simp)).trans r1'
          have s0 := (hBz.frozen (p := ⟨w.heap.size + 1, 0, none⟩) (by simp)).trans q0'
          have s1 := (hBz.frozen (p := ⟨w.heap.size + 1, 1, none⟩) (by simp)).trans q1'
          have HD := (HC.trans (HH.out.mono (by omega))).trans (hBz.mono (by omega))
          go_wp2
          exact bodyPost_ret (v := .tuple #[.agg #[.slice va n vc, .slice ua m uc], .bool true]) (by simp [results, Try.results44, go_sem, c0, c1]) rfl
            ⟨_, _, rfl, own_mono0 (ownsRow_setCell_below (ownsRow_setCell_below hownv (a := ⟨w.heap.size + 1, 0, none⟩) (by simp) _) (a := ⟨w.heap.size + 1, 1, none⟩) (by simp) _) (by omega),
              own_mono0 (ownsRow_setCell_below (ownsRow_setCell_below hownu (a := ⟨w.heap.size + 1, 0, none⟩) (by show w.heap.size + 1 < _; omega) _) (a := ⟨w.heap.size + 1, 1, none⟩) (by show w.heap.size + 1 < _; omega) _) (by omega),
              (HD.setCell (p := ⟨w.heap.size + 1, 0, none⟩) (by simp) _).setCell (p := ⟨w.heap.size + 1, 1, none⟩) (by simp) _⟩
set_option maxRecDepth 100000 in
set_option maxHeartbeats 3200000 in
theorem specTurn_no (xa ya : Option Addr) (n m cx cy : Nat) (X Y : Nat → Nat) (w : World) (hX : Rd w xa n X) (hY : Rd w ya m Y) (hn : n ≤ 1048576) (hm : m ≤ 1048576) (hok : stepsOk X n Y m = false) :
    Calls Try.prog 44 #[.agg #[.slice xa n cx, .slice ya m cy]] w fun e w' => e = .returned (.tuple #[.agg #[.slice none 0 0, .slice none 0 0], .bool false]) ∧ Below w.heap.size w w' := by
  go_enter Try.func44, Try.ntmps44
  go_wp2_with fail
  refine (l02Is_any w.heap.size xa ya n m cx cy X Y _ (by simp [go_sem]) (by simp [go_sem]) (by exact (hX.alloc _).alloc _) (by exact (hY.alloc _).alloc _) hn hm).mono ?_
  rintro e0 w1 ⟨rfl, q, rfl⟩
  rw [hok]
  have HA : Below w.heap.size w (((w.alloc (Obj.cells #[Value.slice xa n cx, Value.slice ya m cy] 62)).alloc (Obj.cells #[Value.slice none 0 0, Value.slice none 0 0] 62)).drewN q) := Below.drewN (((Below.refl _ _).alloc (Nat.le_refl _) _).alloc (by simp) _) q
  go_wp2
  exact bodyPost_ret (v := .tuple #[.agg #[.slice none 0 0, .slice none 0 0], .bool false]) (by simp [results, Try.results44, go_sem]) rfl
    ⟨rfl, (HA.setCell (p := ⟨w.heap.size + 1, 0, none⟩) (by simp) _).setCell (p := ⟨w.heap.size + 1, 1, none⟩) (by simp) _⟩
/-- Of finite numbers: what 0 less each one is, is a number. -/
theorem neg_num {X : Nat → Nat} {n : Nat} (h : finL X n = true) : ∀ i, i < n → fbin .sub .f32 0 (X i) = fbin .sub .f32 0 (X i) ∧ isNaN .f32 (fbin .sub .f32 0 (X i)) = false :=
  fun i hi => ⟨rfl, nan_sub (by decide +kernel) (finL_at h i hi)⟩
end Go.Proofs.Ytbblohjldkpcnab
