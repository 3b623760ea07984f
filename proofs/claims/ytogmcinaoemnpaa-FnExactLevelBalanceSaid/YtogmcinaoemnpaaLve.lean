
/- A flow of levels, as the program takes it from rates. -/
import Derived.Test.YtogmcinaoemnpaaLvd
namespace Go.Proofs.Ytogmcinaoemnpaa
set_option linter.all false
open Go Go.ChangeShapes Go.WideShapes Go.ChangeAt Go.RowKit

/-- What flowOf tells. -/
def FlowRet (a : Int) (ra : Option Addr) (L rc : Nat) (ok : Bool) (w : World) (e : Ending) (w' : World) : Prop :=
  (ok = false ∧ e = .returned (.tuple #[.agg #[.int .i64 0, .slice none 0 0], .bool false]) ∧ Below w.heap.size w w') ∨
  (ok = true ∧ e = .returned (.tuple #[.agg #[.int .i64 a, .slice ra L rc], .bool true]) ∧ Below w.heap.size w w')
theorem below_cells {w w1 : World} (h : Below w.heap.size w w1) (u v : Value) : Below w.heap.size w ((w1.setCell ⟨w.heap.size, 0, none⟩ u).setCell ⟨w.heap.size, 1, none⟩ v) :=
  (h.setCell (p := ⟨w.heap.size, 0, none⟩) (Nat.le_refl _) _).setCell (p := ⟨w.heap.size, 1, none⟩) (Nat.le_refl _) _
set_option maxRecDepth 100000 in
set_option maxHeartbeats 3200000 in
theorem flowOf_any (a : Int) (ra : Option Addr) (L rc : Nat) (A : Nat → Nat) (w : World) (hA : Rd w ra L A) (hLm : L ≤ 1048576) (ok : Bool) (hok : Hid (ok = lvOk a L A)) :
    Calls Try.prog 49 #[.int .i64 a, .slice ra L rc] w (FlowRet a ra L rc ok w) := by
  have HA : Below w.heap.size w (w.alloc (Obj.cells #[Value.int .i64 0, Value.slice none 0 0] 69)) := (Below.refl _ _).alloc (Nat.le_refl _) _
  have HG := Lib.hid (fun w hA => areAtLeastZero_any ra L rc A w hA hLm)
  have hst2 := fun (x : Int) (ad : Addr) (m : Mode) (w : World) => (run_store Try.prog w ad (.int .i64 x) m rfl : (store ad (.int .i64 x) m).run Try.prog w = stored Try.prog w ad (.int .i64 x) m)
  cases h1 : inB a 1 6
  · have e : ok = false := by rw [hok.out, lvOk, h1]; rfl
    subst e
    have h12 : a < 1 ∨ 6 < a := by
      unfold inB at h1
      simp only [Bool.and_eq_false_iff, decide_eq_false_iff_not] at h1
      omega
    clear hok HG
    by_cases h3 : a < 1
    · go_enter Try.func49, Try.ntmps49
      go_wp2
      exact bodyPost_ret (v := .tuple #[.agg #[.int .i64 0, .slice none 0 0], .bool false]) (by simp [results, Try.results49, go_sem]) rfl (.inl ⟨rfl, rfl, (by first | exact HA | exact below_cells HA _ _)⟩)
    · have h4 : a > 6 := by omega
      go_enter Try.func49, Try.ntmps49
      go_wp2
      exact bodyPost_ret (v := .tuple #[.agg #[.int .i64 0, .slice none 0 0], .bool false]) (by simp [results, Try.results49, go_sem]) rfl (.inl ⟨rfl, rfl, (by first | exact HA | exact below_cells HA _ _)⟩)
  have hr := inB_rng h1
  obtain ⟨N, rfl⟩ : ∃ N : Nat, a = (N : Int) := ⟨a.toNat, by omega⟩
  have hN1 : ¬ (N : Int) < 1 := by omega
  have hN6 : ¬ (N : Int) > 6 := by omega
  have hmw := mul_wrap (n := N) (i := N) (by omega) (by omega)
  obtain ⟨M, hM⟩ : ∃ M, M = N * N := ⟨_, rfl⟩
  have hM36 : M ≤ 36 := by rw [hM]; exact idx_small (by omega) (by omega)
  rw [← hM] at hmw
  have hMM : (N : Int) * (N : Int) = (M : Int) := by rw [← Int.natCast_mul, hM]
  by_cases h2 : L = M
  case neg =>
    have e : ok = false := by rw [hok.out, lvOk, h1, hMM, decide_eq_false (by omega)]; rfl
    subst e
    have hne : ((L : Int) != (M : Int)) = true := by simpa using (by omega : ¬ (L : Int) = (M : Int))
    clear hM HG hok hr hMM
    go_enter Try.func49, Try.ntmps49
    go_wp2
    exact bodyPost_ret (v := .tuple #[.agg #[.int .i64 0, .slice none 0 0], .bool false]) (by simp [results, Try.results49, go_sem]) rfl (.inl ⟨rfl, rfl, (by first | exact HA | exact below_cells HA _ _)⟩)
  subst h2
  have hne : ((L : Int) != (L : Int)) = false := by simp
  have HR := Lib.hid (show ok = (gL A L && diag A N) by rw [hok.out, lvOk, h1, hMM, decide_eq_true rfl, Int.toNat_natCast]; rfl)
  have HM := Lib.hid hM
  clear hM hok hMM h1
  cases hg : gL A L
  · have e : ok = false := by rw [HR.out, hg]; rfl
    subst e
    rw [hg] at HG
    go_enter Try.func49, Try.ntmps49
    go_wp2_with (go_at_call 94; refine (HG.out _ (by exact hA.below HA)).mono ?_; rintro e w' ⟨rfl, q, rfl⟩)
    exact bodyPost_ret (v := .tuple #[.agg #[.int .i64 0, .slice none 0 0], .bool false]) (by simp [results, Try.results49, go_sem]) rfl (.inl ⟨rfl, rfl, (by first | exact Below.drewN HA _ | exact below_cells (Below.drewN HA _) _ _)⟩)
  rw [hg] at HG
  have HR := Lib.hid (show ok = diag A N by rw [HR.out, hg]; rfl)
  have a0 : (w.alloc (Obj.cells #[Value.int .i64 0, Value.slice none 0 0] 69)).cell? ⟨w.heap.size, 0, none⟩ = some (.int .i64 0) := by simp
  have a1 : (w.alloc (Obj.cells #[Value.int .i64 0, Value.slice none 0 0] 69)).cell? ⟨w.heap.size, 1, none⟩ = some (.slice none 0 0) := by simp
  have a2 : (w.alloc (Obj.cells #[Value.int .i64 0, Value.slice none 0 0] 69)).frozen? ⟨w.heap.size, 0, none⟩ = false := by simp
  have a3 : (w.alloc (Obj.cells #[Value.int .i64 0, Value.slice none 0 0] 69)).frozen? ⟨w.heap.size, 1, none⟩ = false := by simp
  have A0 := Lib.hid (And.intro a0 (And.intro a1 (And.intro a2 a3)))
  clear a0 a1 a2 a3
  obtain ⟨xb, xo, hxa, hcx⟩ := id hA
  have HX := Lib.hid hcx
  have HRA := Lib.hid hA
  clear hcx hA hg
  go_enter Try.func49, Try.ntmps49
  go_wp2_with (go_at_call 94; refine (HG.out _ (by exact HRA.out.below HA)).mono ?_; rintro e w' ⟨rfl, q, rfl⟩)
  have hn0 : 1 ≤ N := by omega
  have hn6 : N ≤ 6 := by omega
  obtain ⟨w1, hw1⟩ : ∃ w1, w1 = (w.alloc (Obj.cells #[Value.int .i64 0, Value.slice none 0 0] 69)).drewN q := ⟨_, rfl⟩
  have HB1 : Below w.heap.size w w1 := by rw [hw1]; exact Below.drewN HA q
  have c0 : w1.cell? ⟨w.heap.size, 0, none⟩ = some (.int .i64 0) := by rw [hw1]; exact A0.out.1
  have c1 : w1.cell? ⟨w.heap.size, 1, none⟩ = some (.slice none 0 0) := by rw [hw1]; exact A0.out.2.1
  have f0 : w1.frozen? ⟨w.heap.size, 0, none⟩ = false := by rw [hw1]; exact A0.out.2.2.1
  have f1 : w1.frozen? ⟨w.heap.size, 1, none⟩ = false := by rw [hw1]; exact A0.out.2.2.2
  rw [← hw1]
  clear hw1 HA HG
  go_loop [28] (fun i => ∃ c : Nat, c ≤ N ∧ i = .int .i64 (c : Int) ∧ Hid (∀ j, j < c → isZ (A (j * N + j)) = true)) (fun i => N - (intOf i).toNat)
  case atStart => exact ⟨0, Nat.zero_le _, rfl, Lib.hid fun j hj => absurd hj (Nat.not_lt_zero _)⟩
  case round =>
    obtain ⟨c, hc, rfl, HF⟩ := hrel
    by_cases hlt : c < N
    · have hidx : c * N + c < L := by rw [HM.out]; exact idx_lt hlt hlt
      have e := hxa (by omega)
      subst e
      have r1 := HX.out (c * N + c) hidx
      have r2 : w1.cell? ⟨xb, xo + (c * N + c), none⟩ = some (.float .f32 (A (c * N + c))) := (HB1.cell (p := ⟨xb, xo + (c * N + c), none⟩) (World.block_lt_of_cell? w _ r1)).trans r1
      have hmw2 := mul_wrap (n := N) (i := c) hn6 (by omega)
      have haw : ((c * N : Nat) : Int) + (c : Int) = ((c * N + c : Nat) : Int) := by omega
      have HZ := Lib.hid (show isZ (A (c * N + c)) = false → ok = false from fun h => by rw [HR.out, diag_no hlt h])
      have HY := Lib.hid (show isZ (A (c * N + c)) = true → ∀ j, j < c + 1 → isZ (A (j * N + j)) = true from fun h j hj => by
        by_cases hj' : j < c
        · exact HF.out j hj'
        · rw [show j = c by omega]; exact h)
      obtain ⟨p, hp⟩ : ∃ p, p = c * N + c := ⟨_, rfl⟩
      obtain ⟨m, hmn⟩ : ∃ m, m = c * N := ⟨_, rfl⟩
      rw [← hp] at r2 hidx haw HZ HY
      rw [← hmn] at hmw2 haw
      have hpw : IntKind.i64.wrap ((m : Int) + (c : Int)) = (p : Int) := by rw [haw, IntKind.wrap_i64]; omega
      have hcN : (c : Int) < (N : Int) := by omega
      clear r1 hp hmn
      cases hzz : isZ (A p)
      · have hz2 : (FloatKind.f32.format.order (A p) 0 != some .eq) = true := by unfold isZ at hzz; simp only [bne, hzz]; rfl
        have e : ok = false := HZ.out hzz
        subst e
        go_wp2
        exact bodyPost_ret (v := .tuple #[.agg #[.int .i64 0, .slice none 0 0], .bool false]) (by simp [results, Try.results49, go_sem, c0, c1]) rfl (.inl ⟨rfl, rfl, (by first | exact HB1 | exact below_cells HB1 _ _)⟩)
      · have hz2 : (FloatKind.f32.format.order (A p) 0 != some .eq) = false := by unfold isZ at hzz; simp only [bne, hzz]; rfl
        have HF' := Lib.hid (HY.out hzz)
        go_wp2
        go_round
        case rel => exact ⟨c + 1, by omega, by go_num, HF'⟩
        case measure => simp [intOf]; omega
    · have hcn : c = N := by omega
      subst hcn
      have e : ok = true := by rw [HR.out, diag_yes HF.out]
      subst e
      go_wp2
      exact bodyPost_ret (v := .tuple #[.agg #[.int .i64 (c : Int), .slice ra L rc], .bool true]) (by simp [results, Try.results49, go_sem, c0, c1]) rfl (.inr ⟨rfl, rfl, (by first | exact HB1 | exact below_cells HB1 _ _)⟩)
end Go.Proofs.Ytogmcinaoemnpaa
