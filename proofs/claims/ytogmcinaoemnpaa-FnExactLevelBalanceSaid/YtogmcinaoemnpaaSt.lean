
/- The laws' own helpers on steps (two rows of numbers in a struct): what weighs, copies and compares them. -/
import Derived.Test.YtogmcinaoemnpaaFinL
import Derived.Test.YtogmcinaoemnpaaOut
import Derived.Lib.SmallJoins
import Derived.Test.YtogmcinaoemnpaaLiC
namespace Go.Proofs.Ytogmcinaoemnpaa
open Go Go.ChangeShapes Go.WideShapes Go.ChangeAt Go.RowKit

theorem bcell {w w1 : World} (hb : Below w.heap.size w w1) : (∀ b o, b < w.heap.size → w1.cell? ⟨b, o, none⟩ = w.cell? ⟨b, o, none⟩) ∧ (∀ b o, b < w.heap.size → w1.frozen? ⟨b, o, none⟩ = w.frozen? ⟨b, o, none⟩) :=
  ⟨fun b o h => hb.cell (p := ⟨b, o, none⟩) h, fun b o h => hb.frozen (p := ⟨b, o, none⟩) h⟩
theorem Rd.alloc {w : World} {xa : Option Addr} {n : Nat} {X : Nat → Nat} (h : Rd w xa n X) (o : Obj) : Rd (w.alloc o) xa n X := h.below ((Below.refl _ _).alloc (Nat.le_refl _) o)
/-- A variable of two cells. -/
def Box2 (w : World) (b : Nat) (u v : Value) : Prop := w.cell? ⟨b, 0, none⟩ = some u ∧ w.cell? ⟨b, 1, none⟩ = some v
theorem Box2.below {w w' : World} {b : Nat} {u v : Value} (h : Box2 w b u v) (hb : Below w.heap.size w w') : Box2 w' b u v :=
  ⟨(hb.cell (p := ⟨b, 0, none⟩) (World.block_lt_of_cell? w _ h.1)).trans h.1, (hb.cell (p := ⟨b, 1, none⟩) (World.block_lt_of_cell? w _ h.2)).trans h.2⟩
theorem box2_alloc (w : World) (u v : Value) (t : Nat) : Box2 (w.alloc (.cells #[u, v] t)) w.heap.size u v := ⟨by simp, by simp⟩
theorem szSteps_yes (xa ya : Option Addr) (n m cx cy : Nat) (L : Int) (w : World) (h : (n : Int) + m ≤ L) (hL : L ≤ 1048576) :
    Calls Try.prog 18 #[.agg #[.slice xa n cx, .slice ya m cy], .int .i64 L] w fun e w' => e = .returned (.int .i64 (L - n - m)) ∧ Below w.heap.size w w' := by
  go_enter Try.func18, Try.ntmps18
  go_wp2_with (go_at_call 57; go_in)
  go_ret
  exact ⟨rfl, (Below.refl _ _).alloc (Nat.le_refl _) _⟩
theorem szSteps_no (xa ya : Option Addr) (n m cx cy : Nat) (L : Int) (w : World) (h : L < (n : Int) + m) (h0 : 0 ≤ L) (hL : L ≤ 1048576) (hn : n ≤ maxLen) (hm : m ≤ maxLen) :
    Calls Try.prog 18 #[.agg #[.slice xa n cx, .slice ya m cy], .int .i64 L] w fun e w' => e = .returned (.int .i64 (-1)) ∧ Below w.heap.size w w' := by
  unfold maxLen at hn hm
  by_cases h1 : L < (n : Int)
  · clear h
    go_enter Try.func18, Try.ntmps18
    go_wp2_with (go_at_call 57; go_in)
    go_ret
    exact ⟨rfl, (Below.refl _ _).alloc (Nat.le_refl _) _⟩
  · have h2 : (n : Int) ≤ L := by omega
    have h3 : L - n - m < 0 := by omega
    clear h h1
    go_enter Try.func18, Try.ntmps18
    go_wp2_with (go_at_call 57; go_in)
    go_ret
    exact ⟨rfl, (Below.refl _ _).alloc (Nat.le_refl _) _⟩
/-- Steps that are a copy: both rows are new. -/
def CopiedS (w : World) (n : Nat) (X : Nat → Nat) (m : Nat) (Y : Nat → Nat) (e : Ending) (w' : World) : Prop :=
  ∃ g h, e = .returned (.agg #[.slice (some ⟨g, 0, none⟩) n n, .slice (some ⟨h, 0, none⟩) m m]) ∧ w'.ownsRow w.heap.size 32 1 (.slice (some ⟨g, 0, none⟩) n n) n (rowOf X n) ∧
    w'.ownsRow w.heap.size 32 1 (.slice (some ⟨h, 0, none⟩) m m) m (rowOf Y m) ∧ g < h ∧ Below w.heap.size w w'
theorem own_mono {w : World} {B B' e : Nat} {v : Value} {n : Nat} {xs : List Value} (h : w.ownsRow B e 1 v n xs) (hB : B' ≤ B) : w.ownsRow B' e 1 v n xs := by
  refine ⟨h.1, ?_⟩
  rcases h.2 with h2 | ⟨g, cap, cur, h1, h2, h3⟩
  · exact .inl h2
  · exact .inr ⟨g, cap, cur, h1, Nat.le_trans hB h2, h3⟩
set_option maxHeartbeats 1600000 in
theorem toSteps_any (xa ya : Option Addr) (n m cx cy : Nat) (X Y : Nat → Nat) (w : World) (hX : Rd w xa n X) (hY : Rd w ya m Y) (hn : n ≤ 1048576) (hm : m ≤ 1048576) :
    Calls Try.prog 20 #[.agg #[.slice xa n cx, .slice ya m cy]] w (CopiedS w n X m Y) := by
  go_enter Try.func20, Try.ntmps20
  go_wp2_with fail
  refine (toF_any _ _ _ X _ (by exact ((hX.alloc _).alloc _).alloc _) hn).mono ?_
  rintro e0 w1 ⟨rfl, O1, B1⟩
  obtain ⟨hc1, hf1⟩ := bcell B1
  have HA : Below w.heap.size w w1 := ((((Below.refl _ _).alloc (Nat.le_refl _) _).alloc (by simp) _).alloc (by simp; omega) _).trans (B1.mono (by simp; omega))
  have hz1 : w.heap.size + 3 ≤ w1.heap.size := by have := B1.size; simp at this; omega
  have hz0 : w.heap.size + 1 + 1 + 1 < w1.heap.size := by
    have h3 := O1.2
    rcases h3 with ⟨h3, _⟩ | ⟨g, cap, cur, h3, _, h4, _⟩
    · cases h3
    · simp only [Value.slice.injEq, Option.some.injEq, Addr.mk.injEq] at h3
      have h5 := (Array.getElem?_eq_some_iff.1 h4).1
      rw [← h3.1.1] at h5
      simpa using h5
  have hb1 : (w.heap.size + 2) < (((w.alloc (Obj.cells #[Value.slice xa n cx, Value.slice ya m cy] 31)).alloc (Obj.cells #[Value.slice none 0 0, Value.slice none 0 0] 34)).alloc (Obj.cells #[Value.slice none 0 0, Value.slice none 0 0] 34)).heap.size := by simp
  go_wp2_with fail
  refine (toF_any _ _ _ Y _ (by exact hY.below (HA.setCell (by simp; omega) _)) hm).mono ?_
  rintro e0 w2 ⟨rfl, O2, B2⟩
  obtain ⟨hc2, hf2⟩ := bcell B2
  have hs0 : w.heap.size < w1.heap.size := by omega
  have hs1 : w.heap.size + 1 < w1.heap.size := by omega
  have hs2 : w.heap.size + 1 + 1 < w1.heap.size := by omega
  have hs2' : w.heap.size + 1 + 1 + 1 < w1.heap.size := hz0
  have O1'' := own_below (ownsRow_setCell_below O1 (a := ⟨w.heap.size + 2, 0, none⟩) hb1 (.slice (some ⟨w.heap.size + 3, 0, none⟩) n n)) B2
  go_wp2
  rw [show (w1.setCell ⟨w.heap.size + 1 + 1, 0, none⟩ (.slice (some ⟨w.heap.size + 1 + 1 + 1, 0, none⟩) n n)).heap.size = w1.heap.size by simp] at O2
  rw [show (((w.alloc (Obj.cells #[Value.slice xa n cx, Value.slice ya m cy] 31)).alloc (Obj.cells #[Value.slice none 0 0, Value.slice none 0 0] 34)).alloc (Obj.cells #[Value.slice none 0 0, Value.slice none 0 0] 34)).heap.size = w.heap.size + 1 + 1 + 1 by simp] at O1''
  have HC : Below w.heap.size w w2 := (HA.setCell (p := ⟨w.heap.size + 1 + 1, 0, none⟩) (by simp; omega) (.slice (some ⟨w.heap.size + 1 + 1 + 1, 0, none⟩) n n)).trans (B2.mono (by simp; omega))
  have F1 := fun u1 u2 u3 => own_mono (ownsRow_setCell_below (ownsRow_setCell_below (ownsRow_setCell_below O1'' (a := ⟨w.heap.size + 1 + 1, 1, none⟩) (by simp) u1) (a := ⟨w.heap.size + 1, 0, none⟩) (by simp) u2) (a := ⟨w.heap.size + 1, 1, none⟩) (by simp) u3) (B' := w.heap.size) (by omega)
  have F2 := fun u1 u2 u3 => own_mono (ownsRow_setCell_below (ownsRow_setCell_below (ownsRow_setCell_below O2 (a := ⟨w.heap.size + 1 + 1, 1, none⟩) hs2 u1) (a := ⟨w.heap.size + 1, 0, none⟩) hs1 u2) (a := ⟨w.heap.size + 1, 1, none⟩) hs1 u3) (B' := w.heap.size) (by omega)
  have F3 := fun u1 u2 u3 => ((HC.setCell (p := ⟨w.heap.size + 1 + 1, 1, none⟩) (by simp; omega) u1).setCell (p := ⟨w.heap.size + 1, 0, none⟩) (by simp) u2).setCell (p := ⟨w.heap.size + 1, 1, none⟩) (by simp) u3
  exact bodyPost_ret (v := .agg #[.slice (some ⟨w.heap.size + 1 + 1 + 1, 0, none⟩) n n, .slice (some ⟨w1.heap.size, 0, none⟩) m m]) (by simp [results, Try.results20, go_sem, hc2, hs1, hc1]) rfl
    ⟨_, _, rfl, F1 _ _ _, F2 _ _ _, hs2', F3 _ _ _⟩
set_option maxHeartbeats 800000 in
theorem eqSteps_any (xa ya xa' ya' : Option Addr) (n m cx cy cx' cy' : Nat) (X Y : Nat → Nat) (w : World) (hX : Rd w xa n X) (hY : Rd w ya m Y) (hX' : Rd w xa' n X) (hY' : Rd w ya' m Y) (hn : n ≤ 1048576) (hm : m ≤ 1048576) :
    Calls Try.prog 22 #[.agg #[.slice xa n cx, .slice ya m cy], .agg #[.slice xa' n cx', .slice ya' m cy']] w fun e w' => e = .returned (.bool true) ∧ Below w.heap.size w w' := by
  go_enter Try.func22, Try.ntmps22
  go_wp2_with fail
  refine (eqF_any _ _ _ _ _ X X _ (by exact (hX.alloc _).alloc _) (by exact (hX'.alloc _).alloc _) hn (fun _ _ => rfl)).mono ?_
  rintro e0 w1 ⟨rfl, q, rfl⟩
  go_wp2_with fail
  refine (eqF_any _ _ _ _ _ Y Y _ (by exact (hY.alloc _).alloc _) (by exact (hY'.alloc _).alloc _) hm (fun _ _ => rfl)).mono ?_
  rintro e0 w1 ⟨rfl, q2, rfl⟩
  go_wp2
  go_ret
  exact ⟨rfl, Below.drewN (((Below.refl _ _).alloc (Nat.le_refl _) _).alloc (by simp) _) _⟩
section
variable {H : Type} {enc : TypeId × Value → H} {w : World} {base : Nat} {spare : Nat → Bool} {held : Bool}
set_option maxRecDepth 100000 in
/-- An argument that is steps. -/
theorem open_st {r : Reach} {b0 : Nat} {v : Value} {d : DataW H} {p : List MemPlace} (hv : Value.okWide Try.prog w r b0 31 v) (h : DataW.Trod enc Try.prog w base spare held 31 v d p) :
    ∃ (xa : Option Addr) (n cx : Nat) (ya : Option Addr) (m cy : Nat) (X Y : Nat → Nat), v = .agg #[.slice xa n cx, .slice ya m cy] ∧ (Rd w xa n X ∧ Rd w ya m Y ∧ n ≤ maxLen ∧ m ≤ maxLen) := by
  obtain ⟨v0, v1, y0, y1, k, rfl, _, _, t0, t1⟩ := Joins.open_agg2 Try.underlying31 (by kernel_rfl) (by kernel_rfl) hv h
  obtain ⟨xa, n, cx, rfl⟩ : ∃ a len cap, v0 = .slice a len cap := by
    rcases Deep.open_slice1 Try.underlying22 cellsF t0 with ⟨h1, _⟩ | ⟨a, len', cap', m, n, V, D, Pl, hcs, _⟩
    · exact ⟨_, _, _, by simpa using h1⟩
    · exact ⟨_, _, _, by simpa using hcs⟩
  obtain ⟨ya, m, cy, rfl⟩ : ∃ a len cap, v1 = .slice a len cap := by
    rcases Deep.open_slice1 Try.underlying22 cellsF t1 with ⟨h1, _⟩ | ⟨a, len', cap', m, n, V, D, Pl, hcs, _⟩
    · exact ⟨_, _, _, by simpa using h1⟩
    · exact ⟨_, _, _, by simpa using hcs⟩
  obtain ⟨a1, a2, X, hX, _⟩ := open_f32s (d := y0.1) (ps := y0.2) Try.underlying22 Try.underlying32 cellsF ⟨k, t0⟩
  obtain ⟨b1, b2, Y, hY, _⟩ := open_f32s (d := y1.1) (ps := y1.2) Try.underlying22 Try.underlying32 cellsF ⟨k, t1⟩
  exact ⟨xa, n, cx, ya, m, cy, X, Y, rfl, hX, hY, Nat.le_trans a1 a2, Nat.le_trans b1 b2⟩
set_option maxRecDepth 100000 in
/-- .. whose numbers are words. -/
theorem open_stw {r : Reach} {b0 : Nat} {v : Value} {d : DataW H} {p : List MemPlace} (hv : Value.okWide Try.prog w r b0 31 v) (h : DataW.Trod enc Try.prog w base spare held 31 v d p) :
    ∃ (xa : Option Addr) (n cx : Nat) (ya : Option Addr) (m cy : Nat) (X Y : Nat → Nat), v = .agg #[.slice xa n cx, .slice ya m cy] ∧ (Rd w xa n X ∧ Rd w ya m Y ∧ n ≤ maxLen ∧ m ≤ maxLen ∧ (∀ i, i < n → X i < 4294967296) ∧ ∀ i, i < m → Y i < 4294967296) := by
  obtain ⟨v0, v1, y0, y1, k, rfl, _, _, t0, t1⟩ := Joins.open_agg2 Try.underlying31 (by kernel_rfl) (by kernel_rfl) hv h
  obtain ⟨xa, n, cx, rfl⟩ : ∃ a len cap, v0 = .slice a len cap := by
    rcases Deep.open_slice1 Try.underlying22 cellsF t0 with ⟨h1, _⟩ | ⟨a, len', cap', m, n, V, D, Pl, hcs, _⟩
    · exact ⟨_, _, _, by simpa using h1⟩
    · exact ⟨_, _, _, by simpa using hcs⟩
  obtain ⟨ya, m, cy, rfl⟩ : ∃ a len cap, v1 = .slice a len cap := by
    rcases Deep.open_slice1 Try.underlying22 cellsF t1 with ⟨h1, _⟩ | ⟨a, len', cap', m, n, V, D, Pl, hcs, _⟩
    · exact ⟨_, _, _, by simpa using h1⟩
    · exact ⟨_, _, _, by simpa using hcs⟩
  obtain ⟨a1, a2, X, hX, wX⟩ := open_f32s (d := y0.1) (ps := y0.2) Try.underlying22 Try.underlying32 cellsF ⟨k, t0⟩
  obtain ⟨b1, b2, Y, hY, wY⟩ := open_f32s (d := y1.1) (ps := y1.2) Try.underlying22 Try.underlying32 cellsF ⟨k, t1⟩
  exact ⟨xa, n, cx, ya, m, cy, X, Y, rfl, hX, hY, Nat.le_trans a1 a2, Nat.le_trans b1 b2, fun i hi => f32_lt (wX i hi), fun i hi => f32_lt (wY i hi)⟩
end
end Go.Proofs.Ytogmcinaoemnpaa
