
/- Steps, cloned: two lists of their own. -/
import Derived.Test.YtbblohjldkpcnabCl0
import Derived.Test.YtbblohjldkpcnabSt
namespace Go.Proofs.Ytbblohjldkpcnab
open Go Go.ChangeShapes Go.WideShapes Go.ChangeAt Go.RowKit

/-- A list that is empty, or one's own. -/
def Mine (w : World) (B n : Nat) (a : Option Addr) (c : Nat) (X : Nat → Nat) : Prop := n = 0 ∨ ∃ g, a = some ⟨g, 0, none⟩ ∧ w.ownsRow B 43 1 (.slice (some ⟨g, 0, none⟩) n c) n (rowOf X n)
theorem Mine.below {w w' : World} {B n c : Nat} {a : Option Addr} {X : Nat → Nat} (h : Mine w B n a c X) (hb : Below w.heap.size w w') : Mine w' B n a c X := by
  rcases h with h | ⟨g, h1, h2⟩
  · exact .inl h
  · exact .inr ⟨g, h1, own_below h2 hb⟩
theorem Mine.mono {w : World} {B B' n c : Nat} {a : Option Addr} {X : Nat → Nat} (h : Mine w B n a c X) (hB : B' ≤ B) : Mine w B' n a c X := by
  rcases h with h | ⟨g, h1, h2⟩
  · exact .inl h
  · exact .inr ⟨g, h1, own_mono0 h2 hB⟩
/-- Two lists in two blocks, or one of them empty. -/
def Apart (n m : Nat) (a b : Option Addr) : Prop := n = 0 ∨ m = 0 ∨ ∃ g h, a = some ⟨g, 0, none⟩ ∧ b = some ⟨h, 0, none⟩ ∧ g ≠ h
theorem apart_of {w w' : World} {B n m c d : Nat} {a b : Option Addr} {X Y : Nat → Nat} (h1 : Mine w B n a c X) (h2 : Mine w' w.heap.size m b d Y) : Apart n m a b := by
  rcases h1 with h1 | ⟨g, h1, o1⟩
  · exact .inl h1
  rcases h2 with h2 | ⟨h, h2, o2⟩
  · exact .inr (.inl h2)
  exact .inr (.inr ⟨g, h, h1, h2, by have := own_lt o1; have := own_ge o2; omega⟩)
def CloneQ (n : Nat) (X : Nat → Nat) (w : World) (e : Ending) (w' : World) : Prop := ∃ a c, e = .returned (.slice a n c) ∧ Mine w' w.heap.size n a c X ∧ Below w.heap.size w w'
theorem cloneQ_any (xa : Option Addr) (n cap : Nat) (X : Nat → Nat) (w : World) (hX : Rd w xa n X) (hn : n ≤ 1048576) :
    Calls Try.prog 108 #[.slice xa n cap] w (CloneQ n X w) := by
  by_cases h0 : n = 0
  · subst h0
    refine (clone0_any xa cap w).mono ?_
    rintro e w' ⟨a, c, rfl, hb⟩
    exact ⟨a, c, rfl, .inl rfl, hb⟩
  · refine (clone_any xa n cap X w hX (by omega) hn).mono ?_
    rintro e w' ⟨g, c, rfl, ho, hb⟩
    exact ⟨_, c, rfl, .inr ⟨g, rfl, ho⟩, hb⟩
theorem Apart.symm {n m : Nat} {a b : Option Addr} (h : Apart n m a b) : Apart m n b a := by
  rcases h with h | h | ⟨g, k, h1, h2, h3⟩
  · exact .inr (.inl h)
  · exact .inl h
  · exact .inr (.inr ⟨k, g, h2, h1, Ne.symm h3⟩)
theorem Mine.set {w : World} {B n c : Nat} {a : Option Addr} {X : Nat → Nat} (h : Mine w B n a c X) {p : Addr} (hp : p.block < B) (v : Value) : Mine (w.setCell p v) B n a c X := by
  rcases h with h | ⟨g, h1, h2⟩
  · exact .inl h
  · exact .inr ⟨g, h1, ownsRow_setCell_below h2 hp v⟩
/-- What a copy of steps is. -/
def CloneSt (n : Nat) (X : Nat → Nat) (m : Nat) (Y : Nat → Nat) (w : World) (e : Ending) (w' : World) : Prop :=
  ∃ a c b d, e = .returned (.agg #[.slice a n c, .slice b m d]) ∧ Mine w' w.heap.size n a c X ∧ Mine w' w.heap.size m b d Y ∧ Apart n m a b ∧ Below w.heap.size w w'
set_option maxRecDepth 100000 in
set_option maxHeartbeats 3200000 in
theorem cloneSteps_any (xa ya : Option Addr) (n m cx cy : Nat) (X Y : Nat → Nat) (w : World) (hX : Rd w xa n X) (hY : Rd w ya m Y) (hn : n ≤ 1048576) (hm : m ≤ 1048576) :
    Calls Try.prog 103 #[.agg #[.slice xa n cx, .slice ya m cy]] w (CloneSt n X m Y w) := by
  go_enter Try.func103, Try.ntmps103
  go_wp2_with fail
  have hx : Rd (((w.alloc (Obj.cells #[Value.slice xa n cx, Value.slice ya m cy] 62)).alloc (Obj.cells #[Value.slice none 0 0, Value.slice none 0 0] 62)).drew) xa n X := by exact (hX.alloc _).alloc _
  have hy : Rd (((w.alloc (Obj.cells #[Value.slice xa n cx, Value.slice ya m cy] 62)).alloc (Obj.cells #[Value.slice none 0 0, Value.slice none 0 0] 62)).drew) ya m Y := by exact (hY.alloc _).alloc _
  have HA : Below w.heap.size w (((w.alloc (Obj.cells #[Value.slice xa n cx, Value.slice ya m cy] 62)).alloc (Obj.cells #[Value.slice none 0 0, Value.slice none 0 0] 62)).drew) := Below.drewN (((Below.refl _ _).alloc (Nat.le_refl _) _).alloc (by simp) _) 1
  have hZ : (((w.alloc (Obj.cells #[Value.slice xa n cx, Value.slice ya m cy] 62)).alloc (Obj.cells #[Value.slice none 0 0, Value.slice none 0 0] 62)).drew).heap.size = w.heap.size + 2 := by simp [World.drew]
  go_region_with (first
    | (go_at_call_of 108 (Value.slice xa n cx); refine (cloneQ_any xa n cx X _ (by first | exact hx | exact hx.below B2) hn).mono ?_; rintro e0 w5 ⟨a, c, rfl, M1, B1⟩; obtain ⟨hc5, hf5⟩ := bcell B1; have hs5 := B1.size; have hl5 : w.heap.size < w5.heap.size := (by omega); have hk5 : w.heap.size + 1 < w5.heap.size := (by omega))
    | (go_at_call_of 108 (Value.slice ya m cy); refine (cloneQ_any ya m cy Y _ (by first | exact hy | exact hy.below B1) hm).mono ?_; rintro e0 w8 ⟨b, d, rfl, M2, B2⟩; obtain ⟨hc8, hf8⟩ := bcell B2; have hs8 := B2.size; have hl8 : w.heap.size < w8.heap.size := (by omega); have hk8 : w.heap.size + 1 < w8.heap.size := (by omega)))
  all_goals go_wp2
  all_goals first
    | exact bodyPost_ret (v := .agg #[.slice a n c, .slice b m d]) (by simp [results, Try.results103, go_sem, hc8, hc5, hl5, hk5]) rfl ⟨a, c, b, d, rfl, (((M1.below B2).set (by simp [hZ]) _).set (by simp [hZ]) _).mono (by omega), ((M2.set (by simp; omega) _).set (by simp; omega) _).mono (by omega), apart_of M1 M2, ((HA.trans (B1.mono (by omega))).trans (B2.mono (by omega))).setCell (by simp) _ |>.setCell (by simp) _⟩
    | exact bodyPost_ret (v := .agg #[.slice a n c, .slice b m d]) (by simp [results, Try.results103, go_sem, hc5, hc8, hl8, hk8]) rfl ⟨a, c, b, d, rfl, ((M1.set (by simp; omega) _).set (by simp; omega) _).mono (by omega), (((M2.below B1).set (by simp [hZ]) _).set (by simp [hZ]) _).mono (by omega), (apart_of M2 M1).symm, ((HA.trans (B2.mono (by omega))).trans (B1.mono (by omega))).setCell (by simp) _ |>.setCell (by simp) _⟩
end Go.Proofs.Ytbblohjldkpcnab
