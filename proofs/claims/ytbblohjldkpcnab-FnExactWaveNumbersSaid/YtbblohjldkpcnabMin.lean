
/- Marks of steps whose lists are empty or one's own. -/
import Derived.Test.YtbblohjldkpcnabSt0
import Derived.Test.YtbblohjldkpcnabCls
namespace Go.Proofs.Ytbblohjldkpcnab
open Go Go.ChangeShapes Go.WideShapes Go.ChangeAt Go.RowKit
set_option linter.all false

theorem Mine.rd {w : World} {B n c : Nat} {a : Option Addr} {X : Nat → Nat} (h : Mine w B n a c X) : Rd w a n X := by
  rcases h with rfl | ⟨g, rfl, h2⟩
  · exact ⟨0, 0, fun h => absurd h (by omega), fun i hi => absurd hi (by omega)⟩
  · exact rd_own h2
/-- A list that is empty, or lies before a block. -/
def Far (n : Nat) (a : Option Addr) (N : Nat) : Prop := n = 0 ∨ ∃ g, a = some ⟨g, 0, none⟩ ∧ g < N
theorem Mine.far {w : World} {B n c : Nat} {a : Option Addr} {X : Nat → Nat} (h : Mine w B n a c X) : Far n a w.heap.size := by
  rcases h with h | ⟨g, h1, h2⟩
  · exact .inl h
  · exact .inr ⟨g, h1, own_lt h2⟩
theorem Far.mono {n N N' : Nat} {a : Option Addr} (h : Far n a N) (hN : N ≤ N') : Far n a N' := by
  rcases h with h | ⟨g, h1, h2⟩
  · exact .inl h
  · exact .inr ⟨g, h1, Nat.lt_of_lt_of_le h2 hN⟩
/-- Only the block of the list has changed. -/
def OnlyM (n : Nat) (a : Option Addr) (w w' : World) : Prop := w' = w ∨ (n ≠ 0 ∧ ∃ g, a = some ⟨g, 0, none⟩ ∧ Only g w w')
def RestM (n : Nat) (a : Option Addr) (m : Nat) (b : Option Addr) (w w' : World) : Prop := w'.os = w.os ∧ w'.tape = w.tape ∧ w'.output = w.output ∧ w.heap.size ≤ w'.heap.size ∧
  ∀ q, q < w.heap.size → (∀ g, n ≠ 0 → a = some ⟨g, 0, none⟩ → q ≠ g) → (∀ g, m ≠ 0 → b = some ⟨g, 0, none⟩ → q ≠ g) → w'.heap[q]? = w.heap[q]?
theorem OnlyM.parts {n : Nat} {a : Option Addr} {w w' : World} (h : OnlyM n a w w') : w'.os = w.os ∧ w'.tape = w.tape ∧ w'.output = w.output ∧ w.heap.size ≤ w'.heap.size ∧
    ∀ q, q < w.heap.size → (∀ g, n ≠ 0 → a = some ⟨g, 0, none⟩ → q ≠ g) → w'.heap[q]? = w.heap[q]? := by
  rcases h with rfl | ⟨hn, g, ha, o1, o2, o3, o4, o5⟩
  · exact ⟨rfl, rfl, rfl, Nat.le_refl _, fun _ _ _ => rfl⟩
  · exact ⟨o1, o2, o3, o4, fun q hq h => o5 q hq (h g hn ha)⟩
theorem restM_of {n m : Nat} {a b : Option Addr} {w w1 w2 : World} {o : Obj} (h1 : OnlyM n a (w.alloc o) w1) (h2 : OnlyM m b w1 w2) : RestM n a m b w w2 := by
  obtain ⟨a1, a2, a3, a4, a5⟩ := h1.parts
  obtain ⟨b1, b2, b3, b4, b5⟩ := h2.parts
  have hs : (w.alloc o).heap.size = w.heap.size + 1 := by simp
  refine ⟨b1.trans a1, b2.trans a2, b3.trans a3, by omega, fun q hq f1 f2 => ?_⟩
  rw [b5 q (by omega) f2, a5 q (by omega) f1]
  exact ((Below.refl w.heap.size w).alloc (Nat.le_refl _) o).block q hq
theorem Mine.only {w w' : World} {B n m c : Nat} {a b : Option Addr} {X : Nat → Nat} (h : Mine w B n a c X) (hd : Apart n m a b) (o : OnlyM m b w w') : Mine w' B n a c X := by
  rcases h with h | ⟨g, rfl, h2⟩
  · exact .inl h
  rcases o with rfl | ⟨hm, k, rfl, o⟩
  · exact .inr ⟨g, rfl, h2⟩
  rcases hd with hd | hd | ⟨g', k', e1, e2, e3⟩
  · exact .inl hd
  · exact absurd hd hm
  · cases e1; cases e2
    exact .inr ⟨_, rfl, own_other h2 e3 o⟩
theorem Mine.rest {w w' : World} {B n c n1 m1 : Nat} {a a1 b1 : Option Addr} {X : Nat → Nat} (h : Mine w B n a c X) (f1 : Far n1 a1 B) (f2 : Far m1 b1 B) (r : RestM n1 a1 m1 b1 w w') : Mine w' B n a c X := by
  rcases h with h | ⟨g, rfl, h2⟩
  · exact .inl h
  have hg := own_lt h2
  have hB := own_ge h2
  refine .inr ⟨g, rfl, h2.1, ?_⟩
  rcases h2.2 with ⟨h3, _⟩ | ⟨b', k, cur, e1, e2, e3, e4⟩
  · cases h3
  · simp only [Value.slice.injEq, Option.some.injEq, Addr.mk.injEq] at e1
    obtain ⟨⟨rfl, _⟩, _, rfl⟩ := e1
    refine .inr ⟨g, c, cur, rfl, e2, ?_, e4⟩
    rw [r.2.2.2.2 g hg (fun k hk e => ?_) (fun k hk e => ?_)]
    · exact e3
    · rcases f1 with f | ⟨k', f3, f4⟩
      · exact absurd f hk
      · rw [f3] at e; cases e; omega
    · rcases f2 with f | ⟨k', f3, f4⟩
      · exact absurd f hk
      · rw [f3] at e; cases e; omega
theorem Far.ne {n N : Nat} {a : Option Addr} (f : Far n a N) : ∀ g, n ≠ 0 → a = some ⟨g, 0, none⟩ → N ≠ g := by
  intro g hn e
  rcases f with f | ⟨k', f3, f4⟩
  · exact absurd f hn
  · rw [f3] at e; cases e; omega
theorem Box2.rest {w w' : World} {q n1 m1 : Nat} {a1 b1 : Option Addr} {u v : Value} (h : Box2 w q u v) (f1 : Far n1 a1 q) (f2 : Far m1 b1 q) (r : RestM n1 a1 m1 b1 w w') : Box2 w' q u v := by
  have hq := World.block_lt_of_cell? w _ h.1
  have hb := r.2.2.2.2 q hq f1.ne f2.ne
  exact ⟨(cell_same hb _).trans h.1, (cell_same hb _).trans h.2⟩
theorem restM_below {w w' : World} {B B1 B2 n m c d : Nat} {a b : Option Addr} {X Y : Nat → Nat} (h1 : Mine w B1 n a c X) (h2 : Mine w B2 m b d Y) (l1 : B ≤ B1) (l2 : B ≤ B2) (hs : B ≤ w.heap.size) (r : RestM n a m b w w') : Below B w w' := by
  obtain ⟨r1, r2, r3, r4, r5⟩ := r
  refine ⟨r1, r2, r3, r4, fun q hq => r5 q (by omega) (fun g hn e => ?_) (fun g hn e => ?_)⟩
  · rcases h1 with h | ⟨k, e1, h⟩
    · exact absurd h hn
    · rw [e1] at e; cases e; have := own_ge h; omega
  · rcases h2 with h | ⟨k, e1, h⟩
    · exact absurd h hn
    · rw [e1] at e; cases e; have := own_ge h; omega
theorem markM_any (B n c : Nat) (a : Option Addr) (X : Nat → Nat) (k0 : Int) (w : World) (h : Mine w B n a c X) (hn : n ≤ 1048576) (hk0 : 0 ≤ k0) (hk1 : k0 ≤ 100000000) :
    Calls Try.prog 22 #[.slice a n c, .int .i64 k0] w fun e w' => e = .returned (.int .i64 (k0 + n)) ∧ Mine w' B n a c (mk k0) ∧ OnlyM n a w w' := by
  by_cases h0 : n = 0
  · subst h0
    refine (markNone_any a c k0 w).mono ?_
    rintro e w' ⟨rfl, rfl⟩
    exact ⟨by simp, .inl rfl, .inl rfl⟩
  · rcases h with h | ⟨g, rfl, h⟩
    · exact absurd h h0
    refine (markO_any B g n c X k0 w h hn hk0 hk1).mono ?_
    rintro e w' ⟨rfl, o, r⟩
    exact ⟨rfl, .inr ⟨g, rfl, o⟩, .inr ⟨h0, g, rfl, r⟩⟩
theorem heldM_any (B n c : Nat) (a : Option Addr) (k0 : Int) (w : World) (h : Mine w B n a c (mk k0)) (hn : n ≤ 1048576) (hk0 : 0 ≤ k0) (hk1 : k0 ≤ 100000000) :
    Calls Try.prog 23 #[.slice a n c, .int .i64 k0] w fun e w' => e = .returned (.int .i64 (k0 + n)) ∧ w = w' := by
  by_cases h0 : n = 0
  · subst h0
    refine (heldNone_any a c k0 w).mono ?_
    rintro e w' ⟨rfl, rfl⟩
    exact ⟨by simp, rfl⟩
  · rcases h with h | ⟨g, rfl, h⟩
    · exact absurd h h0
    exact heldF_any B _ n k0 w h hn hk0 hk1
/-- Steps that hold marks from k0 on. -/
def MarkedMs (B n c m d : Nat) (a b : Option Addr) (k0 : Int) (w : World) (e : Ending) (w' : World) : Prop :=
  e = .returned (.int .i64 (k0 + n + m)) ∧ Mine w' B n a c (mk k0) ∧ Mine w' B m b d (mk (k0 + n)) ∧ RestM n a m b w w'
set_option maxHeartbeats 1600000 in
theorem markMs_any (B n c m d : Nat) (a b : Option Addr) (X Y : Nat → Nat) (k0 : Int) (w : World) (hg : Mine w B n a c X) (hh : Mine w B m b d Y) (hne : Apart n m a b)
    (hn : n ≤ 1048576) (hm : m ≤ 1048576) (hk0 : 0 ≤ k0) (hk1 : k0 ≤ 50000000) :
    Calls Try.prog 48 #[.agg #[.slice a n c, .slice b m d], .int .i64 k0] w (MarkedMs B n c m d a b k0 w) := by
  have hb0 : Below w.heap.size w (w.alloc (.cells #[.slice a n c, .slice b m d] 62)) := (Below.refl _ _).alloc (Nat.le_refl _) _
  have hg1 := hg.below hb0
  have hh1 := hh.below hb0
  have hgl := hg.far
  have hhl := hh.far
  clear hg hh
  go_enter Try.func48, Try.ntmps48
  go_wp2_with fail
  refine (markM_any B n c a X k0 _ (by exact hg1) hn hk0 (by omega)).mono ?_
  rintro e0 w1 ⟨rfl, O1, o1⟩
  have hh2 := hh1.only hne.symm o1
  have hq := (box2_alloc w (.slice a n c) (.slice b m d) 62)
  have hbx : w1.cell? ⟨w.heap.size, 1, none⟩ = some (.slice b m d) := (cell_same (o1.parts.2.2.2.2 w.heap.size (by simp) hgl.ne) 1).trans hq.2
  have hk2 : (0 : Int) ≤ k0 + n := by omega
  go_wp2_with fail
  refine (markM_any B m d b Y (k0 + n) _ (by exact hh2) hm hk2 (by omega)).mono ?_
  rintro e0 w2 ⟨rfl, O2, o2⟩
  have O1' := O1.only hne o2
  have r := restM_of o1 o2
  go_wp2
  go_ret
  exact ⟨rfl, O1', O2, r⟩
set_option maxHeartbeats 1600000 in
theorem heldMs_any (B n c m d : Nat) (a b : Option Addr) (k0 : Int) (w : World) (hg : Mine w B n a c (mk k0)) (hh : Mine w B m b d (mk (k0 + n)))
    (hn : n ≤ 1048576) (hm : m ≤ 1048576) (hk0 : 0 ≤ k0) (hk1 : k0 ≤ 50000000) :
    Calls Try.prog 49 #[.agg #[.slice a n c, .slice b m d], .int .i64 k0] w fun e w' => e = .returned (.int .i64 (k0 + n + m)) ∧ Below w.heap.size w w' := by
  have hb0 : Below w.heap.size w (w.alloc (.cells #[.slice a n c, .slice b m d] 62)) := (Below.refl _ _).alloc (Nat.le_refl _) _
  have hg1 := hg.below hb0
  have hh1 := hh.below hb0
  clear hg hh
  have hk2 : (0 : Int) ≤ k0 + n := by omega
  have hk3 : (0 : Int) ≤ k0 + n + m := by omega
  go_enter Try.func49, Try.ntmps49
  go_wp2_with fail
  refine (heldM_any B n c a k0 _ (by exact hg1) hn hk0 (by omega)).mono ?_
  rintro e0 w1 ⟨rfl, rfl⟩
  go_wp2_with fail
  refine (heldM_any B m d b (k0 + n) _ (by exact hh1) hm hk2 (by omega)).mono ?_
  rintro e0 w1 ⟨rfl, rfl⟩
  go_wp2
  go_ret
  exact ⟨rfl, hb0⟩
end Go.Proofs.Ytbblohjldkpcnab
