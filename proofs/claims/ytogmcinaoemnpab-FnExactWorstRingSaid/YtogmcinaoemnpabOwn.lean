
/- What is owned, and what stays as it was: of worlds alone. -/
import Derived.Test.YtogmcinaoemnpabSameA
import Derived.Test.YtogmcinaoemnpabRowKit
import Derived.Deep.Slices
import Derived.Deep.Heap
import Derived.Carry
import Derived.Below
namespace Go.Proofs.Ytogmcinaoemnpab
open Go Go.ChangeShapes Go.WideShapes Go.ChangeAt Go.RowKit

theorem Below.drewN {B : Nat} {a w : World} (h : Below B a w) (n : Nat) : Below B a (w.drewN n) := h.trans ⟨rfl, rfl, rfl, Nat.le_refl _, fun _ _ => rfl⟩
/-- What was there in W is in w as it was: told of the heaps alone, so that draws make no difference. -/
def Blw (W w : World) : Prop := w.os = W.os ∧ w.tape = W.tape ∧ w.output = W.output ∧ W.heap.size ≤ w.heap.size ∧ ∀ k, k < W.heap.size → w.heap[k]? = W.heap[k]?
theorem Blw.refl (W : World) : Blw W W := ⟨rfl, rfl, rfl, Nat.le_refl _, fun _ _ => rfl⟩
theorem Blw.out {W w : World} (h : Blw W w) : Below W.heap.size W w := ⟨h.1, h.2.1, h.2.2.1, h.2.2.2.1, h.2.2.2.2⟩
theorem Blw.next {W w w' : World} (h : Blw W w) (h' : Below w.heap.size w w') : Blw W w' := ⟨h'.os.trans h.1, h'.tape.trans h.2.1, h'.output.trans h.2.2.1, Nat.le_trans h.2.2.2.1 h'.size, fun k hk => (h'.block k (Nat.lt_of_lt_of_le hk h.2.2.2.1)).trans (h.2.2.2.2 k hk)⟩
theorem Blw.nextB {W w w' : World} (h : Blw W w) (h' : Below W.heap.size w w') : Blw W w' := ⟨h'.os.trans h.1, h'.tape.trans h.2.1, h'.output.trans h.2.2.1, Nat.le_trans h.2.2.2.1 h'.size, fun k hk => (h'.block k hk).trans (h.2.2.2.2 k hk)⟩
/-- What is owned stays so where all that was there is as it was. -/
theorem own_below {w w' : World} {B e : Nat} {v : Value} {n : Nat} {xs : List Value} (h : w.ownsRow B e 1 v n xs) (hb : Below w.heap.size w w') : w'.ownsRow B e 1 v n xs := by
  refine ⟨h.1, ?_⟩
  rcases h.2 with h2 | ⟨g, cap, cur, h1, h2, h3, h4⟩
  · exact .inl h2
  · refine .inr ⟨g, cap, cur, h1, h2, ?_, h4⟩
    have hg : g < w.heap.size := by
      have := Array.getElem?_eq_some_iff.1 h3
      exact this.1
    rw [hb.block g hg]
    exact h3
theorem own_drew {w : World} {B e : Nat} {v : Value} {n : Nat} {xs : List Value} (h : w.ownsRow B e 1 v n xs) (k : Nat) : (w.drewN k).ownsRow B e 1 v n xs := h

/-- Of the blocks that are there, g alone has changed. -/
def Only (g : Nat) (w w' : World) : Prop := w'.os = w.os ∧ w'.tape = w.tape ∧ w'.output = w.output ∧ w.heap.size ≤ w'.heap.size ∧ ∀ k, k < w.heap.size → k ≠ g → w'.heap[k]? = w.heap[k]?
theorem Only.refl (g : Nat) (w : World) : Only g w w := ⟨rfl, rfl, rfl, Nat.le_refl _, fun _ _ _ => rfl⟩
theorem Only.setCell {g : Nat} {w w' : World} (h : Only g w w') (k : Nat) (v : Value) : Only g w (w'.setCell ⟨g, k, none⟩ v) := by
  obtain ⟨h1, h2, h3, h4, h5⟩ := h
  refine ⟨by simpa [World.setCell] using h1, by simpa [World.setCell] using h2, by simpa [World.setCell] using h3, by rw [Deep.nblk_setCell]; exact h4, fun q hq hne => ?_⟩
  rw [Deep.blk_setCell_other _ _ _ _ hne]
  exact h5 q hq hne
theorem Blw.only {W w w' : World} {g : Nat} (h : Blw W w) (hg : W.heap.size ≤ g) (o : Only g w w') : Blw W w' := by
  obtain ⟨h1, h2, h3, h4, h5⟩ := h
  obtain ⟨o1, o2, o3, o4, o5⟩ := o
  exact ⟨o1.trans h1, o2.trans h2, o3.trans h3, Nat.le_trans h4 o4, fun k hk => (o5 k (Nat.lt_of_lt_of_le hk h4) (by omega)).trans (h5 k hk)⟩
theorem own_only {w w' : World} {B e g : Nat} {v : Value} {n : Nat} {xs : List Value} (h : w.ownsRow B e 1 v n xs) (hg : g < B) (o : Only g w w') : w'.ownsRow B e 1 v n xs := by
  refine ⟨h.1, ?_⟩
  rcases h.2 with h2 | ⟨b, cap, cur, h1, h2, h3, h4⟩
  · exact .inl h2
  · refine .inr ⟨b, cap, cur, h1, h2, ?_, h4⟩
    have hb : b < w.heap.size := (Array.getElem?_eq_some_iff.1 h3).1
    rw [o.2.2.2.2 b hb (by omega)]
    exact h3
theorem own_lt {w : World} {B e g n cap : Nat} {xs : List Value} (h : w.ownsRow B e 1 (.slice (some ⟨g, 0, none⟩) n cap) n xs) : g < w.heap.size := by
  rcases h.2 with ⟨h2, _⟩ | ⟨b, cap, cur, h1, h2, h3, h4⟩
  · cases h2
  · simp only [Value.slice.injEq, Option.some.injEq, Addr.mk.injEq] at h1
    rw [h1.1.1]
    exact (Array.getElem?_eq_some_iff.1 h3).1
/-- What is owned in one block stays so where another one alone has changed. -/
theorem own_other {w w' : World} {B e g g' n cap : Nat} {xs : List Value} (h : w.ownsRow B e 1 (.slice (some ⟨g, 0, none⟩) n cap) n xs) (hg : g ≠ g') (o : Only g' w w') : w'.ownsRow B e 1 (.slice (some ⟨g, 0, none⟩) n cap) n xs := by
  refine ⟨h.1, ?_⟩
  rcases h.2 with ⟨h2, _⟩ | ⟨b, c, cur, h1, h2, h3, h4⟩
  · cases h2
  · have hb : b < w.heap.size := (Array.getElem?_eq_some_iff.1 h3).1
    have hbg : b = g := by simp only [Value.slice.injEq, Option.some.injEq, Addr.mk.injEq] at h1; exact h1.1.1.symm
    refine .inr ⟨b, c, cur, h1, h2, ?_, h4⟩
    rw [o.2.2.2.2 b hb (by rw [hbg]; exact hg)]
    exact h3
theorem own_ge {w : World} {B e g n cap : Nat} {xs : List Value} (h : w.ownsRow B e 1 (.slice (some ⟨g, 0, none⟩) n cap) n xs) : B ≤ g := by
  rcases h.2 with ⟨h2, _⟩ | ⟨b, c, cur, h1, h2, h3, h4⟩
  · cases h2
  · simp only [Value.slice.injEq, Option.some.injEq, Addr.mk.injEq] at h1
    rw [h1.1.1]; exact h2
theorem own_mono0 {w : World} {B B' e : Nat} {v : Value} {n : Nat} {xs : List Value} (h : w.ownsRow B e 1 v n xs) (hB : B' ≤ B) : w.ownsRow B' e 1 v n xs := by
  refine ⟨h.1, ?_⟩
  rcases h.2 with h2 | ⟨g, cap, cur, h1, h2, h3⟩
  · exact .inl h2
  · exact .inr ⟨g, cap, cur, h1, Nat.le_trans hB h2, h3⟩
theorem below_grown {w w' : World} (h : w.grownBy w' none) : Below w.heap.size w w' := ⟨h.os, h.tape, h.output, h.size, fun k hk => h.block k hk (by simp)⟩
/-- What is owned below a block number stays so where all below it is as it was. -/
theorem own_low {w w' : World} {B e g n cap A : Nat} {xs : List Value} (h : w.ownsRow B e 1 (.slice (some ⟨g, 0, none⟩) n cap) n xs) (hg : g < A) (hb : Below A w w') : w'.ownsRow B e 1 (.slice (some ⟨g, 0, none⟩) n cap) n xs := by
  refine ⟨h.1, ?_⟩
  rcases h.2 with ⟨h2, _⟩ | ⟨b, c, cur, h1, h2, h3, h4⟩
  · cases h2
  · have hbg : b = g := by simp only [Value.slice.injEq, Option.some.injEq, Addr.mk.injEq] at h1; exact h1.1.1.symm
    refine .inr ⟨b, c, cur, h1, h2, ?_, h4⟩
    rw [hb.block b (by omega)]
    exact h3
end Go.Proofs.Ytogmcinaoemnpab
