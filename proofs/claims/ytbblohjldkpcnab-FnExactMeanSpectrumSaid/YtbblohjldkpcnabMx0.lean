/- Mixtures: their numbers (of XMix, for seats that lack the rest). -/
import Derived.Test.YtbblohjldkpcnabSpc
import Derived.Test.YtbblohjldkpcnabGiv
import Derived.Test.YtbblohjldkpcnabRo
namespace Go.Proofs.Ytbblohjldkpcnab
open Go Go.ChangeShapes Go.WideShapes Go.ChangeAt Go.RowKit

/-- The mixture of K rows by shares S. -/
def mixR (S : Nat → Nat) (X : Nat → Nat → Nat) (K j : Nat) : Nat := dotW S (fun k => X k j) K
theorem RdR.row {w : World} {xb xo K i : Nat} {N : Nat → Nat} {X : Nat → Nat → Nat} (h : RdR w (some ⟨xb, xo, none⟩) K N X) (hi : i < K) : ∃ a c, w.cell? ⟨xb, xo + i, none⟩ = some (.slice a (N i) c) ∧ N i ≤ c ∧ Rd w a (N i) (X i) := by
  obtain ⟨yb, yo, h1, h2⟩ := h
  have e := h1 (by omega)
  cases e
  exact h2 i hi
theorem Rd.at {w : World} {a : Option Addr} {n : Nat} {X : Nat → Nat} (h : Rd w a n X) (hn : 0 < n) : ∃ b o, a = some ⟨b, o, none⟩ ∧ ∀ i, i < n → w.cell? ⟨b, o + i, none⟩ = some (.float .f32 (X i)) := by
  obtain ⟨b, o, h1, h2⟩ := h
  exact ⟨b, o, h1 hn, h2⟩
/-- Where the rows lie. -/
theorem RdR.lay {w : World} {xb xo K n : Nat} {N : Nat → Nat} {X : Nat → Nat → Nat} (h : RdR w (some ⟨xb, xo, none⟩) K N X) (hN : ∀ k, k < K → N k = n) (h0 : 0 < n) :
    ∃ (b o c : Nat → Nat), ∀ w', Below w.heap.size w w' → ∀ k, k < K → w'.cell? ⟨xb, xo + k, none⟩ = some (.slice (some ⟨b k, o k, none⟩) n (c k)) ∧ ∀ j, j < n → w'.cell? ⟨b k, o k + j, none⟩ = some (.float .f32 (X k j)) := by
  have key : ∀ k, k < K → ∃ q : Nat × Nat × Nat, w.cell? ⟨xb, xo + k, none⟩ = some (.slice (some ⟨q.1, q.2.1, none⟩) n q.2.2) ∧ ∀ j, j < n → w.cell? ⟨q.1, q.2.1 + j, none⟩ = some (.float .f32 (X k j)) := fun k hk => by
    obtain ⟨a, c, h1, _, h2⟩ := RdR.row h hk
    rw [hN k hk] at h1 h2
    obtain ⟨b, o, rfl, h3⟩ := h2.at h0
    exact ⟨(b, o, c), h1, h3⟩
  obtain ⟨Q, hQ⟩ := Deep.choose_lt (α := Nat × Nat × Nat) (n := K) (p := fun k q => w.cell? ⟨xb, xo + k, none⟩ = some (.slice (some ⟨q.1, q.2.1, none⟩) n q.2.2) ∧ ∀ j, j < n → w.cell? ⟨q.1, q.2.1 + j, none⟩ = some (.float .f32 (X k j))) key
  refine ⟨fun k => (Q k).1, fun k => (Q k).2.1, fun k => (Q k).2.2, fun w' hb k hk => ?_⟩
  obtain ⟨h1, h2⟩ := hQ k hk
  exact ⟨(hb.cell (p := ⟨xb, xo + k, none⟩) (World.block_lt_of_cell? w _ h1)).trans h1, fun j hj => (hb.cell (p := ⟨(Q k).1, (Q k).2.1 + j, none⟩) (World.block_lt_of_cell? w _ (h2 j hj))).trans (h2 j hj)⟩
def okMix (K : Nat) (N : Nat → Nat) (X : Nat → Nat → Nat) (n : Nat) (S : Nat → Nat) : Bool := okSpc K N X && decide ((n : Int) = (K : Int)) && finL S n
end Go.Proofs.Ytbblohjldkpcnab
