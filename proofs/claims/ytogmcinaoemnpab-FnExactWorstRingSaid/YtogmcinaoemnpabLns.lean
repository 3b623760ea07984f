
/- Lists of lines in memory: 'RdN w xa n X': the slice with the address xa and the length n reads as the lines X 0, X 1 .. in w; an argument that is such a list, opened. -/
import Derived.Test.YtogmcinaoemnpabLin
namespace Go.Proofs.Ytogmcinaoemnpab
open Go Go.ChangeShapes Go.WideShapes Go.ChangeAt Go.RowKit

structure Ln where
  p : Nat
  h : Nat
  d : Nat
  k : Int
instance : Inhabited Ln := ⟨⟨0, 0, 0, 0⟩⟩
def Ln.wf (l : Ln) : Prop := l.p < 4294967296 ∧ l.h < 4294967296 ∧ l.d < 4294967296 ∧ (Lit.int .i64 l.k).wf = true
def LnIn (w : World) (b o : Nat) (l : Ln) : Prop := LnAt w b o l.p l.h l.d l.k
def RdN (w : World) (xa : Option Addr) (n : Nat) (X : Nat → Ln) : Prop := ∃ xb xo, (0 < n → xa = some ⟨xb, xo, none⟩) ∧ ∀ i, i < n → LnIn w xb (xo + i * 4) (X i)
theorem RdN.drew {w : World} {xa : Option Addr} {n : Nat} {X : Nat → Ln} (h : RdN w xa n X) (k : Nat) : RdN (w.drewN k) xa n X := h
theorem RdN.below {w w' : World} {xa : Option Addr} {n : Nat} {X : Nat → Ln} (h : RdN w xa n X) (hb : Below w.heap.size w w') : RdN w' xa n X := by
  obtain ⟨xb, xo, h1, h2⟩ := h
  exact ⟨xb, xo, h1, fun i hi => (h2 i hi).below hb⟩
theorem RdN.nil (w : World) (xa : Option Addr) (X : Nat → Ln) : RdN w xa 0 X := ⟨0, 0, fun h => absurd h (Nat.lt_irrefl _), fun _ h => absurd h (Nat.not_lt_zero _)⟩
def lnCells (l : Ln) : List Value := [.float .f32 l.p, .float .f32 l.h, .float .f32 l.d, .int .i64 l.k]
/-- The cells of lines. -/
def rowN (X : Nat → Ln) : Nat → List Value
  | 0 => []
  | n + 1 => rowN X n ++ lnCells (X n)
theorem rowN_length (X : Nat → Ln) (n : Nat) : (rowN X n).length = n * 4 := by
  induction n with
  | zero => rfl
  | succ n ih => simp [rowN, ih, lnCells]; omega
theorem rowN_congr {X Y : Nat → Ln} {n : Nat} (h : ∀ i, i < n → X i = Y i) : rowN X n = rowN Y n := by
  induction n with
  | zero => rfl
  | succ n ih => rw [rowN, rowN, ih (fun i hi => h i (by omega)), h n (by omega)]
theorem rowN_get (X : Nat → Ln) (n i j : Nat) (hi : i < n) (hj : j < 4) : (rowN X n)[i * 4 + j]? = (lnCells (X i))[j]? := by
  induction n with
  | zero => omega
  | succ n ih =>
    rw [rowN]
    by_cases h : i < n
    · rw [List.getElem?_append_left (by rw [rowN_length]; omega), ih h]
    · obtain rfl : i = n := by omega
      rw [List.getElem?_append_right (by rw [rowN_length]; omega), rowN_length]
      congr 1
      omega
/-- What is owned reads. -/
theorem rdN_of_own {w : World} {B e : Nat} {v : Value} {n : Nat} {X : Nat → Ln} (h : w.ownsRow B e 4 v n (rowN X n)) :
    ∃ xa cap, v = .slice xa n cap ∧ n ≤ cap ∧ cap ≤ maxLen ∧ RdN w xa n X := by
  have h0 := h
  rcases h.2 with ⟨rfl, rfl⟩ | ⟨g, cap, cur, rfl, hB, hg, hn, hc, hs, ht⟩
  · exact ⟨none, 0, rfl, Nat.le_refl _, Nat.zero_le _, RdN.nil _ _ _⟩
  · refine ⟨_, cap, rfl, hn, hc, g, 0, fun _ => rfl, fun i hi => ?_⟩
    rw [Nat.zero_add]
    have c0 := rowN_get X n i 0 hi (by omega)
    rw [Nat.add_zero] at c0
    refine ⟨?_, ?_, ?_, ?_⟩
    · rw [h0.cellAt (i * 4) (by omega), c0]; rfl
    · rw [h0.cellAt (i * 4 + 1) (by omega), rowN_get X n i 1 hi (by omega)]; rfl
    · rw [h0.cellAt (i * 4 + 2) (by omega), rowN_get X n i 2 hi (by omega)]; rfl
    · rw [h0.cellAt (i * 4 + 3) (by omega), rowN_get X n i 3 hi (by omega)]; rfl
section
variable {H : Type} {enc : TypeId × Value → H} {w : World} {base : Nat} {spare : Nat → Bool} {held : Bool}
end
end Go.Proofs.Ytogmcinaoemnpab
