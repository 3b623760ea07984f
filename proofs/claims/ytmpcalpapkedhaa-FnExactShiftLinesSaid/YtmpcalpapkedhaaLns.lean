
/- Lists of lines in memory: 'RdN w xa n X': the slice with the address xa and the length n reads as the lines X 0, X 1 .. in w; an argument that is such a list, opened. -/
import Derived.Test.YtmpcalpapkedhaaLin
namespace Go.Proofs.Ytmpcalpapkedhaa
open Go Go.ChangeShapes Go.WideShapes Go.ChangeAt Go.RowKit

structure Ln where
  p : Nat
  h : Nat
  d : Nat
  k : Int
instance : Inhabited Ln := ⟨⟨0, 0, 0, 0⟩⟩
def Ln.wf (l : Ln) : Prop := l.p < 4294967296 ∧ l.h < 4294967296 ∧ l.d < 4294967296 ∧ (Lit.int .i64 l.k).wf = true
def LnIn (w : World) (b o : Nat) (l : Ln) : Prop := LnAt w b o l.p l.h l.d l.k
def RdN (w : World) (xa : Option Addr) (n : Nat) (X : Nat → Ln) : Prop := ∃ xb xo, (0 < n → xa = some ⟨xb, xo, none⟩) ∧ ∀ i, i < n → LnIn w xb (xo + i * 4) (X i)
theorem RdN.drew {w : World} {xa : Option Addr} {n : Nat} {X : Nat → Ln} (h : RdN w xa n X) (k : Nat) : RdN (w.drewN k) xa n X := h
theorem RdN.below {w w' : World} {xa : Option Addr} {n : Nat} {X : Nat → Ln} (h : RdN w xa n X) (hb : Below w.heap.size w w') : RdN w' xa n X := by
  obtain ⟨xb, xo, h1, h2⟩ := h
  exact ⟨xb, xo, h1, fun i hi => (h2 i hi).below hb⟩
theorem RdN.nil (w : World) (xa : Option Addr) (X : Nat → Ln) : RdN w xa 0 X := ⟨0, 0, fun h => absurd h (Nat.lt_irrefl _), fun _ h => absurd h (Nat.not_lt_zero _)⟩
def lnCells (l : Ln) : List Value := [.float .f32 l.p, .float .f32 l.h, .float .f32 l.d, .int .i64 l.k]
/-- The cells of lines. -/
def rowN (X : Nat → Ln) : Nat → List Value
  | 0 => []
  | n + 1 => rowN X n ++ lnCells (X n)
theorem rowN_length (X : Nat → Ln) (n : Nat) : (rowN X n).length = n * 4 := by
  induction n with
  | zero => rfl
  | succ n ih => simp [rowN, ih, lnCells]; omega
theorem rowN_congr {X Y : Nat → Ln} {n : Nat} (h : ∀ i, i < n → X i = Y i) : rowN X n = rowN Y n := by
  induction n with
  | zero => rfl
  | succ n ih => rw [rowN, rowN, ih (fun i hi => h i (by omega)), h n (by omega)]
theorem rowN_get (X : Nat → Ln) (n i j : Nat) (hi : i < n) (hj : j < 4) : (rowN X n)[i * 4 + j]? = (lnCells (X i))[j]? := by
  induction n with
  | zero => omega
  | succ n ih =>
    rw [rowN]
    by_cases h : i < n
    · rw [List.getElem?_append_left (by rw [rowN_length]; omega), ih h]
    · obtain rfl : i = n := by omega
      rw [List.getElem?_append_right (by rw [rowN_length]; omega), rowN_length]
      congr 1
      omega
/-- What is owned reads. -/
theorem rdN_of_own {w : World} {B e : Nat} {v : Value} {n : Nat} {X : Nat → Ln} (h : w.ownsRow B e 4 v n (rowN X n)) :
    ∃ xa cap, v = .slice xa n cap ∧ n ≤ cap ∧ cap ≤ maxLen ∧ RdN w xa n X := by
  have h0 := h
  rcases h.2 with ⟨rfl, rfl⟩ | ⟨g, cap, cur, rfl, hB, hg, hn, hc, hs, ht⟩
  · exact ⟨none, 0, rfl, Nat.le_refl _, Nat.zero_le _, RdN.nil _ _ _⟩
  · refine ⟨_, cap, rfl, hn, hc, g, 0, fun _ => rfl, fun i hi => ?_⟩
    rw [Nat.zero_add]
    have c0 := rowN_get X n i 0 hi (by omega)
    rw [Nat.add_zero] at c0
    refine ⟨?_, ?_, ?_, ?_⟩
    · rw [h0.cellAt (i * 4) (by omega), c0]; rfl
    · rw [h0.cellAt (i * 4 + 1) (by omega), rowN_get X n i 1 hi (by omega)]; rfl
    · rw [h0.cellAt (i * 4 + 2) (by omega), rowN_get X n i 2 hi (by omega)]; rfl
    · rw [h0.cellAt (i * 4 + 3) (by omega), rowN_get X n i 3 hi (by omega)]; rfl
section
variable {H : Type} {enc : TypeId × Value → H} {w : World} {base : Nat} {spare : Nat → Bool} {held : Bool}
set_option maxRecDepth 100000 in
/-- An argument that is a list of lines. -/
theorem open_lins {xa : Option Addr} {len cap : Nat} {d : DataW H} {ps : List MemPlace}
    (h : DataW.Trod enc Try.prog w base spare held 49 (.slice xa len cap) d ps) : len ≤ cap ∧ cap ≤ maxLen ∧ ∃ X, RdN w xa len X ∧ ∀ i, i < len → (X i).wf := by
  obtain ⟨fuel, hf⟩ := h
  have hf' : DataW.trod enc Try.prog w base spare held fuel 49 [.slice xa len cap] = some (d, ps) := hf
  have hC : Try.prog.cellsOf 122 = 4 := by kernel_rfl
  rcases Deep.open_slice Try.underlying49 hf' with ⟨h1, _⟩ | ⟨a, len', cap', m, n, D, Pl, hcs, _, hl, hm, hmm, _, hx⟩
  · simp only [List.cons.injEq, Value.slice.injEq, and_true] at h1
    obtain ⟨rfl, rfl, rfl⟩ := h1
    exact ⟨Nat.le_refl _, Nat.zero_le _, fun _ => ⟨0, 0, 0, 0⟩, RdN.nil _ _ _, fun i hi => absurd hi (Nat.not_lt_zero _)⟩
  · simp only [List.cons.injEq, Value.slice.injEq, and_true] at hcs
    obtain ⟨rfl, rfl, rfl⟩ := hcs
    have hlm : len ≤ m := by rw [hmm]; split <;> omega
    have one : ∀ i, i < len → ∃ l : Ln, l.wf ∧ w.cell? (a.add (i * 4 + 0)) = some (.float .f32 l.p) ∧ w.cell? (a.add (i * 4 + 1)) = some (.float .f32 l.h) ∧ w.cell? (a.add (i * 4 + 2)) = some (.float .f32 l.d) ∧ w.cell? (a.add (i * 4 + 3)) = some (.int .i64 l.k) := fun i hi => by
      obtain ⟨cs', hc, ht'⟩ := hx i (by omega)
      rw [hC] at hc
      obtain ⟨_, hcl, hat⟩ := World.cells?_some hc
      obtain ⟨y0, y1, y2, y3, k, _, _, t0, t1, t2, t3⟩ := Joins.trod_struct4 Try.underlying122 ht'
      match cs', hcl with
      | [c0, c1, c2, c3], _ =>
        have cF : Try.prog.cellsOf 22 = 1 := by kernel_rfl
        have cI : Try.prog.cellsOf 2 = 1 := by kernel_rfl
        simp only [cF, cI, List.drop_zero, List.drop_succ_cons, List.take_succ_cons, List.take_zero] at t0 t1 t2 t3
        obtain ⟨x0, rfl, w0⟩ := trod_float Try.underlying22 t0
        obtain ⟨x1, rfl, w1⟩ := trod_float Try.underlying22 t1
        obtain ⟨x2, rfl, w2⟩ := trod_float Try.underlying22 t2
        obtain ⟨x3, rfl, w3⟩ := trod_i64 Try.underlying2 t3
        have e0 := hat 0 (by omega)
        have e1 := hat 1 (by omega)
        have e2 := hat 2 (by omega)
        have e3 := hat 3 (by omega)
        rw [Deep.add_add] at e0 e1 e2 e3
        exact ⟨⟨x0, x1, x2, x3⟩, ⟨f32_lt w0, f32_lt w1, f32_lt w2, w3⟩, e0, e1, e2, e3⟩
    obtain ⟨X, hX⟩ := Deep.choose_lt (α := Ln) (n := len) (p := fun i l => l.wf ∧ w.cell? (a.add (i * 4 + 0)) = some (.float .f32 l.p) ∧ w.cell? (a.add (i * 4 + 1)) = some (.float .f32 l.h) ∧ w.cell? (a.add (i * 4 + 2)) = some (.float .f32 l.d) ∧ w.cell? (a.add (i * 4 + 3)) = some (.int .i64 l.k)) one
    have ad : ∀ (n : Nat) (v : Value), w.cell? (a.add n) = some v → w.cell? ⟨a.block, a.off + n, none⟩ = some v := fun n v h0 => by
      have hs := World.cell?_spot h0
      unfold Addr.add at hs h0
      by_cases hn : n = 0
      · subst hn
        simp only [if_true] at hs h0
        cases a
        simp only at hs
        subst hs
        exact h0
      · simp only [hn, if_false] at h0
        exact h0
    refine ⟨hl, hm, X, ⟨a.block, a.off, fun hp => ?_, fun i hi => ?_⟩, fun i hi => (hX i hi).1⟩
    · have h0 := World.cell?_spot (hX 0 (by omega)).2.1
      have h1 : a.spot = none := h0
      cases a
      simp only at h1
      rw [h1]
    · obtain ⟨_, h0, h1, h2, h3⟩ := hX i hi
      have g1 := ad _ _ h1
      have g0 := ad _ _ h0
      have g2 := ad _ _ h2
      have g3 := ad _ _ h3
      rw [Nat.add_zero] at g0
      rw [← Nat.add_assoc] at g1 g2 g3
      exact ⟨g0, g1, g2, g3⟩
end
end Go.Proofs.Ytmpcalpapkedhaa
