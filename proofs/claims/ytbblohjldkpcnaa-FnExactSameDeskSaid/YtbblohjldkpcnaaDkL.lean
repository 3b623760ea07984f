
/- Of any desk the program says that it is valid just where the model does; the desk is not changed: for all arguments. -/
import Derived.Test.YtbblohjldkpcnaaVdk
namespace Go.Proofs.Ytbblohjldkpcnaa
open Go Go.ChangeShapes Go.WideShapes Go.ChangeAt Go.RowKit

theorem array7 {α : Type} {cs : Array α} (h : cs.size = 7) : ∃ c0 c1 c2 c3 c4 c5 c6, cs = #[c0, c1, c2, c3, c4, c5, c6] := by
  obtain ⟨l⟩ := cs
  match l, h with
  | [c0, c1, c2, c3, c4, c5, c6], _ => exact ⟨c0, c1, c2, c3, c4, c5, c6, rfl⟩
section
variable {H : Type} {enc : TypeId × Value → H} {w : World} {base : Nat} {spare : Nat → Bool} {held : Bool}
theorem open_row1 {v : Value} {n : Nat} {y : DataW H × List MemPlace} (h : DataW.trod enc Try.prog w base spare held n 22 [v] = some y) :
    ∃ (xa : Option Addr) (len cap : Nat) (X : Nat → Nat), v = .slice xa len cap ∧ Rd w xa len X ∧ len ≤ maxLen ∧ ∀ i, i < len → X i < 4294967296 := by
  obtain ⟨xa, len, cap, rfl⟩ : ∃ a len cap, v = .slice a len cap := by
    rcases Deep.open_slice1 Try.underlying22 cellsF h with ⟨h1, _⟩ | ⟨a, len', cap', m, n, V, D, Pl, hcs, _⟩
    · exact ⟨_, _, _, by simpa using h1⟩
    · exact ⟨_, _, _, by simpa using hcs⟩
  obtain ⟨a1, a2, X, hX, wX⟩ := open_f32s (d := y.1) (ps := y.2) Try.underlying22 Try.underlying25 cellsF ⟨n, h⟩
  exact ⟨xa, len, cap, X, rfl, hX, Nat.le_trans a1 a2, fun i hi => f32_lt (wX i hi)⟩
/-- What is told of a desk that comes in. -/
def DkIn (w : World) (xa : Option Addr) (n : Nat) (ya : Option Addr) (m : Nat) (p q r s : Nat) (za : Option Addr) (k : Nat) (X Y Z : Nat → Nat) : Prop :=
  (Rd w xa n X ∧ Rd w ya m Y ∧ Rd w za k Z) ∧ (n ≤ maxLen ∧ m ≤ maxLen ∧ k ≤ maxLen) ∧ (p < 4294967296 ∧ q < 4294967296 ∧ r < 4294967296 ∧ s < 4294967296) ∧ (∀ i, i < n → X i < 4294967296) ∧ (∀ i, i < m → Y i < 4294967296) ∧ ∀ i, i < k → Z i < 4294967296
set_option maxRecDepth 100000 in
theorem open_dk {ρ : Reach} {b0 : Nat} {v : Value} {d : DataW H} {ps : List MemPlace} (hv : Value.okWide Try.prog w ρ b0 37 v) (h : DataW.Trod enc Try.prog w base spare held 37 v d ps) :
    ∃ (xa : Option Addr) (n cx : Nat) (ya : Option Addr) (m cy p q r s : Nat) (za : Option Addr) (k cz : Nat) (X Y Z : Nat → Nat), v = .agg #[.slice xa n cx, .slice ya m cy, .float .f32 p, .float .f32 q, .float .f32 r, .float .f32 s, .slice za k cz] ∧ DkIn w xa n ya m p q r s za k X Y Z := by
  obtain ⟨cs, rfl, hsz⟩ := okWide_struct Try.underlying37 hv
  obtain ⟨c0, c1, c2, c3, c4, c5, c6, rfl⟩ := array7 (hsz.trans (by kernel_rfl))
  obtain ⟨fuel, hf⟩ := h
  obtain ⟨y0, y1, y2, f, _, _, h0, h1, h2⟩ := Deep.trod_struct3 Try.underlying37 hf
  have e0 : Try.prog.cellsOf 34 = 2 := by kernel_rfl
  have e1 : Try.prog.cellsOf 35 = 4 := by kernel_rfl
  have e2 : Try.prog.cellsOf 22 = 1 := by kernel_rfl
  have e3 : Try.prog.cellsOf 25 = 1 := by kernel_rfl
  have h0' : DataW.trod enc Try.prog w base spare held f 34 [c0, c1] = some y0 := by simpa [Value.cells, e0] using h0
  have h1' : DataW.trod enc Try.prog w base spare held f 35 [c2, c3, c4, c5] = some y1 := by simpa [Value.cells, e1] using h1
  have h2' : DataW.trod enc Try.prog w base spare held f 22 [c6] = some y2 := by simpa [Value.cells, e2] using h2
  obtain ⟨z0, z1, g, _, _, g0, g1⟩ := trod_struct2 Try.underlying34 h0'
  obtain ⟨x0, x1, x2, x3, g', _, _, j0, j1, j2, j3⟩ := Joins.trod_struct4 Try.underlying35 h1'
  have g0' : DataW.trod enc Try.prog w base spare held g 22 [c0] = some z0 := by simpa [e2] using g0
  have g1' : DataW.trod enc Try.prog w base spare held g 22 [c1] = some z1 := by simpa [e2] using g1
  have j0' : DataW.trod enc Try.prog w base spare held g' 25 [c2] = some x0 := by simpa [e3] using j0
  have j1' : DataW.trod enc Try.prog w base spare held g' 25 [c3] = some x1 := by simpa [e3] using j1
  have j2' : DataW.trod enc Try.prog w base spare held g' 25 [c4] = some x2 := by simpa [e3] using j2
  have j3' : DataW.trod enc Try.prog w base spare held g' 25 [c5] = some x3 := by simpa [e3] using j3
  obtain ⟨xa, n, cx, X, rfl, hX, bX, wX⟩ := open_row1 g0'
  obtain ⟨ya, m, cy, Y, rfl, hY, bY, wY⟩ := open_row1 g1'
  obtain ⟨za, k, cz, Z, rfl, hZ, bZ, wZ⟩ := open_row1 h2'
  obtain ⟨p, rfl, w0⟩ := trod_float Try.underlying25 j0'
  obtain ⟨q, rfl, w1⟩ := trod_float Try.underlying25 j1'
  obtain ⟨r, rfl, w2⟩ := trod_float Try.underlying25 j2'
  obtain ⟨s, rfl, w3⟩ := trod_float Try.underlying25 j3'
  exact ⟨xa, n, cx, ya, m, cy, p, q, r, s, za, k, cz, X, Y, Z, rfl, ⟨hX, hY, hZ⟩, ⟨bX, bY, bZ⟩, ⟨f32_lt w0, f32_lt w1, f32_lt w2, f32_lt w3⟩, wX, wY, wZ⟩
end
end Go.Proofs.Ytbblohjldkpcnaa
