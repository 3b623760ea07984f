/- What the two package-level variables hold where a law of this seat begins. -/
import Derived.Test.YtffhnkhjfggooabDoorCl
import Derived.ProofKit
import Derived.LaidMore
import Derived.OpenShut
import Derived.Stop.Joined
import Derived.ChangeVars
namespace Go.Proofs.YtffhnkhjfggooabDoor
open Go Go.ChangeShapes Go.WideShapes Go.ChangeAt Go.RowKit

theorem gP : Tryd.prog.globalNamed "loop.example/g01403/impl.firstPrimes" = some 1 := by kernel_rfl
theorem gN : Tryd.prog.globalNamed "loop.example/g01403/impl.noShare" = some 0 := by kernel_rfl
theorem tP : (Tryd.prog.globals[1]?).map (·.type) = some 79 := by kernel_rfl
theorem tN : (Tryd.prog.globals[0]?).map (·.type) = some 58 := by kernel_rfl
def cellsP : Array Value := #[.int .i64 2, .int .i64 3, .int .i64 5, .int .i64 7, .int .i64 11, .int .i64 13]
def cellsN : Array Value := #[.int .i64 0, .int .i64 1]
theorem cellsOfP : Tryd.prog.cellsOf 79 = 6 := by kernel_rfl
theorem cellsOfI : Tryd.prog.cellsOf 2 = 1 := by kernel_rfl
theorem int_of_trod {H : Type} {enc : TypeId × Value → H} {P : Program} {w : World} {base : Nat} {sp : Nat → Bool} {held : Bool} {fuel : Nat} {t : TypeId} {k : IntKind} {c : Value} {y : DataW H × List MemPlace}
    (ht : P.underlying t = some (.int k)) (h : DataW.trod enc P w base sp held fuel t [c] = some y) : ∃ n, c = .int k n ∧ y = (.lit (.int k n), []) := by
  cases fuel with
  | zero => simp [DataW.trod] at h
  | succ fuel =>
    cases c <;> simp [DataW.trod, ht] at h
    rename_i k' n
    obtain ⟨⟨rfl, _⟩, rfl⟩ := h
    exact ⟨n, rfl, rfl⟩
theorem cellsP_of {W : World} {fuel : Nat} {cs : Array Value} {p : List MemPlace} (hd : DataW.trod (fun _ => ()) Tryd.prog W 0 (fun _ => true) false fuel 79 cs.toList = some (Rows.laid_loop_example_g01403_impl_firstPrimes, p)) : cs = cellsP := by
  obtain ⟨l⟩ := cs
  cases fuel with
  | zero => simp [DataW.trod] at hd
  | succ fuel =>
    simp only [DataW.trod, Tryd.underlying79, cellsOfP, cellsOfI] at hd
    split at hd
    · rename_i hl
      obtain ⟨c0, c1, c2, c3, c4, c5, rfl⟩ : ∃ c0 c1 c2 c3 c4 c5, l = [c0, c1, c2, c3, c4, c5] := by
        match l, hl with
        | [a, b, c, d, e, f], _ => exact ⟨a, b, c, d, e, f, rfl⟩
      have e : List.range 6 = [0, 1, 2, 3, 4, 5] := rfl
      rw [e] at hd
      simp only [Option.map_eq_some_iff, List.mapM_cons, List.mapM_nil, Option.bind_eq_bind, Option.bind_eq_some_iff, Option.pure_def, Option.some.injEq] at hd
      obtain ⟨xs, ⟨y0, h0, _, ⟨y1, h1, _, ⟨y2, h2, _, ⟨y3, h3, _, ⟨y4, h4, _, ⟨y5, h5, _, rfl, rfl⟩, rfl⟩, rfl⟩, rfl⟩, rfl⟩, rfl⟩, hx⟩ := hd
      obtain ⟨n0, rfl, rfl⟩ := int_of_trod Tryd.underlying2 h0
      obtain ⟨n1, rfl, rfl⟩ := int_of_trod Tryd.underlying2 h1
      obtain ⟨n2, rfl, rfl⟩ := int_of_trod Tryd.underlying2 h2
      obtain ⟨n3, rfl, rfl⟩ := int_of_trod Tryd.underlying2 h3
      obtain ⟨n4, rfl, rfl⟩ := int_of_trod Tryd.underlying2 h4
      obtain ⟨n5, rfl, rfl⟩ := int_of_trod Tryd.underlying2 h5
      simp [Rows.laid_loop_example_g01403_impl_firstPrimes] at hx
      obtain ⟨⟨rfl, rfl, rfl, rfl, rfl, rfl⟩, _⟩ := hx
      rfl
    · cases hd
theorem cellsOfF : Tryd.prog.cellsOf 58 = 2 := by kernel_rfl
set_option maxRecDepth 100000 in
theorem cellsN_of {W : World} {fuel : Nat} {cs : Array Value} {p : List MemPlace} (hd : DataW.trod (fun _ => ()) Tryd.prog W 0 (fun _ => true) false fuel 58 cs.toList = some (Rows.laid_loop_example_g01403_impl_noShare, p)) : cs = cellsN := by
  obtain ⟨l⟩ := cs
  cases fuel with
  | zero => simp [DataW.trod] at hd
  | succ fuel =>
    simp only [DataW.trod, Tryd.underlying58, cellsOfF] at hd
    split at hd
    · rename_i hl
      obtain ⟨c0, c1, rfl⟩ : ∃ c0 c1, l = [c0, c1] := by
        match l, hl with
        | [a, b], _ => exact ⟨a, b, rfl⟩
      simp only [Option.map_eq_some_iff, List.mapM_cons, List.mapM_nil, Option.bind_eq_bind, Option.bind_eq_some_iff, Option.pure_def, Option.some.injEq, cellsOfI, List.drop_zero, List.drop_succ_cons, List.take_succ_cons, List.take_zero] at hd
      obtain ⟨xs, ⟨y0, h0, _, ⟨y1, h1, _, rfl, rfl⟩, rfl⟩, hx⟩ := hd
      obtain ⟨n0, rfl, rfl⟩ := int_of_trod Tryd.underlying2 h0
      obtain ⟨n1, rfl, rfl⟩ := int_of_trod Tryd.underlying2 h1
      simp [Rows.laid_loop_example_g01403_impl_noShare] at hx
      obtain ⟨⟨rfl, rfl⟩, _⟩ := hx
      rfl
    · cases hd
abbrev laidL : List (String × DataW Unit) := [("loop.example/g01403/impl.firstPrimes", Rows.laid_loop_example_g01403_impl_firstPrimes), ("loop.example/g01403/impl.noShare", Rows.laid_loop_example_g01403_impl_noShare)]
abbrev varsL : List String := ["loop.example/g01403/impl.firstPrimes", "loop.example/g01403/impl.noShare"]
theorem vars_of_laid {W : World} (h : laidMetH Tryd.prog laidL W) : W.var? Tryd.prog "loop.example/g01403/impl.firstPrimes" = some cellsP ∧ W.var? Tryd.prog "loop.example/g01403/impl.noShare" = some cellsN := by
  rw [MakeChecks.laidMetH_plain _ _ _ (by kernel_rfl)] at h
  obtain ⟨ps, ⟨g0, t0, cs0, f0, p0, q0, hg0, ht0, hv0, hd0, ⟨g1, t1, cs1, f1, p1, q1, hg1, ht1, hv1, hd1, _, _⟩, _⟩, _, _⟩ := h
  obtain rfl := Option.some.inj (gP.symm.trans hg0)
  obtain rfl := Option.some.inj (gN.symm.trans hg1)
  obtain rfl := Option.some.inj (tP.symm.trans ht0)
  obtain rfl := Option.some.inj (tN.symm.trans ht1)
  obtain rfl := cellsP_of hd0
  obtain rfl := cellsN_of hd1
  exact ⟨hv0, hv1⟩
theorem glob_of_vars {W : World} (h : W.var? Tryd.prog "loop.example/g01403/impl.firstPrimes" = some cellsP ∧ W.var? Tryd.prog "loop.example/g01403/impl.noShare" = some cellsN) : Glob W := by
  refine ⟨fun i hi => ?_, World.var?_cell gN h.2 0, World.var?_cell gN h.2 1⟩
  rw [World.var?_cell gP h.1 i]
  rcases (by omega : i = 0 ∨ i = 1 ∨ i = 2 ∨ i = 3 ∨ i = 4 ∨ i = 5) with rfl | rfl | rfl | rfl | rfl | rfl <;> rfl
/-- Each variable lies as it lay wherever what lay has not changed. -/
theorem var_below {W W' : World} {n : String} {g : Nat} {cs : Array Value} (hg : Tryd.prog.globalNamed n = some g) (h : W.var? Tryd.prog n = some cs) (hb : Below W.heap.size W W') : W'.var? Tryd.prog n = some cs := by
  simp only [World.var?, hg, Option.bind_some] at h ⊢
  cases hh : W.heap[g]? with
  | none => rw [hh] at h; cases h
  | some o =>
    have hlt : g < W.heap.size := (Array.getElem?_eq_some_iff.1 hh).1
    rw [hb.block g hlt, hh]
    rw [hh] at h
    exact h
def dataP {H : Type} : DataW H := .agg [.lit (.int .i64 2), .lit (.int .i64 3), .lit (.int .i64 5), .lit (.int .i64 7), .lit (.int .i64 11), .lit (.int .i64 13)]
def dataN {H : Type} : DataW H := .agg [.lit (.int .i64 0), .lit (.int .i64 1)]
theorem reads_P {H : Type} (enc : TypeId × Value → H) (W : World) (sp : Nat → Bool) : DataW.trod enc Tryd.prog W 0 sp true 3 79 cellsP.toList = some (dataP, []) := by kernel_rfl
theorem reads_N {H : Type} (enc : TypeId × Value → H) (W : World) (sp : Nat → Bool) : DataW.trod enc Tryd.prog W 0 sp true 3 58 cellsN.toList = some (dataN, []) := by kernel_rfl
theorem trodVarsL {H : Type} (enc : TypeId × Value → H) {W : World} (h : W.var? Tryd.prog "loop.example/g01403/impl.firstPrimes" = some cellsP ∧ W.var? Tryd.prog "loop.example/g01403/impl.noShare" = some cellsN) (sp : Nat → Bool) :
    ∃ ps, DataW.TrodVars enc Tryd.prog W sp varsL [dataP, dataN] ps :=
  ⟨_, 1, 79, cellsP, 3, [], _, gP, tP, h.1, reads_P enc W sp, ⟨0, 58, cellsN, 3, [], [], gN, tN, h.2, reads_N enc W sp, rfl, rfl⟩, rfl⟩
theorem vars_data {H : Type} (enc : TypeId × Value → H) {W : World} (h : W.var? Tryd.prog "loop.example/g01403/impl.firstPrimes" = some cellsP ∧ W.var? Tryd.prog "loop.example/g01403/impl.noShare" = some cellsN) {sp : Nat → Bool} {gs : List (DataW H)} {ps : List MemPlace} (hV : DataW.TrodVars enc Tryd.prog W sp varsL gs ps) : gs = [dataP, dataN] := by
  obtain ⟨g0, t0, cs0, f0, d0, p0, g1, t1, cs1, f1, d1, p1, rfl, hg0, ht0, hv0, hd0, hg1, ht1, hv1, hd1, _⟩ := trodVars_two hV
  obtain rfl := Option.some.inj (gP.symm.trans hg0)
  obtain rfl := Option.some.inj (gN.symm.trans hg1)
  obtain rfl := Option.some.inj (tP.symm.trans ht0)
  obtain rfl := Option.some.inj (tN.symm.trans ht1)
  obtain rfl : cs0 = cellsP := Option.some.inj (hv0.symm.trans h.1)
  obtain rfl : cs1 = cellsN := Option.some.inj (hv1.symm.trans h.2)
  obtain ⟨rfl, rfl⟩ := DataW.Trod.unique (v := .agg cellsP) ⟨f0, hd0⟩ ⟨3, reads_P enc W _⟩
  obtain ⟨rfl, rfl⟩ := DataW.Trod.unique (v := .agg cellsN) ⟨f1, hd1⟩ ⟨3, reads_N enc W _⟩
  rfl
/-- The door's own heap meets the condition. -/
theorem door_met (os : Os) (args : Array Value) : laidMetH Tryd.prog laidL ((World.doorLaid Tryd.prog 400 os).forCall (fun _ _ => 0) ⟨#[], args, []⟩).memory :=
  laidMetH_of_parts3 (fuel := 8) (laidMet_of_run' 8 (by kernel_rfl) (by kernel_rfl)) (by kernel_rfl) (by kernel_rfl)
end Go.Proofs.YtffhnkhjfggooabDoor
