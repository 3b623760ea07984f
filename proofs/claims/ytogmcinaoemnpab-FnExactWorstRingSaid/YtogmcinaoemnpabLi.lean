
/- Rows of 32-bit numbers in memory: 'Rd w xa n X': the slice with the address xa and the length n reads as X 0, X 1 .. in w; an argument that is a slice of them, opened; what an order of evaluation that is open needs of '+', '-', '*', '/' and of a conversion. -/
import Derived.Test.YtogmcinaoemnpabOwn
import Derived.Deep.Slices
import Derived.Carry
import Derived.Below
namespace Go.Proofs.Ytogmcinaoemnpab
open Go Go.ChangeShapes Go.WideShapes Go.ChangeAt Go.RowKit

def Rd (w : World) (xa : Option Addr) (n : Nat) (X : Nat → Nat) : Prop := ∃ xb xo, (0 < n → xa = some ⟨xb, xo, none⟩) ∧ ∀ i, i < n → w.cell? ⟨xb, xo + i, none⟩ = some (.float .f32 (X i))
def rowOf (X : Nat → Nat) (n : Nat) : List Value := (List.range n).map fun i => .float .f32 (X i)
theorem rowOf_length (X : Nat → Nat) (n : Nat) : (rowOf X n).length = n := by simp [rowOf]
theorem rowOf_get (X : Nat → Nat) (n i : Nat) (h : i < n) : (rowOf X n)[i]? = some (.float .f32 (X i)) := by simp [rowOf, h]
theorem rowOf_succ (X : Nat → Nat) (n : Nat) : rowOf X (n + 1) = rowOf X n ++ [.float .f32 (X n)] := by simp [rowOf, List.range_succ]
theorem rowOf_congr {X Y : Nat → Nat} {n : Nat} (h : ∀ i, i < n → X i = Y i) : rowOf X n = rowOf Y n := by
  unfold rowOf; exact List.map_congr_left fun i hi => by rw [h i (List.mem_range.1 hi)]
theorem rowOf_set (X : Nat → Nat) (n j u : Nat) : (rowOf X n).set j (.float .f32 u) = rowOf (fun i => if i = j then u else X i) n := by
  apply List.ext_getElem?
  intro i
  by_cases hi : i < n
  · rw [rowOf_get _ _ _ hi, List.getElem?_set]
    by_cases hj : j = i
    · subst hj; simp [rowOf_length, hi]
    · rw [if_neg hj, rowOf_get _ _ _ hi, if_neg (fun h => hj h.symm)]
  · rw [List.getElem?_eq_none (by simp [rowOf_length]; omega), List.getElem?_eq_none (by simp [rowOf_length]; omega)]
theorem Rd.drew {w : World} {xa : Option Addr} {n : Nat} {X : Nat → Nat} (h : Rd w xa n X) (k : Nat) : Rd (w.drewN k) xa n X := h
theorem Rd.below {w w' : World} {xa : Option Addr} {n : Nat} {X : Nat → Nat} (h : Rd w xa n X) (hb : Below w.heap.size w w') : Rd w' xa n X := by
  obtain ⟨xb, xo, h1, h2⟩ := h
  refine ⟨xb, xo, h1, fun i hi => ?_⟩
  rw [hb.cell (p := ⟨xb, xo + i, none⟩) (World.block_lt_of_cell? w _ (h2 i hi))]
  exact h2 i hi
theorem Rd.congr {w : World} {xa : Option Addr} {n : Nat} {X Y : Nat → Nat} (h : Rd w xa n X) (he : ∀ i, i < n → X i = Y i) : Rd w xa n Y := by
  obtain ⟨xb, xo, h1, h2⟩ := h
  exact ⟨xb, xo, h1, fun i hi => by rw [h2 i hi, he i hi]⟩
theorem Rd.nil (w : World) (xa : Option Addr) (X : Nat → Nat) : Rd w xa 0 X := ⟨0, 0, fun h => absurd h (Nat.lt_irrefl _), fun _ h => absurd h (Nat.not_lt_zero _)⟩
/-- What is owned reads. -/
theorem rd_of_own {w : World} {B e : Nat} {v : Value} {n : Nat} {X : Nat → Nat} (h : w.ownsRow B e 1 v n (rowOf X n)) :
    ∃ xa cap, v = .slice xa n cap ∧ n ≤ cap ∧ cap ≤ maxLen ∧ Rd w xa n X := by
  have h0 := h
  rcases h.2 with ⟨rfl, rfl⟩ | ⟨g, cap, cur, rfl, hB, hg, hn, hc, hs, ht⟩
  · exact ⟨none, 0, rfl, Nat.le_refl _, Nat.zero_le _, Rd.nil _ _ _⟩
  · refine ⟨_, cap, rfl, hn, hc, g, 0, fun _ => rfl, fun i hi => ?_⟩
    rw [Nat.zero_add, h0.cellAt i (by omega), rowOf_get _ _ _ hi]

section
variable {H : Type} {enc : TypeId × Value → H} {P : Program} {w : World} {base : Nat} {spare : Nat → Bool} {held : Bool}
theorem trod_float {n : Nat} {e : TypeId} {v : Value} {x : DataW H × List MemPlace} (he : P.underlying e = some (.float .f32)) (h : DataW.trod enc P w base spare held n e [v] = some x) : ∃ b, v = .float .f32 b ∧ (Lit.float .f32 b).wf = true := by
  cases n with
  | zero => simp [DataW.trod] at h
  | succ n =>
    rw [DataW.trod_step] at h
    unfold DataW.trodStep at h
    simp only [he] at h
    cases v <;> try (simp at h; done)
    rename_i k b
    by_cases hk : k = .f32
    · subst hk
      by_cases hw : (Lit.float .f32 b).wf = true
      · exact ⟨b, rfl, hw⟩
      · simp [hw] at h
    · cases k
      · exact absurd rfl hk
      · simp at h
/-- An argument that is a slice of 32-bit numbers. -/
theorem open_f32s {t e : TypeId} {xa : Option Addr} {len cap : Nat} {d : DataW H} {ps : List MemPlace} (ht : P.underlying t = some (.slice e)) (he : P.underlying e = some (.float .f32)) (hc : P.cellsOf e = 1)
    (h : DataW.Trod enc P w base spare held t (.slice xa len cap) d ps) : len ≤ cap ∧ cap ≤ maxLen ∧ ∃ X, Rd w xa len X ∧ ∀ i, i < len → (Lit.float .f32 (X i)).wf = true := by
  obtain ⟨fuel, hf⟩ := h
  have hf' : DataW.trod enc P w base spare held fuel t [.slice xa len cap] = some (d, ps) := hf
  rcases Deep.open_slice1 ht hc hf' with ⟨h1, _⟩ | ⟨a, len', cap', m, n, V, D, Pl, hcs, _, hl, hm, hmm, _, hx⟩
  · simp only [List.cons.injEq, Value.slice.injEq, and_true] at h1
    obtain ⟨rfl, rfl, rfl⟩ := h1
    exact ⟨Nat.le_refl _, Nat.zero_le _, fun _ => 0, Rd.nil _ _ _, fun i hi => absurd hi (Nat.not_lt_zero _)⟩
  · simp only [List.cons.injEq, Value.slice.injEq, and_true] at hcs
    obtain ⟨rfl, rfl, rfl⟩ := hcs
    have hlm : len ≤ m := by rw [hmm]; split <;> omega
    obtain ⟨X, hX⟩ := Deep.choose_lt (α := Nat) (n := len) (p := fun i b => V i = .float .f32 b ∧ (Lit.float .f32 b).wf = true) (fun i hi => trod_float he (hx i (by omega)).2)
    refine ⟨hl, hm, X, ⟨a.block, a.off, fun hp => ?_, fun i hi => ?_⟩, fun i hi => (hX i hi).2⟩
    · have h0 := (hx 0 (by omega)).1
      have hs : a.spot = none := by simpa [Addr.add] using World.cell?_spot h0
      cases a
      simp only at hs
      rw [hs]
    · have h0 := (hx i (by omega)).1
      have hs := World.cell?_spot h0
      rw [(hX i hi).1] at h0
      rw [← h0]
      congr 1
      unfold Addr.add at hs ⊢
      by_cases hi0 : i = 0
      · subst hi0
        simp only [if_true] at hs ⊢
        cases a
        simp only at hs
        simp [hs]
      · simp [hi0]
end
theorem laidOut : laidOutB Try.prog = true := by kernel_rfl

/-- How many draws an operation makes whose number would be this. -/
def nd (k : FloatKind) (X : Nat) : Nat := if isNaN k X = true then 1 else 0
/-- The draw by which an operation's not-a-number is told. -/
def sdb (w : World) (k : FloatKind) (x y : Nat) : Nat := w.tape w.drawn (.nanBits k x y)
def sdc (w : World) (k : FloatKind) (x : Nat) : Nat := w.tape w.drawn (.nanConv k x)
section
variable {P : Program}
theorem run_arith {op : BinOp} (h : isArith op = true) (k : FloatKind) (x y : Nat) (w : World) :
    (Op.floatArith op k x y).run P w = .ok (.float k (pick k (fbin op k x y) (sdb w k x y))) (w.drewN (nd k (fbin op k x y))) := by
  cases hb : floatBits op k x y with
  | some r =>
    have hf : fbin op k x y = r := by simp [fbin, hb]
    have hn := floatBits_num hb
    rw [hf, pick_num hn]
    simp only [nd, hn, Bool.false_eq_true, if_false]
    exact run_floatArith w hb
  | none =>
    have hf : fbin op k x y = qnan k := by simp [fbin, hb]
    rw [hf, pick_nan (isNaN_qnan k)]
    simp only [nd, isNaN_qnan, if_true]
    have hr : (choose (.nanBits k x y)).run P w = .ok (nanw k (sdb w k x y)) (w.drewN 1) := by rw [← nanw_bits k x y]; rfl
    unfold floatBits at hb
    cases op <;> simp only [isArith] at h <;> first | (cases h; done) | skip
    all_goals (simp only at hb; simp [Op.floatArith, hb, hr, -run_choose, -run_choose_drew])
theorem run_conv {s d : FloatKind} (hne : s ≠ d) (b : Nat) (hok : convOk s b d) (w : World) :
    (Conv.floatToFloat s b d).run P w = .ok (.float d (pick d (fconv s b d) (sdc w d b))) (w.drewN (nd d (fconv s b d))) := by
  cases hn : isNaN s b
  · have hc : fconv s b d = d.encode (s.decode b) := by simp [fconv, hn]
    have hi : isNaN d (fconv s b d) = false := by rw [isNaN_fconv, hn]
    rw [pick_num hi, hc]
    simp only [nd, ← hc, hi, Bool.false_eq_true, if_false]
    rw [hc]
    unfold Conv.floatToFloat
    rw [if_neg hne]
    unfold convOk at hok
    cases hd : s.decode b with
    | nan => simp [isNaN, hd, Ieee.Datum.isNaN] at hn
    | infinity t => simp [World.drewN_zero]
    | number t m e =>
      rcases hok with h | h | h
      · rw [hn] at h; cases h
      · simp [hd, Ieee.Datum.isInfinity] at h
      · rw [hd] at h; simp [h, World.drewN_zero]
  · have hi : isNaN d (fconv s b d) = true := by rw [isNaN_fconv, hn]
    rw [pick_nan hi]
    simp only [nd, hi, if_true]
    have hr : (choose (.nanConv d b)).run P w = .ok (nanw d (sdc w d b)) (w.drewN 1) := by rw [← nanw_conv d b]; rfl
    obtain ⟨t, u, e⟩ := nan_of hn
    unfold Conv.floatToFloat
    rw [if_neg hne]
    have e' : s.decode b = .nan t u := e
    simp [e', hr, -run_choose, -run_choose_drew]
theorem run_binop {op : BinOp} (h : isArith op = true) (t : TypeId) (k : FloatKind) (x y : Nat) (w : World) :
    (binOp op t (.float k x) (.float k y)).run P w = .ok (.float k (pick k (fbin op k x y) (sdb w k x y))) (w.drewN (nd k (fbin op k x y))) := by
  have : (binOp op t (.float k x) (.float k y)) = Op.floatArith op k x y := by cases op <;> simp only [isArith] at h <;> first | (cases h; done) | simp [binOp]
  rw [this]
  exact run_arith h k x y w
theorem run_convert {s d : FloatKind} {src to : TypeId} (hs : (P.underlying src).isSome = true) (hd : P.underlying to = some (.float d)) (hne : s ≠ d) (b : Nat) (hok : convOk s b d) (w : World) :
    (convert src to (.float s b)).run P w = .ok (.float d (pick d (fconv s b d) (sdc w d b))) (w.drewN (nd d (fconv s b d))) := by
  obtain ⟨u, hs'⟩ := Option.isSome_iff_exists.1 hs
  cases u <;> simp [convert, run_underlying hs', run_underlying hd, run_conv hne b hok]
end
theorem widen_run (b : Nat) (w : World) : (convert 36 54 (.float .f32 b)).run Try.prog w = .ok (.float .f64 (pick .f64 (fconv .f32 b .f64) (sdc w .f64 b))) (w.drewN (nd .f64 (fconv .f32 b .f64))) :=
  run_convert (Option.isSome_iff_exists.2 ⟨_, Try.underlying36⟩) Try.underlying54 FloatKind.noConfusion b (convOk_widen _) w
end Go.Proofs.Ytogmcinaoemnpab
