
/- The map of the levels that are not told: what it holds, key by key; the program's look for an edge with one end told. -/
import Derived.Test.YtogmcinaoemnpabElp
import Derived.Test.YtogmcinaoemnpabAei
import Derived.Maps.OwnSet
import Derived.Maps.OwnOps
namespace Go
open Go.Maps (Keyed)
/-- 'm[k]' at elements that are bools. -/
theorem wpList_lookup_own_bool {H : Type} {P : Program} (w : World) {ops : Array Oper} {rest : List Oper} {o : Oper} {a : Act} {Q : Exit → Act → World → Prop}
    (hg : o.guard = none) (m x : Operand) (t : TypeId) (hop : o.op = Op.lookup t m x false)
    (k e : TypeId) (K : Keyed P k) (ht : P.underlying t = some (.map k e)) (he : P.underlying e = some .bool) (hz : (zeroValue e).run P w = .ok (.bool false) w) (b n : Nat) (D : DataW H)
    (hm : a.eval m = .map (some b)) (hown : w.ownsMap P k (plainElem P e) b n D) (key : Value) (kl : Lit) (hx : a.eval x = key) (hkey : keyOf P k key = some kl)
    (hK : ∀ c : Bool, D.atKey kl (.lit (.bool false)) = .lit (.bool c) → wpList P ops Q rest (a.put o.dst (.bool c)) w) :
    wpList P ops Q (o :: rest) a w := by
  refine wpList_plain hg fun K' hK' => ?_
  obtain ⟨v, ps, hrun, hv⟩ := hown.lookup K ht hz (plainElem_bool he false) hkey
  obtain ⟨c, rfl, hc⟩ : ∃ c, v = .bool c ∧ D.atKey kl (.lit (.bool false)) = .lit (.bool c) := by
    unfold plainElem at hv
    rw [he] at hv
    cases v <;> simp at hv
    exact ⟨_, rfl, hv.1.symm⟩
  unfold Oper.wp
  simp [execOp, hop, hm, hx, hrun, Result.andThen]
  exact hK' _ _ (hK c hc)
end Go
namespace Go.Proofs.Ytogmcinaoemnpab
set_option linter.all false
open Go Go.ChangeShapes Go.WideShapes Go.ChangeAt Go.RowKit Go.Maps

theorem mapLaw' : Keyed Try.prog 2 := int_keyed Try.underlying2
theorem zeroBool (w : World) : (zeroValue 4).run Try.prog w = .ok (.bool false) w := by kernel_rfl
theorem map_drew' {P : Program} {k : TypeId} {R : Value → Option (DataW Unit × List MemPlace)} {w : World} {b n : Nat} {D : DataW Unit} (h : w.ownsMap P k R b n D) (j : Nat) : (w.drewN j).ownsMap P k R b n D := h
theorem map_below {P : Program} {k : TypeId} {R : Value → Option (DataW Unit × List MemPlace)} {w w' : World} {b n : Nat} {D : DataW Unit} (h : w.ownsMap P k R b n D) (hB : Below w.heap.size w w') : w'.ownsMap P k R b n D := by
  have hl := h.lt
  obtain ⟨es, clock, hb, r⟩ := h
  exact ⟨es, clock, (hB.block b hl).trans hb, r⟩
/-- The levels of the first L that are not told are in the map. -/
def HOpen (L : Nat) (T : Nat → Bool) (D : DataW Unit) : Prop :=
  ∀ x : Nat, Maps.has D (.int .i64 (x : Int)) = (decide (x < L) && !T x) ∧ D.atKey (.int .i64 (x : Int)) (.lit (.bool false)) = .lit (.bool (decide (x < L) && !T x))
theorem HOpen.start : HOpen 1 (fun x => decide (x = 0)) (.map []) := fun x => by
  have e : (decide (x < 1) && !decide (x = 0)) = false := by
    by_cases h : x = 0
    · simp [h]
    · rw [decide_eq_false (show ¬ x < 1 by omega)]; rfl
  rw [e]
  exact ⟨rfl, rfl⟩
theorem lit_ne {x y : Nat} (h : x ≠ y) : Lit.int .i64 (x : Int) ≠ Lit.int .i64 (y : Int) := fun e => h (by simp at e; omega)
theorem HOpen.put {l : Nat} {D : DataW Unit} (h : HOpen l (fun x => decide (x = 0)) D) (hD : IsMap D) (hl : 1 ≤ l) : HOpen (l + 1) (fun x => decide (x = 0)) (D.put (.int .i64 (l : Int)) (.lit (.bool true))) := fun x => by
  by_cases hx : x = l
  · subst hx
    have hkl : WideAt.IsKeyLit (.int .i64 (x : Int)) := trivial
    have e : (decide (x < x + 1) && !decide (x = 0)) = true := by rw [decide_eq_true (show x < x + 1 by omega), decide_eq_false (show ¬ x = 0 by omega)]; rfl
    rw [e]
    exact ⟨has_put_same hD hkl _, atKey_put_same hD hkl _ _⟩
  · have e : (decide (x < l + 1) && !decide (x = 0)) = (decide (x < l) && !decide (x = 0)) := by
      congr 1
      exact decide_eq_decide.2 (by omega)
    rw [e, has_put_other (lit_ne hx), atKey_put_other (lit_ne hx)]
    exact h x
theorem HOpen.del {L a : Nat} {T : Nat → Bool} {D : DataW Unit} (h : HOpen L T D) : HOpen L (fun x => T x || decide (x = a)) (D.del (.int .i64 (a : Int))) := fun x => by
  by_cases hx : x = a
  · subst hx
    have e : (decide (x < L) && !(T x || decide (x = x))) = false := by simp
    rw [e]
    exact ⟨has_del_same, atKey_del_same _⟩
  · have e : (decide (x < L) && !(T x || decide (x = a))) = (decide (x < L) && !T x) := by simp [hx]
    rw [e, has_del_other (lit_ne hx), atKey_del_other (lit_ne hx)]
    exact h x
theorem HOpen.congr {L : Nat} {T U : Nat → Bool} {D : DataW Unit} (h : HOpen L T D) (e : ∀ x, T x = U x) : HOpen L U D := fun x => by rw [← e x]; exact h x
set_option maxRecDepth 100000 in
set_option maxHeartbeats 3200000 in
theorem elOdd_any (l : Ed) (g b n L : Nat) (T : Nat → Bool) (D : DataW Unit) (w : World) (hg : w.cell? ⟨g, 0, none⟩ = some (.map (some b))) (hm : w.ownsMap Try.prog 2 (plainElem Try.prog 4) b n D) (hD : HOpen L T D) (hE : EdIn L l) (hL : L ≤ 12) :
    Calls Try.prog 60 #[.agg #[.int .i64 l.a, .int .i64 l.b, .float .f32 l.p], .pointer (some ⟨g, 0, none⟩)] w fun e w' => e = .returned (.bool (T l.a.toNat != T l.b.toNat)) ∧ Below w.heap.size w w' := by
  obtain ⟨e1, e2, e3, e4, e5⟩ := hE
  obtain ⟨A, hA⟩ : ∃ A : Nat, l.a = A := ⟨l.a.toNat, by omega⟩
  obtain ⟨B, hB⟩ : ∃ B : Nat, l.b = B := ⟨l.b.toNat, by omega⟩
  rw [hA] at e1 e2 e5 ⊢
  rw [hB] at e3 e4 e5 ⊢
  have HA := Below.alloc (Below.refl w.heap.size w) (Nat.le_refl _) (.cells #[.int .i64 (A : Int), .int .i64 (B : Int), .float .f32 l.p] 80)
  have hgl := World.block_lt_of_cell? w _ hg
  have hg1 := (HA.cell (p := ⟨g, 0, none⟩) hgl).trans hg
  have hm1 := Lib.hid (map_below hm HA)
  have K1 := Lib.hid (keyOf_int_mk Try.underlying2 (a := (A : Int)) (WalkArith.wf_i64 (by omega)))
  have K2 := Lib.hid (keyOf_int_mk Try.underlying2 (a := (B : Int)) (WalkArith.wf_i64 (by omega)))
  have hd1 := (hD A).2
  have hd2 := (hD B).2
  rw [decide_eq_true (show A < L by omega), Bool.true_and] at hd1
  rw [decide_eq_true (show B < L by omega), Bool.true_and] at hd2
  have H1 := Lib.hid hd1
  have H2 := Lib.hid hd2
  obtain ⟨t, ht⟩ : ∃ t, t = T A := ⟨_, rfl⟩
  obtain ⟨u, hu⟩ : ∃ u, u = T B := ⟨_, rfl⟩
  rw [← ht] at H1
  rw [← hu] at H2
  have HR := Lib.hid (show (!((!t) == (!u))) = (T A != T B) by rw [← ht, ← hu]; cases t <;> cases u <;> rfl)
  clear ht hu hd1 hd2 hm hD hg
  obtain ⟨P, hP⟩ : ∃ P, P = l.p := ⟨_, rfl⟩
  rw [← hP] at HA hg1 hm1 ⊢
  clear hA hB hP e5
  have tok1 : True := trivial
  have tok2 : True := trivial
  go_enter Try.func60, Try.ntmps60
  go_wp2_with (first | (at_lookup; have _t := tok1; refine wpList_lookup_own_bool _ rfl _ _ 74 rfl 2 4 mapLaw' Try.underlying74 Try.underlying4 (zeroBool _) b n _ rfl (by exact hm1.out) _ _ rfl K1.out ?_; intro c1 hat1; clear tok1) | (at_lookup; have _t := tok2; refine wpList_lookup_own_bool _ rfl _ _ 74 rfl 2 4 mapLaw' Try.underlying74 Try.underlying4 (zeroBool _) b n _ rfl (by exact hm1.out) _ _ rfl K2.out ?_; intro c2 hat2; clear tok2))
  go_ret
  have q1 := hat1.symm.trans H1.out
  have q2 := hat2.symm.trans H2.out
  simp only [DataW.lit.injEq, Lit.bool.injEq] at q1 q2
  subst q1
  subst q2
  exact ⟨by rw [← HR.out]; rfl, HA⟩
end Go.Proofs.Ytogmcinaoemnpab
