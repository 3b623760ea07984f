
/- Steps that grow as the ones before tell: what is done in one, and a row that is copied. -/
import Derived.Test.YtmpcalpapkedhaaVec
import Derived.Test.YtmpcalpapkedhaaLev
import Derived.Test.YtmpcalpapkedhaaNu5
import Derived.Test.YtmpcalpapkedhaaPushS
import Derived.Test.YtmpcalpapkedhaaIn
import Derived.Test.YtmpcalpapkedhaaPush0
import Derived.WalkMore
import Derived.ScopeJumps
import Derived.Deep.QuietTactic
import Derived.Lib.SliceRun
namespace Go.Proofs.Ytmpcalpapkedhaa
open Go Go.ChangeShapes Go.WideShapes Go.ChangeAt Go.RowKit

def stepR (G : (Nat → Nat) → Nat → Nat) (h : Nat) (X : Nat → Nat) : Nat → Nat → Nat
  | 0 => X
  | t + 1 => fun j => fbin .add .f32 (stepR G h X t j) (fbin .mul .f32 h (G (stepR G h X t) j))
/-- A new row, each number of which is told, or, where it is a not-a-number, any. -/
def GrowRet (R : Nat → Nat) (n : Nat) (w : World) (e : Ending) (w' : World) : Prop :=
  ∃ g Y, e = .returned (.slice (some ⟨g, 0, none⟩) n n) ∧ w'.ownsRow w.heap.size 22 1 (.slice (some ⟨g, 0, none⟩) n n) n (rowOf Y n) ∧ LikeP Y R n ∧ Below w.heap.size w w'
theorem like_self {X : Nat → Nat} {n : Nat} (h : finL X n = true) : LikeP X X n := fun j hj => ⟨0, by
  have := finL_at h j hj
  rw [pick_num]
  unfold isFin at this
  unfold isNaN
  cases h1 : (FloatKind.f32.decode (X j)).isNaN
  · rfl
  · rw [h1] at this; cases this⟩
theorem Rd.alloc {w : World} {xa : Option Addr} {n : Nat} {X : Nat → Nat} (h : Rd w xa n X) (o : Obj) : Rd (w.alloc o) xa n X := h.below ((Below.refl _ _).alloc (Nat.le_refl _) o)
theorem wpL_clone {i0 : TypeInfo} (hi : Try.prog.info? 22 = some i0) (hz0 : i0.zero = some (.float .f32 0)) (hz1 : i0.size = 1) (hz2 : i0.bytes = 4)
    {w0 : World} {g0 : Nat} {ops : Array Oper} {rest : List Oper} {o : Oper} {a : Act} {Q : Exit → Act → World → Prop} (hgd : o.guard = none) {s x : Operand}
    (ho : o.op = .call { callee := .builtin .append, args := #[s, x], argTypes := #[201, 201] }) {xa : Option Addr} {n cx : Nat} {X : Nat → Nat} (hs : a.eval s = .slice (some ⟨g0, 0, none⟩) 0 0) (hx : a.eval x = .slice xa n cx)
    (hX : Rd w0 xa n X) (h1 : 1 ≤ n) (hn : n ≤ 1048576)
    (h : ∀ v' w', w'.ownsRow w0.heap.size 22 1 v' n (rowOf X n) → Below w0.heap.size w0 w' → wpList Try.prog ops Q rest (a.put o.dst v') w') :
    wpList Try.prog ops Q (o :: rest) a w0 := by
  obtain ⟨xb, xo, hxa, hcx⟩ := hX
  have e := hxa (by omega)
  subst e
  refine wpList_append_grows _ hgd s x 201 ho 22 i0 (.float .f32 0) 1 4 Try.underlying201 hi hz0 hz1 hz2 rfl (by decide) (some ⟨g0, 0, none⟩) 0 0 [] hs (fun h => by cases h) rfl (fun b _ j u hj => by simp at hj) ⟨xb, xo, none⟩ n cx (rowOf X n) hx (by rw [rowOf_length, Nat.mul_one]) ?_ ?_ (by omega) (by unfold maxLen; omega) (by omega) ?_
  · intro j c hj
    by_cases hjn : j < n
    · rw [rowOf_get _ _ _ hjn] at hj
      cases hj
      have := hcx j hjn
      by_cases h0 : j = 0
      · subst h0; simpa [Addr.add] using this
      · simpa [Addr.add, h0] using this
    · rw [List.getElem?_eq_none (by simp [rowOf_length]; omega)] at hj; cases hj
  · intro c hc
    obtain ⟨j, hj, rfl⟩ := List.mem_map.1 hc
    rfl
  · intro v' w' h1 h2
    rw [Nat.zero_add, List.nil_append] at h1
    exact h v' w' h1 (below_grown h2)
/-- A copy of a row that has a number. -/
def CloneRet (X : Nat → Nat) (n : Nat) (w : World) (e : Ending) (w' : World) : Prop :=
  ∃ g cap, e = .returned (.slice (some ⟨g, 0, none⟩) n cap) ∧ w'.ownsRow w.heap.size 22 1 (.slice (some ⟨g, 0, none⟩) n cap) n (rowOf X n) ∧ Below w.heap.size w w'
set_option maxRecDepth 100000 in
set_option maxHeartbeats 800000 in
theorem clone_any (xa : Option Addr) (n cap : Nat) (X : Nat → Nat) (w : World) (hX : Rd w xa n X) (h1 : 1 ≤ n) (hn : n ≤ 1048576) :
    Calls Try.prog 193 #[.slice xa n cap] w (CloneRet X n w) := by
  obtain ⟨i0, hi, hz0, hz1, hz2⟩ := info_parts infoF
  have hX' := hX
  obtain ⟨xb, xo, hxa, _⟩ := hX'
  have e := hxa (by omega)
  subst e
  have hnil : ∀ W, (binOp .eql 201 (.slice (some ⟨xb, xo, none⟩) n cap) (.slice none 0 0)).run Try.prog W = .ok (.bool false) W := fun W => Lib.run_eql_slice_nil W _ _ _ _ _ _ _ Try.underlying201
  go_enter Try.func193, Try.ntmps193
  go_wp2_with (at_builtin; refine wpL_clone hi hz0 hz1 hz2 rfl rfl rfl rfl (by exact hX.alloc _) h1 hn ?_; intro v' w1 hown hb)
  have hown' : w1.ownsRow w.heap.size 22 1 v' n (rowOf X n) := own_mono0 hown (by simp)
  have hb' : Below w.heap.size w w1 := ((Below.refl _ w).alloc (Nat.le_refl _) (.cells #[] 22)).trans (hb.mono (by simp))
  obtain ⟨g, cp, rfl⟩ : ∃ g cap, v' = .slice (some ⟨g, 0, none⟩) n cap := by
    rcases hown'.2 with ⟨_, h2⟩ | ⟨g, cp, cur, h1, _⟩
    · omega
    · exact ⟨g, cp, h1⟩
  go_ret
  exact ⟨g, cp, rfl, hown', hb'⟩
theorem made2 (w1 : World) {B g : Nat} (hg : g = w1.heap.size) (hB : B ≤ w1.heap.size) (x y : Nat) :
    (w1.alloc (.cells #[.float .f32 x, .float .f32 y] 22)).ownsRow B 22 1 (.slice (some ⟨g, 0, none⟩) 2 2) 2 (rowOf (duo x y) 2) := by
  subst hg
  exact ⟨rfl, .inr ⟨w1.heap.size, 2, #[.float .f32 x, .float .f32 y], rfl, hB, heap_alloc_new w1 _, Nat.le_refl _, by decide, rfl, rfl⟩⟩
def tri (x y z : Nat) (i : Nat) : Nat := if i = 0 then x else if i = 1 then y else z
theorem made3 (w1 : World) {B g : Nat} (hg : g = w1.heap.size) (hB : B ≤ w1.heap.size) (x y z : Nat) :
    (w1.alloc (.cells #[.float .f32 x, .float .f32 y, .float .f32 z] 22)).ownsRow B 22 1 (.slice (some ⟨g, 0, none⟩) 3 3) 3 (rowOf (tri x y z) 3) := by
  subst hg
  exact ⟨rfl, .inr ⟨w1.heap.size, 3, #[.float .f32 x, .float .f32 y, .float .f32 z], rfl, hB, heap_alloc_new w1 _, Nat.le_refl _, by decide, rfl, rfl⟩⟩
theorem like2 {R : Nat → Nat} {A B s t : Nat} (h0 : R 0 = A) (h1 : R 1 = B) : LikeP (duo (pick .f32 A s) (pick .f32 B t)) R 2 := fun j hj => by
  rcases (by omega : j = 0 ∨ j = 1) with rfl | rfl
  · exact ⟨s, by rw [h0]; rfl⟩
  · exact ⟨t, by rw [h1]; rfl⟩
theorem like3 {R : Nat → Nat} {A B C s t u : Nat} (h0 : R 0 = A) (h1 : R 1 = B) (h2 : R 2 = C) : LikeP (tri (pick .f32 A s) (pick .f32 B t) (pick .f32 C u)) R 3 := fun j hj => by
  rcases (by omega : j = 0 ∨ j = 1 ∨ j = 2) with rfl | rfl | rfl
  · exact ⟨s, by rw [h0]; rfl⟩
  · exact ⟨t, by rw [h1]; rfl⟩
  · exact ⟨u, by rw [h2]; rfl⟩
/-- A loop by 'goto': what holds at each jump; the first pass may go on with the others. -/
theorem wp_scope_rest {P : Program} {Q : Exit → Act → World → Prop} {a : Act} {w : World} {c rest : Code} (l : Nat) (J : Act → World → Prop) (μ : Act → World → Nat) (hf : findLabel c l = some (Code.skip.seq rest))
    (pass : ∀ a w, J a w → rest.wp P (Exit.jump l (fun a' w' => J a' w' ∧ μ a' w' < μ a w) Q) a w)
    (first : (∀ a w, J a w → rest.wp P (Exit.jump l J Q) a w) → c.wp P (Exit.jump l J Q) a w) : (Code.scope c).wp P Q a w :=
  wp_scope_jumps l J μ hf (first fun a w h => Code.wp_mono (fun e a' w' he => by
    unfold Exit.jump at he ⊢
    cases e <;> first | exact he | (split at he <;> simp_all)) (pass a w h)) fun a w h => wp_seq (wp_skip (pass a w h))
theorem step_if {S S' : Nat → Nat} {k n : Nat} : ∀ j, j < n → (fun j => if j = k then S' k else (fun j => if j < k then S' j else S j) j) j = (fun j => if j < k + 1 then S' j else S j) j := fun j _ => by
  by_cases e : j = k
  · subst e; simp
  · by_cases e2 : j < k
    · simp [e, e2, show j < k + 1 by omega]
    · simp [e, e2, show ¬ j < k + 1 by omega]
end Go.Proofs.Ytmpcalpapkedhaa
