
/- The wave at a place, as the program tells it. -/
import Derived.Test.YtbblohjldkpcnabWav
namespace Go.Proofs.Ytbblohjldkpcnab
open Go Go.ChangeShapes Go.WideShapes Go.ChangeAt Go.RowKit Go.Shelf

attribute [local go_sem] Oper.semAt_some
section
variable {F : Fence} {n : Nat} {P : Program} {w : World} {ops : Array Oper} {rest : List Oper} {a : Act} {Q : Exit → Act → World → Prop} {dst : Option Tmp} {ty : TypeId} {ps : String} {af : Array Edge}
/-- '+', '-', '*', '/' on floats, where calls are counted. -/
theorem wpIn_fbin {op : BinOp} {x y : Operand} {t yt : TypeId}
    (h : ∃ (k : FloatKind) (bx b' : Nat), isArith op = true ∧ a.eval x = .float k bx ∧ a.eval y = .float k b' ∧
      ∀ s m, wpListIn F n P ops Q rest (a.put dst (.float k (pick k (fbin op k bx b') s))) (w.drewN m)) :
    wpListIn F n P ops Q ({ dst := dst, op := .binOp op t x y yt, type := ty, pos := ps, after := af, guard := none } :: rest) a w := by
  obtain ⟨k, bx, b', har, hx, hy, hK⟩ := h
  refine wpListIn_plain rfl fun K' hK' => ?_
  obtain ⟨s, m, hrun⟩ := run_fbin (P := P) w har k bx b'
  unfold Oper.wpIn
  have : (binOp op t (.float k bx) (.float k b')) = Op.floatArith op k bx b' := by cases op <;> simp only [isArith] at har <;> first | (cases har; done) | simp [binOp]
  have hq : eqGuard op t x y (.float k bx) (.float k b') = pure () := by cases op <;> simp only [isArith] at har <;> first | (cases har; done) | rfl
  refine ⟨?_, ?_⟩
  · simp [Oper.about]
  · rw [Oper.semAt_plain F _ _ (by intro c hc'; cases hc')]
    simp [execOp, hx, hy, this, hq, hrun, Result.andThen]
    exact hK' _ _ (hK s m)
theorem upon_boxB {o : Oper} {K : Act → World → Prop} {f : Unit → World → Result Next} {w1 : World} {v : Value} {t t' : TypeId} {m u : Nat}
    (h : ∀ w3, Below w1.heap.size w1 w3 → Boxed w3 (w1.heap.size + 1) t' (.float .f32 u) → Boxed w3 w1.heap.size t v → w3.heap.size = w1.heap.size + 2 → Oper.uponIn F n Try.prog o a K Q ((Result.ok () w3).andThen f)) :
    Oper.uponIn F n Try.prog o a K Q (((store ⟨w1.heap.size + 1, 0, none⟩ (.float .f32 u)).run Try.prog (((w1.alloc (.cells #[v] t)).drewN m).alloc (.cells #[.float .f32 0] t'))).andThen f) := by
  have hB := Boxed.new ((w1.alloc (.cells #[v] t)).drewN m) t' (.float .f32 0)
  have e : ((w1.alloc (.cells #[v] t)).drewN m).heap.size = w1.heap.size + 1 := by simp
  rw [e] at hB
  rw [store_float _ _ _ hB.cell hB.frozen]
  have hA : Boxed (((w1.alloc (.cells #[v] t)).drewN m).alloc (.cells #[.float .f32 0] t')) w1.heap.size t v := Boxed.alloc (W := (w1.alloc (.cells #[v] t)).drewN m) (Boxed.new w1 t v) _
  refine h _ ?_ (hB.set _) (hA.other (by omega) _) (by simp)
  exact ((Below.drewN ((Below.refl _ w1).alloc (Nat.le_refl _) _) m).alloc (by simp) _).setCell (by simp) _
end
/-- What a round of the program's knows. -/
def wavI (p Bw : Nat) (w3 : World) (pre : List Pr) (W : World) : Prop := (∃ s, Boxed W Bw 43 (.float .f32 (pick .f32 (wavL p pre) s))) ∧ Below Bw w3 W
theorem wavI_own {p Bw B : Nat} {w3 : World} (h1 : Bw ≤ w3.heap.size) (h2 : Bw ≤ B) : OwnFrom B (wavI p Bw w3) := by
  refine OwnFrom.and ?_ (ownFrom_below h1 h2)
  rintro pre W W' row ⟨s, h⟩ hg hr
  exact ⟨s, (Own.from (boxed_own Bw 43 (fun pre : List Pr => .float .f32 (pick .f32 (wavL p pre) s))) B) pre W W' row h hg hr⟩
set_option maxRecDepth 100000 in
set_option maxHeartbeats 6400000 in
theorem implWav_yes (xa : Option Addr) (n cap : Nat) (X : Nat → Nat) (p : Nat) (w : World) (hX : Rd w xa n X) (hk : okWav X n p = true) (D : Nat) (hD : Hid (D = atW X n p n)) : Calls Try.prog 87 #[.slice xa n cap, .float .f32 p] w (NRet (numQ D) (isFin .f32 D) w) := by
  refine (callsIn_wide (n := 6)).1 ?_
  unfold okWav at hk
  rw [Bool.and_eq_true] at hk
  obtain ⟨c1, c2⟩ := hk
  have hn := crvB_at c1
  have hX' : Rd (w.alloc (.cells #[.float .f32 p] 43)) xa n X := hX.below ((Below.refl _ _).alloc (Nat.le_refl _) _)
  have HB := Lib.hid (implCrv_any xa n cap X _ hX' (by omega) true (Lib.hid c1.symm))
  have hF1 : Fence.wide.fn 136 := trivial
  have hF2 : Fence.wide.fn 85 := trivial
  have hF3 : Fence.wide.fn 137 := trivial
  have hF4 : Fence.wide.fn 90 := trivial
  refine callsIn_of_wp_marks Try.func87 rfl trivial ?_ rfl
  simp only [Try.ntmps87, List.size_toArray, List.length_cons, List.length_nil, Nat.reduceAdd, Nat.reduceSub, Array.replicate_succ, Array.replicate_zero, List.push_toArray, List.append_toArray, List.nil_append, List.cons_append]
  gi_wp2_with (first | (gi_at_call 136; refine ((callsIn_wide (n := 5)).2 HB.out).mono ?_; rintro e w1 ⟨rfl, q, rfl⟩) | (gi_at_call 85; refine ((callsIn_wide (n := 5)).2 (IsFinite_any _ _)).mono ?_; rintro e w1 ⟨rfl, q2, rfl⟩))
  refine upon_boxB fun w3 hb3 bW bP hs3 => ?_
  obtain ⟨xb, xo, hxa, hcx⟩ := hX
  have e := hxa (by omega)
  subst e
  have hxb : xb < w.heap.size := World.block_lt_of_cell? w _ (hcx 0 (by omega))
  have hcx3 : ∀ i, i < n → w3.cell? ⟨xb, xo + i, none⟩ = some (.float .f32 (X i)) := fun i hi => (hb3.cell (p := ⟨xb, xo + i, none⟩) hxb).trans (hcx i hi)
  gi_wp2_with (gi_at_call 137; refine ((callsIn_wide (n := 5)).2 (backward_any _ _ _ _)).mono ?_; rintro e w' ⟨rfl, rfl⟩)
  have bS : Boxed (w3.alloc (.cells #[.slice (some ⟨xb, xo, none⟩) n cap] 24)) (w.heap.size + 2) 24 (.slice (some ⟨xb, xo, none⟩) n cap) := by
    have := Boxed.new w3 24 (.slice (some ⟨xb, xo, none⟩) n cap)
    rw [hs3] at this
    exact this
  have hcW : ∀ i, i < n → (w3.alloc (.cells #[.slice (some ⟨xb, xo, none⟩) n cap] 24)).cell? ⟨xb, xo + i, none⟩ = some (.float .f32 (X i)) := fun i hi => (((Below.refl _ w3).alloc (Nat.le_refl _) _).cell (p := ⟨xb, xo + i, none⟩) (by simp only; omega)).trans (hcx3 i hi)
  have hBW : Below (w.heap.size + 1) w3 (w3.alloc (.cells #[.slice (some ⟨xb, xo, none⟩) n cap] 24)) := (Below.refl _ w3).alloc (by omega) _
  have hszW : (w3.alloc (.cells #[.slice (some ⟨xb, xo, none⟩) n cap] 24)).heap.size = w.heap.size + 3 := by simp [hs3]
  have bW' := bW.alloc (.cells #[.slice (some ⟨xb, xo, none⟩) n cap] 24)
  obtain ⟨W0, hW0⟩ : ∃ W0, w3.alloc (.cells #[.slice (some ⟨xb, xo, none⟩) n cap] 24) = W0 := ⟨_, rfl⟩
  rw [hW0] at bS hcW hBW hszW bW' ⊢
  clear hW0 hcx hcx3 hxa hX' HB
  have hseq := backward_stopsK 5 (by omega) (w.heap.size + 2) w.heap.size n cap xb xo X (by omega) (by omega) hxb W0 (by omega) hcW bS
  have hp := fun op => fbin_pick_l op .f32
  refine wpIn_rangeFunc_ownG rfl (by omega) (gf := 177) rfl trivial (enters_of Try.func177 (by kernel_rfl) rfl) hseq (fun h k => h.trans k) ?keepb (Below.refl _ _) (fun _ => rfl)
    (wavI p (w.heap.size + 1) w3) (fun _ _ _ => False) (wavI_own (by omega) (by omega)) (fun _ _ _ _ _ hs _ _ => hs)
    ⟨⟨0, by rw [show wavL p [] = 0 from rfl, pick_nul]; exact bW'⟩, hBW⟩
    (fun x => { tmps := #[.slice (some ⟨xb, xo, none⟩) n cap, .float .f32 p, undef, .pointer (some ⟨w.heap.size, 0, none⟩), .float .f32 0, .bool false, .pointer (some ⟨w.heap.size + 1, 0, none⟩), undef, .float .f32 x.2, .slice (some ⟨xb, xo, none⟩) n cap, .bool true, .bool false, .bool false, .float .f32 p, .bool true, .bool false, .bool false, .slice (some ⟨xb, xo, none⟩) n cap, .func (.func 177) #[] #[.pointer (some ⟨w.heap.size + 2, 0, none⟩)], .int .i64 x.1, .float .f32 x.2, undef, undef, undef, undef, undef, undef, undef, undef, undef], defers := [] }) ?assign ?body ?done ?stop
  case keepb =>
    intro W l o o' hl ho hc hw
    refine ⟨belowK_b (w := W0) (by omega) W l o o' hl ho hc hw, fun hx => hx.kept (grownBy_putObj' W l o') ?_⟩
    intro e
    cases e
    rw [show W.heap[_]? = _ from hx] at ho
    cases ho
    cases hc
  case assign =>
    intro ln x W K hK
    dsimp only [encPr]
    gi_wp2
    exact hK
  case body =>
    rintro ln pre x W ⟨⟨s, hv⟩, hB⟩ hlt
    have hc := hv.cell
    have hf := hv.frozen
    have hcp : W.cell? ⟨w.heap.size, 0, none⟩ = some (.float .f32 p) := (hB.cell (p := ⟨w.heap.size, 0, none⟩) (by simp)).trans bP.cell
    have hst := fun u m => store_float (W.drewN m) ⟨w.heap.size + 1, 0, none⟩ u hc hf
    gi_wp2_with ((with_reducible refine wpIn_fbin ?_); refine ⟨_, _, _, rfl, rfl, rfl, fun sq nq => ?_⟩)
    refine ⟨?_, ?_, ?_⟩
    · have hk := KeepsOthers.setCell (W.drewN 0) ⟨w.heap.size + 1, 0, none⟩ (.float .f32 (pick .f32 (fbin .add .f32 (fbin .mul .f32 (wavL p pre) p) x.2) sq))
      exact ⟨hk.size, fun k o _ h1 h2 => hk.same k o h1 h2⟩
    · refine ⟨(Below.drewN (Below.refl _ W) _).setCell (by simp) _, fun hx => ?_⟩
      exact Boxed.other (W := W.drewN _) hx (by omega) _
    · refine ⟨⟨sq, ?_⟩, (Below.drewN hB _).setCell (by simp) _⟩
      rw [wavL_push]
      exact Boxed.set (W := W.drewN _) _ hv
  case done =>
    rintro Dd ys W hDd rfl ⟨⟨s, hv⟩, hB⟩ hKd
    rw [wavL_all, ← hD.out] at hv
    have hc := hv.cell
    have hBd := fun q => Below.trans (Below.drewN (hb3.trans (hB.mono (by omega))) q) (belowK_b (w := W0) (n₀ := w.heap.size) (by omega) (W.drewN q) Dd _ (.deferred none) hDd hKd rfl rfl)
    have HQ := Lib.hid (show ∀ s w', Below w.heap.size w w' → NRet (numQ D) (isFin .f32 D) w (.returned (.tuple #[.float .f32 (pick .f32 (numQ D) s), .bool (isFin .f32 D)])) w' from fun s w' hb => ⟨s, rfl, hb⟩)
    gi_wp2_with (gi_at_call 90; refine ((callsIn_wide (n := 5)).2 (numI_any _ _ _)).mono ?_; rintro e w' ⟨s', q', rfl, rfl⟩)
    refine ⟨by simp, .inl ⟨_, _, rfl, run_takeDeferred (w := W.drewN q') hKd, ?_⟩⟩
    refine ⟨_, results_tmp2 rfl _ _ _, ?_⟩
    exact HQ.out _ _ (hBd q')
  case stop =>
    rintro D c pre W _ _ h _
    exact h.elim
end Go.Proofs.Ytbblohjldkpcnab
