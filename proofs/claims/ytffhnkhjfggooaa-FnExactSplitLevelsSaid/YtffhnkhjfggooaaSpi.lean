/- Levels in a field: as the program tells them. -/
import Derived.Test.YtffhnkhjfggooaaSpl
namespace Go.Proofs.Ytffhnkhjfggooaa
open Go Go.ChangeShapes Go.WideShapes Go.ChangeAt Go.RowKit Go.Shelf

attribute [local go_sem] Oper.semAt_some
section
variable {F : Fence} {n : Nat} {P : Program} {w : World} {ops : Array Oper} {rest : List Oper} {a : Act} {Q : Exit → Act → World → Prop} {dst : Option Tmp} {ty : TypeId} {ps : String} {af : Array Edge}
/-- '+', '-', '*', '/' on floats, where calls are counted. -/
theorem wpIn_fbin {op : BinOp} {x y : Operand} {t yt : TypeId}
    (h : ∃ (k : FloatKind) (bx b' : Nat), isArith op = true ∧ a.eval x = .float k bx ∧ a.eval y = .float k b' ∧
      ∀ s m, wpListIn F n P ops Q rest (a.put dst (.float k (pick k (fbin op k bx b') s))) (w.drewN m)) :
    wpListIn F n P ops Q ({ dst := dst, op := .binOp op t x y yt, type := ty, pos := ps, after := af, guard := none } :: rest) a w := by
  obtain ⟨k, bx, b', har, hx, hy, hK⟩ := h
  refine wpListIn_plain rfl fun K' hK' => ?_
  obtain ⟨s, m, hrun⟩ := run_fbin (P := P) w har k bx b'
  unfold Oper.wpIn
  have : (binOp op t (.float k bx) (.float k b')) = Op.floatArith op k bx b' := by cases op <;> simp only [isArith] at har <;> first | (cases har; done) | simp [binOp]
  have hq : eqGuard op t x y (.float k bx) (.float k b') = pure () := by cases op <;> simp only [isArith] at har <;> first | (cases har; done) | rfl
  refine ⟨?_, ?_⟩
  · simp [Oper.about]
  · rw [Oper.semAt_plain F _ _ (by intro c hc'; cases hc')]
    simp [execOp, hx, hy, this, hq, hrun, Result.andThen]
    exact hK' _ _ (hK s m)
theorem upon_box {o : Oper} {K : Act → World → Prop} {f : Unit → World → Result Next} {w1 : World} {v : Array Value} {t t' : TypeId} {m u : Nat}
    (h : ∀ w3, Below w1.heap.size w1 w3 → w3.cell? ⟨w1.heap.size + 1, 0, none⟩ = some (.float .f32 u) → w3.heap.size = w1.heap.size + 2 → Oper.uponIn F n Try.prog o a K Q ((Result.ok () w3).andThen f)) :
    Oper.uponIn F n Try.prog o a K Q (((store ⟨w1.heap.size + 1, 0, none⟩ (.float .f32 u)).run Try.prog (((w1.alloc (.cells v t)).drewN m).alloc (.cells #[.float .f32 0] t'))).andThen f) := by
  have hB := Boxed.new ((w1.alloc (.cells v t)).drewN m) t' (.float .f32 0)
  have e : ((w1.alloc (.cells v t)).drewN m).heap.size = w1.heap.size + 1 := by simp
  rw [e] at hB
  rw [store_float _ _ _ hB.cell hB.frozen]
  refine h _ ?_ (hB.set _).cell (by simp)
  exact ((Below.drewN ((Below.refl _ w1).alloc (Nat.le_refl _) _) m).alloc (by simp) _).setCell (by simp) _
theorem wpIn_push {Bs : Nat} {i0 : TypeInfo} (hi : Try.prog.info? 29 = some i0) (hz0 : i0.zero = some (.float .f32 0)) (hz1 : i0.size = 1) (hz2 : i0.bytes = 4)
    {w0 : World} {u : Nat} {o : Oper} (hgd : o.guard = none) {s x : Operand}
    (ho : o.op = .call { callee := .builtin .append, args := #[s, x], argTypes := #[30, 30] }) {v : Value} {c : Nat} {X : Nat → Nat} (hs : a.eval s = v) (hx : a.eval x = .slice (some ⟨w0.heap.size, 0, none⟩) 1 1)
    (hown : w0.ownsRow Bs 29 1 v c (rowOf X c)) (hn : c ≤ 1048576) (hB : Bs ≤ w0.heap.size)
    (h : ∀ g cap w', w'.ownsRow Bs 29 1 (.slice (some ⟨g, 0, none⟩) (c + 1) cap) (c + 1) (rowOf (fun j => if j = c then u else X j) (c + 1)) → (w0.alloc (.cells #[.float .f32 u] 29)).grownBy w' v.ownBlock → wpListIn F n Try.prog ops Q rest (a.put o.dst (.slice (some ⟨g, 0, none⟩) (c + 1) cap)) w') :
    wpListIn F n Try.prog ops Q (o :: rest) a (w0.alloc (.cells #[.float .f32 u] 29)) := by
  refine wpListIn_append_own _ hgd s x 30 ho Bs 29 i0 (.float .f32 0) 1 4 Try.underlying30 hi hz0 hz1 hz2 rfl (by decide) v c (rowOf X c) hs (hown.alloc _) ⟨w0.heap.size, 0, none⟩ 1 1 [.float .f32 u] hx rfl (cell_one_new _ _ _) (by simp [Value.oneCell']) (by unfold maxLen; omega) (by omega) (by simp; omega) ?_
  intro v' w' hown' hgrow _
  obtain ⟨g', cap', rfl⟩ := ownsRow_succ hown'
  rw [row_push] at hown'
  exact h g' cap' w' hown' hgrow
end
/-- What a round keeps for the iterator: its last number. -/
def KpT (Bb : Nat) (last : Int) (A C : World) : Prop := Boxed A Bb 2 (.int .i64 last) → Boxed C Bb 2 (.int .i64 last)
set_option maxRecDepth 100000 in
set_option maxHeartbeats 2000000 in
theorem byTwo1_k (n : Nat) (hn : 1 ≤ n) (l Ba Bb : Nat) (first last : Int) (hf0 : -100 ≤ first) (hf1 : first ≤ 100) (hl0 : -100 ≤ last) (hl1 : last ≤ 100) (hfl : -1 ≤ last - first) (J Jx : List Int → World → Prop)
    (hY : ∀ pre x W, J pre W → pre.length < cntTwo first last → YieldAt Fence.wide (n - 1) Try.prog l #[.int .i64 x] W fun e W' =>
      (e = .returned (.bool true) ∧ J (pre ++ [x]) W' ∧ KpT Bb last W W') ∨ (e = .returned (.bool false) ∧ Jx (pre ++ [x]) W'))
    (W : World) (ca : W.cell? ⟨Ba, 0, none⟩ = some (.int .i64 first)) (cb0 : Boxed W Bb 2 (.int .i64 last)) (h0 : J [] W) :
    CallsIn Fence.wide n Try.prog 99 #[.func (.yield l) #[] #[], .pointer (some ⟨Ba, 0, none⟩), .pointer (some ⟨Bb, 0, none⟩)] W fun e W' => (∃ v, e = .returned v) ∧
      ((∃ ys, ys = upTwo first (cntTwo first last) ∧ J ys W') ∨ (∃ pre, (∃ k, k ≤ cntTwo first last ∧ pre = upTwo first k) ∧ Jx pre W')) := by
  have cb := cb0.cell
  refine callsIn_of_wp Try.func99 rfl trivial ?_ rfl
  simp only [Try.ntmps99, List.size_toArray, List.length_cons, List.length_nil, Nat.reduceAdd, Nat.reduceSub, Array.replicate_succ, Array.replicate_zero, List.push_toArray, List.append_toArray, List.nil_append, List.cons_append]
  gi_wp2
  gi_loopw [4] (fun i wr => ∃ k : Nat, k ≤ cntTwo first last ∧ i = .int .i64 (first + 2 * (k : Int)) ∧ J (upTwo first k) wr ∧ Hid (Boxed wr Bb 2 (.int .i64 last)))
    (fun i _ => (last + 1000 - intOf i).toNat)
  case atStart => exact ⟨0, Nat.zero_le _, by simp, h0, Lib.hid cb0⟩
  case round =>
    obtain ⟨k, hk, rfl, hJs, hnx⟩ := hrel
    have cb' : wr.cell? ⟨Bb, 0, none⟩ = some (.int .i64 last) := hnx.out.cell
    by_cases hlt : k < cntTwo first last
    · have hle := cntTwo_lt hlt
      obtain ⟨fn, tmps, assign, body, hy, hR⟩ := hY _ (first + 2 * (k : Int)) wr hJs (by rw [upTwo_length]; exact hlt)
      gi_wp2
      refine hR.mono ?_
      rintro e W3 (⟨rfl, hJ3, hk3⟩ | ⟨rfl, hJx3⟩)
      · gi_wp2
        go_roundw
        case rel => exact ⟨k + 1, by omega, by go_num, by rw [upTwo_succ]; exact hJ3, Lib.hid (hk3 hnx.out)⟩
        case measure => simp [intOf]; omega
      · gi_wp2
        refine bodyPost_ret (results_none rfl _ _ _) rfl ?_
        exact ⟨⟨_, rfl⟩, .inr ⟨_, ⟨k + 1, by omega, (upTwo_succ _ _).symm⟩, hJx3⟩⟩
    · obtain rfl : k = cntTwo first last := by omega
      have hge := cntTwo_ge hfl
      gi_wp2
      go_end0
      exact ⟨⟨_, rfl⟩, .inl ⟨_, rfl, hJs⟩⟩
theorem byTwo_stopsK (n : Nat) (hn : 1 ≤ n) (Ba Bb : Nat) (first last : Int) (hf0 : -100 ≤ first) (hf1 : first ≤ 100) (hl0 : -100 ≤ last) (hl1 : last ≤ 100) (hfl : -1 ≤ last - first) (w : World)
    (ca : Boxed w Ba 2 (.int .i64 first)) (cb : Boxed w Bb 2 (.int .i64 last)) :
    SeqStopsK Fence.wide n Try.prog 99 #[.pointer (some ⟨Ba, 0, none⟩), .pointer (some ⟨Bb, 0, none⟩)] (fun x : Int => #[Value.int .i64 x]) (KpT Bb last) (fun ys => ys = upTwo first (cntTwo first last)) (fun pre => ∃ k, k ≤ cntTwo first last ∧ pre = upTwo first k) (cntTwo first last) w := fun l J Jx W hW _ _ hY h0 =>
  byTwo1_k n hn l Ba Bb first last hf0 hf1 hl0 hl1 hfl J Jx hY W ((hW.cell (p := ⟨Ba, 0, none⟩) ca.lt).trans ca.cell) ((hW.block Bb cb.lt).trans cb) h0
def splAt (lv B : Nat) (x : Int) : Nat := fbin .add .f32 lv (fbin .mul .f32 B (fbin .quo .f32 (floatOfInt .f32 x) 1073741824))
def splX (lv B : Nat) (pre : List Int) (j : Nat) : Nat := splAt lv B (pre.getD j 0)
theorem splX_push {lv B : Nat} {pre : List Int} {x : Int} {X : Nat → Nat} {u s : Nat} (h : Like X (splX lv B pre) pre.length) (hu : u = pick .f32 (splAt lv B x) s) :
    Like (fun j => if j = pre.length then u else X j) (splX lv B (pre ++ [x])) (pre.length + 1) := by
  intro j hj
  by_cases e : j = pre.length
  · subst e
    simp only [if_true]
    rw [hu, canon_pick]
    unfold splX
    congr 1
    simp
  · simp only [if_neg e]
    rw [h j (by omega)]
    unfold splX
    rw [List.getD_eq_getElem?_getD, List.getD_eq_getElem?_getD, List.getElem?_append_left (by omega)]
theorem splX_all {lv B J : Nat} {X : Nat → Nat} (h : Like X (splX lv B (upTwo (-(J : Int)) (J + 1))) (J + 1)) : Like X (splR lv B J) (J + 1) := by
  intro j hj
  rw [h j hj]
  unfold splX splAt splR upTwo
  simp [List.getD_eq_getElem?_getD, hj]
def splI (lv B b0 : Nat) (w3 : World) (pre : List Int) (W : World) : Prop :=
  (∃ X v, Boxed W b0 30 v ∧ W.ownsRow b0 29 1 v pre.length (rowOf X pre.length) ∧ Like X (splX lv B pre) pre.length) ∧ Below b0 w3 W
theorem splI_own {lv B b0 n : Nat} {w3 : World} (h1 : b0 ≤ w3.heap.size) (h2 : b0 ≤ n) : OwnFrom n (splI lv B b0 w3) := by
  refine OwnFrom.and ?_ (ownFrom_below h1 h2)
  rintro pre W W' row ⟨X, h⟩ hg hr
  exact ⟨X, (Own.from (holdsRow_own b0 b0 30 29 1 (fun pre : List Int => pre.length) (fun pre => rowOf X pre.length) (fun pre _ => Like X (splX lv B pre) pre.length)) n) pre W W' row h hg hr⟩
theorem splI_next {lv B b0 : Nat} {w3 W' : World} {pre : List Int} {x : Int} {X : Nat → Nat} {v' : Value} {sq : Nat} (hL : Like X (splX lv B pre) pre.length) (hv : Boxed W' b0 30 v')
    (hr : W'.ownsRow b0 29 1 v' (pre.length + 1) (rowOf (fun j => if j = pre.length then pick .f32 (splAt lv B x) sq else X j) (pre.length + 1))) (hB : Below b0 w3 W') : splI lv B b0 w3 (pre ++ [x]) W' := by
  have ep : (pre ++ [x]).length = pre.length + 1 := by simp
  refine ⟨⟨fun j => if j = pre.length then pick .f32 (splAt lv B x) sq else X j, v', hv, ?_, ?_⟩, hB⟩
  · rw [ep]; exact hr
  · rw [ep]; exact splX_push hL rfl
set_option maxRecDepth 100000 in
set_option maxHeartbeats 6400000 in
theorem implSpl_yes (l s : Int) (J : Nat) (lv fd : Nat) (w : World) (hf : fineB l s J = true) (h1 : isFin .f32 lv = true) (h2 : isFin .f32 fd = true) :
    Calls Try.prog 22 #[.int .i64 l, .int .i64 s, .int .i64 (J : Int), .float .f32 lv, .float .f32 fd] w (LevRet (splR lv (byR (facU l s J) (facD l s J) fd) J) (J + 1) w) := by
  refine (callsIn_wide (n := 6)).1 ?_
  obtain ⟨_, _, _, _, j0, j1, _, _⟩ := fineAt hf
  obtain ⟨i0, hi, hz0, hz1, hz2⟩ := info_parts infoF
  have hp := fun op => fbin_pick_l op .f32
  have hq := fun op => fbin_pick_r op .f32
  obtain ⟨U, hU⟩ : ∃ U, facU l s J = U := ⟨_, rfl⟩
  obtain ⟨D, hD⟩ : ∃ D, facD l s J = D := ⟨_, rfl⟩
  have hfac := fun w => implFac_yes l s J w hf
  rw [hU, hD] at hfac ⊢
  have hfl : finL (two lv fd) 2 = true := by rw [finL_two, h1, h2]; rfl
  obtain ⟨B, hB⟩ : ∃ B, B = byR U D fd := ⟨_, rfl⟩
  have hBe : fbin .mul .f32 (fbin .quo .f32 (floatOfInt .f32 U) (floatOfInt .f32 D)) fd = B := hB.symm
  rw [← hB]
  clear hB
  have hF1 : Fence.wide.fn 20 := trivial
  have hF2 : Fence.wide.fn 59 := trivial
  have hF3 : Fence.wide.fn 60 := trivial
  have hF4 : Fence.wide.fn 61 := trivial
  refine callsIn_of_wp_marks Try.func22 rfl trivial ?_ rfl
  simp only [Try.ntmps22, List.size_toArray, List.length_cons, List.length_nil, Nat.reduceAdd, Nat.reduceSub, Array.replicate_succ, Array.replicate_zero, List.push_toArray, List.append_toArray, List.nil_append, List.cons_append]
  gi_wp2_with (first | ((with_reducible refine wpIn_fbin ?_); refine ⟨_, _, _, rfl, rfl, rfl, fun sq nq => ?_⟩) | (gi_at_call 20; go_loud (refine ((callsIn_wide (n := 5)).2 (hfac _)).mono ?_); rintro e w1 ⟨rfl, hb⟩; go_loud (have hc0 : w1.cell? ⟨w.heap.size, 0, none⟩ = some (.float .f32 lv) := (hb.cell (p := ⟨w.heap.size, 0, none⟩) (by simp)).trans (Boxed.new w _ _).cell); clear hfac) | (gi_at_call 59; refine ((callsIn_wide (n := 5)).2 (allFinite_any _ _ _ (two lv fd) _ (rd_two _ _ _ _) (by omega))).mono ?_; rintro e w' ⟨rfl, q, rfl⟩; rw [hfl]) | (gi_at_call 60; refine ((callsIn_wide (n := 5)).2 (partsOf_any (J : Int) _ (by omega) (by omega))).mono ?_; rintro e w' ⟨rfl, rfl⟩))
  refine upon_box fun w3 hb3 hc3 hs3' => ?_
  have hb' : w.heap.size + 1 ≤ w1.heap.size := by have := hb.size; simp at this; omega
  have hs3 : w1.heap.size + 1 < w3.heap.size := by omega
  have hcl := (hb3.cell (p := ⟨w.heap.size, 0, none⟩) (by simp; omega)).trans hc0
  have hbw : Below w.heap.size w w3 := (((Below.refl _ w).alloc (Nat.le_refl _) _).trans (hb.mono (by simp))).trans (hb3.mono (by omega))
  clear hb3 hc0 hs3' hb
  gi_wp2_with (gi_at_call 60; refine ((callsIn_wide (n := 5)).2 (partsOf_any (J : Int) _ (by omega) (by omega))).mono ?_; rintro e w' ⟨rfl, rfl⟩)
  rename_i q1 n1 K hK0
  have e1 : ∀ (u : World) (o : Obj), (u.alloc o).heap.size = u.heap.size + 1 := fun u o => by simp
  have bO : Boxed (((w3.alloc (.cells #[.slice none 0 0] 30)).alloc (.cells #[.int .i64 (-(J : Int))] 2)).alloc (.cells #[.int .i64 (J : Int)] 2)) w3.heap.size 30 (.slice none 0 0) := ((Boxed.new w3 _ _).alloc _).alloc _
  have bA : Boxed (((w3.alloc (.cells #[.slice none 0 0] 30)).alloc (.cells #[.int .i64 (-(J : Int))] 2)).alloc (.cells #[.int .i64 (J : Int)] 2)) (w3.heap.size + 1) 2 (.int .i64 (-(J : Int))) := by
    have := Boxed.new (w3.alloc (.cells #[.slice none 0 0] 30)) 2 (.int .i64 (-(J : Int)))
    rw [e1] at this
    exact this.alloc _
  have bB : Boxed (((w3.alloc (.cells #[.slice none 0 0] 30)).alloc (.cells #[.int .i64 (-(J : Int))] 2)).alloc (.cells #[.int .i64 (J : Int)] 2)) (w3.heap.size + 1 + 1) 2 (.int .i64 (J : Int)) := by
    have := Boxed.new ((w3.alloc (.cells #[.slice none 0 0] 30)).alloc (.cells #[.int .i64 (-(J : Int))] 2)) 2 (.int .i64 (J : Int))
    rw [e1, e1] at this
    exact this
  have hBW : Below w3.heap.size w3 (((w3.alloc (.cells #[.slice none 0 0] 30)).alloc (.cells #[.int .i64 (-(J : Int))] 2)).alloc (.cells #[.int .i64 (J : Int)] 2)) := (((Below.refl _ w3).alloc (Nat.le_refl _) _).alloc (by simp) _).alloc (by simp; omega) _
  obtain ⟨W0, hW0⟩ : ∃ W0, (((w3.alloc (.cells #[.slice none 0 0] 30)).alloc (.cells #[.int .i64 (-(J : Int))] 2)).alloc (.cells #[.int .i64 (J : Int)] 2)) = W0 := ⟨_, rfl⟩
  rw [hW0] at bO bA bB hBW ⊢
  clear hW0
  have hcn : cntTwo (-(J : Int)) J = J + 1 := by unfold cntTwo; omega
  have hseq := byTwo_stopsK 5 (by omega) _ _ (-(J : Int)) J (by omega) (by omega) (by omega) (by omega) (by omega) W0 bA bB
  rw [hcn] at hseq
  have hsz0 := hBW.size
  refine wpIn_rangeFunc_ownG rfl (by omega) (gf := 99) rfl trivial (enters_of Try.func99 (by kernel_rfl) rfl) hseq (fun h k x => k (h x)) ?keepb (Below.refl _ _) (fun _ => rfl)
    (splI lv B w3.heap.size w3) (fun _ _ _ => False) (splI_own (Nat.le_refl _) hsz0) (fun _ _ _ _ _ hs _ _ => hs)
    ⟨⟨fun _ => 0, _, bO, World.ownsRow_nil _ _ _ _, fun _ h => absurd h (Nat.not_lt_zero _)⟩, hBW⟩
    (fun x => { tmps := #[.int .i64 l, .int .i64 s, .int .i64 J, .float .f32 lv, .float .f32 fd, undef, undef, undef, .pointer (some ⟨w.heap.size, 0, none⟩), undef, .slice none 0 0, .bool false, .int .i64 U, .int .i64 D, .bool true, .pointer (some ⟨w1.heap.size + 1, 0, none⟩), .pointer (some ⟨w3.heap.size, 0, none⟩), .int .i64 x, .tuple #[.int .i64 U, .int .i64 D, .bool true], .int .i64 l, .int .i64 s, .int .i64 J, .tuple #[.int .i64 U, .int .i64 D, .bool true], .int .i64 U, .int .i64 D, .bool true, .bool true, .bool false, .bool false, .float .f32 lv, .float .f32 fd, .slice (some ⟨w1.heap.size, 0, none⟩) 2 2, .bool true, .bool false, .bool false, .int .i64 U, .float .f32 (floatOfInt .f32 U), .int .i64 D, .float .f32 (floatOfInt .f32 D), .float .f32 (pick .f32 (fbin .quo .f32 (floatOfInt .f32 U) (floatOfInt .f32 D)) q1), .float .f32 fd, .float .f32 (pick .f32 B sq), .int .i64 J, .func (.func 99) #[] #[.pointer (some ⟨w3.heap.size + 1, 0, none⟩), .pointer (some ⟨w3.heap.size + 1 + 1, 0, none⟩)], .int .i64 x, undef, undef, undef, undef, undef, undef, undef, undef, undef, undef, undef, undef, undef, undef], defers := [] }) ?assign ?body ?done ?stop
  case keepb =>
    intro W l o o' hl ho hc _ hx
    refine hx.kept (grownBy_putObj' W l o') ?_
    intro e
    cases e
    rw [show W.heap[_]? = _ from hx] at ho
    cases ho
    cases hc
  case assign =>
    intro ln x W K hK
    gi_wp2
    exact hK
  case body =>
    rintro ln pre x W ⟨⟨X, v, hv, hrow, hL⟩, hB⟩ hlt
    have hc := hv.cell
    have hBs := hB.size
    have hcl' := (hB.cell (p := ⟨w.heap.size, 0, none⟩) (by simp; omega)).trans hcl
    have hce := (hB.cell (p := ⟨w1.heap.size + 1, 0, none⟩) (by simp; omega)).trans hc3
    gi_wp2_with (first | ((with_reducible refine wpIn_fbin ?_); refine ⟨_, _, _, rfl, rfl, rfl, fun sq nq => ?_⟩) | (gi_at_builtin; refine wpIn_push hi hz0 hz1 hz2 rfl rfl rfl rfl (by exact hrow) (by omega) (by exact hBs) ?_; intro g' cap' w1' hown' hgrow; obtain ⟨hv1, hv2, hr2, hk2, hb2⟩ := Boxed.appended (by exact hv) (by decide) (by exact hrow) (by exact hBs) (Nat.le_refl _) hown' hgrow; go_loud (have hkp : KpT (w3.heap.size + 1 + 1) J W w1' := (fun hx => Boxed.kept (Boxed.alloc (by exact hx) _) hgrow (Boxed.not_row (W := W) hx (by decide) hrow))); have hc1 := hv1.cell; have hf1 := hv1.frozen; clear hgrow hown'))
    refine ⟨⟨hk2.size, fun k o _ hk ho => hk2.same k o hk ho⟩, fun hx => (hkp hx).other (by omega) _, splI_next hL hv2 hr2 ?_⟩
    refine hB.trans (Below.trans ?_ hb2)
    exact Below.drewN (Below.refl _ W) _
  case done =>
    rintro Dd ys W hDd rfl ⟨⟨X, v, hv, hrow, hL⟩, hB⟩ hKd
    rw [upTwo_length] at hrow hL
    have hL' := splX_all hL
    have hc := hv.cell
    have hBd : Below w3.heap.size w3 (W.putObj Dd (.deferred none)) := hB.trans (belowK_b (w := W0) hsz0 W Dd _ _ (by simpa using hDd) hKd rfl rfl)
    have hrd := ownsRow_putObj hrow (.deferred none) hKd rfl
    cases hfin : finL X (J + 1)
    · gi_wp2_with (gi_at_call 61; refine ((callsIn_wide (n := 5)).2 (onlyFinite_any _ _ _ X _ hrow (by omega))).mono ?_; rintro e w' ⟨rfl, q', rfl⟩; rw [hfin])
      refine ⟨by simp, .inl ⟨_, _, rfl, run_takeDeferred (w := W.drewN q') hKd, ?_⟩⟩
      refine ⟨_, results_tmp2 rfl _ _ _, ?_⟩
      exact outRet_grown hbw (levRet_no (m := q') hfin hL' hBd)
    · gi_wp2_with (gi_at_call 61; refine ((callsIn_wide (n := 5)).2 (onlyFinite_any _ _ _ X _ hrow (by omega))).mono ?_; rintro e w' ⟨rfl, q', rfl⟩; rw [hfin])
      refine ⟨by simp, .inl ⟨_, _, rfl, run_takeDeferred (w := W.drewN q') hKd, ?_⟩⟩
      refine ⟨_, results_tmp2 rfl _ _ _, ?_⟩
      exact outRet_grown hbw (levRet_yes (m := q') hfin hL' hrd hBd)
  case stop =>
    rintro D c pre W _ _ h _
    exact h.elim
end Go.Proofs.Ytffhnkhjfggooaa
