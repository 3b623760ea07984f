
/- slices.Backward of a row of numbers: what a range over it is handed. -/
import Derived.Test.YtbblohjldkpcnabPush
import Derived.RangeFuncNested
import Derived.RangeFuncBound
import Derived.RangeFuncCalls
import Derived.RangeFuncLeaves
import Derived.Shelf.Abstract
import Derived.Shelf.RegionOpen
import Derived.WalkKit
import Derived.OwnWalkIn
import Derived.TacticsInMore
import Derived.LoopNIn
import Derived.LoopIn
namespace Go.Proofs.Ytbblohjldkpcnab
open Go Go.ChangeShapes Go.WideShapes Go.ChangeAt Go.RowKit Go.Shelf

attribute [local go_sem] Oper.semAt_some
/-- An index and the number there. -/
abbrev Pr := Int × Nat
def encPr (x : Pr) : Array Value := #[.int .i64 x.1, .float .f32 x.2]
/-- The last k pairs, the last one first. -/
def upB (X : Nat → Nat) (n k : Nat) : List Pr := (List.range k).map fun j => ((((n - 1 - j : Nat) : Int)), X (n - 1 - j))
theorem upB_length (X : Nat → Nat) (n k : Nat) : (upB X n k).length = k := by simp [upB]
theorem upB_succ (X : Nat → Nat) (n k : Nat) : upB X n k ++ [(((n - 1 - k : Nat) : Int), X (n - 1 - k))] = upB X n (k + 1) := by simp [upB, List.range_succ]
/-- What a round keeps for the iterator: what was there before, and its slice. -/
def KpB (n₀ Bs : Nat) (v : Value) (A C : World) : Prop := Below n₀ A C ∧ (Boxed A Bs 24 v → Boxed C Bs 24 v)
theorem KpB.trans {n₀ Bs : Nat} {v : Value} {A B C : World} (h : KpB n₀ Bs v A B) (k : KpB n₀ Bs v B C) : KpB n₀ Bs v A C := ⟨h.1.trans k.1, fun x => k.2 (h.2 x)⟩
set_option maxRecDepth 100000 in
set_option maxHeartbeats 2000000 in
theorem backward1_k (d : Nat) (hd : 1 ≤ d) (l Bs n₀ n cx xb xo : Nat) (X : Nat → Nat) (h1 : 1 ≤ n) (hn : n ≤ 1000) (J Jx : List Pr → World → Prop)
    (hY : ∀ pre x W, J pre W → pre.length < n → YieldAt Fence.wide (d - 1) Try.prog l (encPr x) W fun e W' =>
      (e = .returned (.bool true) ∧ J (pre ++ [x]) W' ∧ KpB n₀ Bs (.slice (some ⟨xb, xo, none⟩) n cx) W W') ∨ (e = .returned (.bool false) ∧ Jx (pre ++ [x]) W'))
    (W : World) (hb : xb < n₀) (hc : ∀ i, i < n → W.cell? ⟨xb, xo + i, none⟩ = some (.float .f32 (X i))) (cb0 : Boxed W Bs 24 (.slice (some ⟨xb, xo, none⟩) n cx)) (h0 : J [] W) :
    CallsIn Fence.wide d Try.prog 177 #[.func (.yield l) #[] #[], .pointer (some ⟨Bs, 0, none⟩)] W fun e W' => (∃ v, e = .returned v) ∧
      ((∃ ys, ys = upB X n n ∧ J ys W') ∨ (∃ pre, (∃ k, k ≤ n ∧ pre = upB X n k) ∧ Jx pre W')) := by
  have cb := cb0.cell
  have HC := Lib.hid hc
  clear hc
  refine callsIn_of_wp Try.func177 rfl trivial ?_ rfl
  simp only [Try.ntmps177, List.size_toArray, List.length_cons, List.length_nil, Nat.reduceAdd, Nat.reduceSub, Array.replicate_succ, Array.replicate_zero, List.push_toArray, List.append_toArray, List.nil_append, List.cons_append]
  gi_wp2
  gi_loopw [3] (fun i wr => ∃ k : Nat, k ≤ n ∧ i = .int .i64 ((n : Int) - 1 - (k : Int)) ∧ J (upB X n k) wr ∧ Hid (Boxed wr Bs 24 (.slice (some ⟨xb, xo, none⟩) n cx)) ∧ Below n₀ W wr)
    (fun i _ => (intOf i + 1).toNat)
  case atStart => exact ⟨0, Nat.zero_le _, by simp, h0, Lib.hid cb0, Below.refl _ _⟩
  case round =>
    obtain ⟨k, hk, rfl, hJs, hnx, hBk⟩ := hrel
    have cb' : wr.cell? ⟨Bs, 0, none⟩ = some (.slice (some ⟨xb, xo, none⟩) n cx) := hnx.out.cell
    by_cases hlt : k < n
    · obtain ⟨j, hj⟩ : ∃ j : Nat, (n : Int) - 1 - (k : Int) = (j : Int) := ⟨n - 1 - k, by omega⟩
      have hjn : j = n - 1 - k := by omega
      have ccx : wr.cell? ⟨xb, xo + j, none⟩ = some (.float .f32 (X j)) := (hBk.cell (p := ⟨xb, xo + j, none⟩) hb).trans (HC.out j (by omega))
      have hjlt : (j : Int) < (n : Int) := by omega
      obtain ⟨fn, tmps, assign, body, hy, hR⟩ := hY _ ((j : Int), X j) wr hJs (by rw [upB_length]; exact hlt)
      have HS := Lib.hid (show upB X n k ++ [((j : Int), X j)] = upB X n (k + 1) by rw [hjn]; exact upB_succ X n k)
      have HN := Lib.hid (show (n : Int) - 1 - ((k + 1 : Nat) : Int) = (j : Int) - 1 by omega)
      rw [hj]
      dsimp only [encPr] at hy
      clear hj hjn
      gi_wp2
      refine hR.mono ?_
      rintro e W3 (⟨rfl, hJ3, hk3⟩ | ⟨rfl, hJx3⟩)
      · gi_wp2
        go_roundw
        case rel => exact ⟨k + 1, by omega, by rw [HN.out], by rw [← HS.out]; exact hJ3, Lib.hid (hk3.2 hnx.out), hBk.trans hk3.1⟩
        case measure => simp [intOf] <;> omega
      · gi_wp2
        refine bodyPost_ret (results_none rfl _ _ _) rfl ?_
        exact ⟨⟨_, rfl⟩, .inr ⟨_, ⟨k + 1, by omega, HS.out⟩, hJx3⟩⟩
    · obtain rfl : k = n := by omega
      have hge : (k : Int) - 1 - (k : Int) = -1 := by omega
      rw [hge]
      gi_wp2
      go_end0
      exact ⟨⟨_, rfl⟩, .inl ⟨_, rfl, hJs⟩⟩
theorem backward_stopsK (d : Nat) (hd : 1 ≤ d) (Bs n₀ n cx xb xo : Nat) (X : Nat → Nat) (h1 : 1 ≤ n) (hn : n ≤ 1000) (hb : xb < n₀) (w : World) (hw : n₀ ≤ w.heap.size) (hc : ∀ i, i < n → w.cell? ⟨xb, xo + i, none⟩ = some (.float .f32 (X i)))
    (cb : Boxed w Bs 24 (.slice (some ⟨xb, xo, none⟩) n cx)) :
    SeqStopsK Fence.wide d Try.prog 177 #[.pointer (some ⟨Bs, 0, none⟩)] encPr (KpB n₀ Bs (.slice (some ⟨xb, xo, none⟩) n cx)) (fun ys => ys = upB X n n) (fun pre => ∃ k, k ≤ n ∧ pre = upB X n k) n w := fun l J Jx W hW _ _ hY h0 =>
  backward1_k d hd l Bs n₀ n cx xb xo X h1 hn J Jx hY W hb (fun i hi => (hW.cell (p := ⟨xb, xo + i, none⟩) (by simp only; omega)).trans (hc i hi)) ((hW.block Bs cb.lt).trans cb) h0
theorem backward_any (xa : Option Addr) (n cx : Nat) (w : World) :
    Calls Try.prog 137 #[.slice xa n cx] w fun e w' => e = .returned (.func (.func 177) #[] #[.pointer (some ⟨w.heap.size, 0, none⟩)]) ∧ w' = w.alloc (.cells #[.slice xa n cx] 24) := by
  go_enter Try.func137, Try.ntmps137
  go_wp2
  go_ret
  exact ⟨rfl, rfl⟩
end Go.Proofs.Ytbblohjldkpcnab
