
/- Steps that are not done: a row that is not finite, a step below zero, too many. -/
import Derived.Test.YtmpcalpapkedhaaStp
namespace Go.Proofs.Ytmpcalpapkedhaa
open Go Go.ChangeShapes Go.WideShapes Go.ChangeAt Go.RowKit

def NilRet (w : World) (e : Ending) (w' : World) : Prop := e = .returned (.tuple #[.slice none 0 0, .bool false]) ∧ Below w.heap.size w w'
set_option maxRecDepth 100000 in
set_option maxHeartbeats 3200000 in
theorem steps_no (xa : Option Addr) (n cap : Nat) (X : Nat → Nat) (h : Nat) (T : Int) (f : Value) (w : World) (hX : Rd w xa n X) (hn : n ≤ 1048576) (hc : finL X n = false ∨ isG h = false ∨ inB T 0 512 = false) :
    Calls Try.prog 137 #[.slice xa n cap, .float .f32 h, .int .i64 T, f] w (NilRet w) := by
  have hg1 := gL_one h
  cases c1 : finL X n
  · skip
    clear hc hg1
    go_enter Try.func137, Try.ntmps137
    go_wp2_with fail
    refine wp_scope_rest 0 (fun _ _ => False) (fun _ _ => 0) rfl (fun _ _ h => h.elim) (fun _ => ?_)
    go_wp2_with (first | (go_at_call 192; refine (vecFin_any _ _ _ X _ (by exact hX) hn).mono ?_; rintro e w' ⟨rfl, q, rfl⟩) | (first | (go_at_call 103; refine (areAtLeastZero_any _ _ _ (fun _ => _) _ (by exact rd_one' _ _ _ (by simp)) (by omega)).mono ?_; rintro e w' ⟨rfl, q, rfl⟩)))
    simp only [Exit.jump]
    go_ret2
    refine ⟨rfl, ?_⟩
    (repeat (first | with_reducible exact Below.refl _ _ | with_reducible refine Below.drewN ?_ _ | with_reducible refine Below.setCell ?_ (by simp; try omega) _ | with_reducible refine Below.alloc ?_ (by simp; try omega) _))
  · skip
    cases c2 : gL (fun _ => h) 1
    · skip
      clear hc hg1
      go_enter Try.func137, Try.ntmps137
      go_wp2_with fail
      refine wp_scope_rest 0 (fun _ _ => False) (fun _ _ => 0) rfl (fun _ _ h => h.elim) (fun _ => ?_)
      go_wp2_with (first | (go_at_call 192; refine (vecFin_any _ _ _ X _ (by exact hX) hn).mono ?_; rintro e w' ⟨rfl, q, rfl⟩) | (first | (go_at_call 103; refine (areAtLeastZero_any _ _ _ (fun _ => _) _ (by exact rd_one' _ _ _ (by simp)) (by omega)).mono ?_; rintro e w' ⟨rfl, q, rfl⟩)))
      simp only [Exit.jump]
      go_ret2
      refine ⟨rfl, ?_⟩
      (repeat (first | with_reducible exact Below.refl _ _ | with_reducible refine Below.drewN ?_ _ | with_reducible refine Below.setCell ?_ (by simp; try omega) _ | with_reducible refine Below.alloc ?_ (by simp; try omega) _))
    · skip
      cases c3 : decide (T < 0)
      rotate_left
      · skip
        clear hc hg1
        go_enter Try.func137, Try.ntmps137
        go_wp2_with fail
        refine wp_scope_rest 0 (fun _ _ => False) (fun _ _ => 0) rfl (fun _ _ h => h.elim) (fun _ => ?_)
        go_wp2_with (first | (go_at_call 192; refine (vecFin_any _ _ _ X _ (by exact hX) hn).mono ?_; rintro e w' ⟨rfl, q, rfl⟩) | (first | (go_at_call 103; refine (areAtLeastZero_any _ _ _ (fun _ => _) _ (by exact rd_one' _ _ _ (by simp)) (by omega)).mono ?_; rintro e w' ⟨rfl, q, rfl⟩)))
        simp only [Exit.jump]
        go_ret2
        refine ⟨rfl, ?_⟩
        (repeat (first | with_reducible exact Below.refl _ _ | with_reducible refine Below.drewN ?_ _ | with_reducible refine Below.setCell ?_ (by simp; try omega) _ | with_reducible refine Below.alloc ?_ (by simp; try omega) _))
      · skip
        cases c4 : decide (512 < T)
        rotate_left
        · skip
          clear hc hg1
          go_enter Try.func137, Try.ntmps137
          go_wp2_with fail
          refine wp_scope_rest 0 (fun _ _ => False) (fun _ _ => 0) rfl (fun _ _ h => h.elim) (fun _ => ?_)
          go_wp2_with (first | (go_at_call 192; refine (vecFin_any _ _ _ X _ (by exact hX) hn).mono ?_; rintro e w' ⟨rfl, q, rfl⟩) | (first | (go_at_call 103; refine (areAtLeastZero_any _ _ _ (fun _ => _) _ (by exact rd_one' _ _ _ (by simp)) (by omega)).mono ?_; rintro e w' ⟨rfl, q, rfl⟩)))
          simp only [Exit.jump]
          go_ret2
          refine ⟨rfl, ?_⟩
          (repeat (first | with_reducible exact Below.refl _ _ | with_reducible refine Below.drewN ?_ _ | with_reducible refine Below.setCell ?_ (by simp; try omega) _ | with_reducible refine Below.alloc ?_ (by simp; try omega) _))
        · skip
          have hin := inB_yes (n := T) (a := 0) (b := 512) (by simpa using c3) (by simpa using c4)
          rw [hg1] at c2
          simp_all
theorem num_of_canon {b X : Nat} (hX : isNaN .f32 X = false) (h : canon .f32 b = canon .f32 X) : b = X := by
  have hb : isNaN .f32 b = false := by rw [← isNaN_canon .f32 b, h, isNaN_canon, hX]
  rwa [canon_num hb, canon_num hX] at h
theorem own_some2 {w : World} {B n : Nat} {v : Value} {xs : List Value} (h : w.ownsRow B 22 1 v n xs) (hn : 1 ≤ n) : ∃ g cap, v = .slice (some ⟨g, 0, none⟩) n cap := by
  rcases h.2 with ⟨_, h2⟩ | ⟨g, cap, cur, h1, _⟩
  · omega
  · exact ⟨g, cap, h1⟩
/-- A cell of a row whose numbers are told, where the number is finite. -/
theorem cell_fin {w : World} {B g cap n k : Nat} {X R : Nat → Nat} (h : w.ownsRow B 22 1 (.slice (some ⟨g, 0, none⟩) n cap) n (rowOf X n)) (hL : Like X R n) (hk : k < n) (hf : finL R n = true) : w.cell? ⟨g, k, none⟩ = some (.float .f32 (pick .f32 (R k) 0)) := by
  have h1 := num_fin (finL_at hf k hk)
  rw [pick_num h1, ← num_of_canon h1 (hL k hk)]
  exact own_cell h hk
end Go.Proofs.Ytmpcalpapkedhaa
