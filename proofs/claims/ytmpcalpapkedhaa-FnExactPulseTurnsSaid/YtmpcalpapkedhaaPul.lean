
/- Of any pulses the program says that they are valid, and the same, just where the model does: pulses as arguments. -/
import Derived.Test.YtmpcalpapkedhaaNu5
import Derived.Test.YtmpcalpapkedhaaSmA
import Derived.Test.YtmpcalpapkedhaaLaw
import Derived.Test.YtmpcalpapkedhaaSt
import Derived.Lib.SmallJoins
namespace Go.Proofs.Ytmpcalpapkedhaa
open Go Go.ChangeShapes Go.WideShapes Go.ChangeAt Go.RowKit

def four (a b c d : Nat) (i : Nat) : Nat := if i = 0 then a else if i = 1 then b else if i = 2 then c else d
theorem rd_four (w : World) (a b c d : Nat) (t : TypeId) : Rd (w.alloc (.cells #[.float .f32 a, .float .f32 b, .float .f32 c, .float .f32 d] t)) (some ⟨w.heap.size, 0, none⟩) 4 (four a b c d) := by
  refine ⟨w.heap.size, 0, fun _ => rfl, fun i hi => ?_⟩
  rw [Nat.zero_add, World.cell?_alloc_new]
  rcases (by omega : i = 0 ∨ i = 1 ∨ i = 2 ∨ i = 3) with rfl | rfl | rfl | rfl <;> rfl
set_option maxRecDepth 100000 in
theorem wf_four {a b c d : Nat} (ha : a < 4294967296) (hb : b < 4294967296) (hc : c < 4294967296) (hd : d < 4294967296) : Wf32 (four a b c d) 4 := fun i hi => by
  rcases (by omega : i = 0 ∨ i = 1 ∨ i = 2 ∨ i = 3) with rfl | rfl | rfl | rfl
  · exact ha
  · exact hb
  · exact hc
  · exact hd
section
variable {H : Type} {enc : TypeId × Value → H} {w : World} {base : Nat} {spare : Nat → Bool} {held : Bool}
set_option maxRecDepth 100000 in
/-- An argument that is a pulse. -/
theorem open_pul {r : Reach} {b0 : Nat} {v : Value} {d : DataW H} {p : List MemPlace} (hv : Value.okWide Try.prog w r b0 24 v) (h : DataW.Trod enc Try.prog w base spare held 24 v d p) :
    ∃ (x0 x1 x2 x3 : Nat), v = .agg #[.float .f32 x0, .float .f32 x1, .float .f32 x2, .float .f32 x3] ∧ (x0 < 4294967296 ∧ x1 < 4294967296 ∧ x2 < 4294967296 ∧ x3 < 4294967296) := by
  obtain ⟨v0, v1, v2, v3, y0, y1, y2, y3, k, rfl, _, _, t0, t1, t2, t3⟩ := Joins.open_agg4 Try.underlying24 (by kernel_rfl) (by kernel_rfl) hv h
  obtain ⟨x0, rfl, w0⟩ := trod_float Try.underlying22 t0
  obtain ⟨x1, rfl, w1⟩ := trod_float Try.underlying22 t1
  obtain ⟨x2, rfl, w2⟩ := trod_float Try.underlying22 t2
  obtain ⟨x3, rfl, w3⟩ := trod_float Try.underlying22 t3
  exact ⟨x0, x1, x2, x3, rfl, f32_lt w0, f32_lt w1, f32_lt w2, f32_lt w3⟩
end
def PulRet (a b c d : Nat) (w : World) (e : Ending) (w' : World) : Prop := e = .returned (.agg #[.float .f32 a, .float .f32 b, .float .f32 c, .float .f32 d]) ∧ Below w.heap.size w w'
set_option maxRecDepth 100000 in
set_option maxHeartbeats 800000 in
theorem toPulse_any (a b c d : Nat) (w : World) : Calls Try.prog 16 #[.agg #[.float .f32 a, .float .f32 b, .float .f32 c, .float .f32 d]] w (PulRet a b c d w) := by
  have hst := run_store_f32
  go_enter Try.func16, Try.ntmps16
  go_wp2
  exact bodyPost_ret (v := .agg #[.float .f32 a, .float .f32 b, .float .f32 c, .float .f32 d]) (by simp [results, Try.results16, go_sem]) rfl ⟨rfl, by repeat (first | with_reducible exact Below.refl _ _ | with_reducible refine Below.setCell ?_ (by simp; try omega) _ | with_reducible refine Below.alloc ?_ (by simp; try omega) _)⟩
/-- A variable of four numbers. -/
def Box4 (w : World) (b : Nat) (x y z u : Nat) : Prop := w.cell? ⟨b, 0, none⟩ = some (.float .f32 x) ∧ w.cell? ⟨b, 1, none⟩ = some (.float .f32 y) ∧ w.cell? ⟨b, 2, none⟩ = some (.float .f32 z) ∧ w.cell? ⟨b, 3, none⟩ = some (.float .f32 u)
theorem Box4.below {w w' : World} {b x y z u : Nat} (h : Box4 w b x y z u) (hb : Below w.heap.size w w') : Box4 w' b x y z u :=
  ⟨(hb.cell (p := ⟨b, 0, none⟩) (World.block_lt_of_cell? w _ h.1)).trans h.1, (hb.cell (p := ⟨b, 1, none⟩) (World.block_lt_of_cell? w _ h.2.1)).trans h.2.1,
   (hb.cell (p := ⟨b, 2, none⟩) (World.block_lt_of_cell? w _ h.2.2.1)).trans h.2.2.1, (hb.cell (p := ⟨b, 3, none⟩) (World.block_lt_of_cell? w _ h.2.2.2)).trans h.2.2.2⟩
theorem box4_alloc (w : World) (x y z u : Nat) (t : TypeId) : Box4 (w.alloc (.cells #[.float .f32 x, .float .f32 y, .float .f32 z, .float .f32 u] t)) w.heap.size x y z u := ⟨by simp, by simp, by simp, by simp⟩
def okPul (a b c d : Nat) : Bool := (isG a && isG d) && (isFin .f32 b && isFin .f32 c)
set_option maxRecDepth 100000 in
set_option maxHeartbeats 1600000 in
theorem implVP_any (a b c d : Nat) (w : World) : Calls Try.prog 71 #[.agg #[.float .f32 a, .float .f32 b, .float .f32 c, .float .f32 d]] w fun e w' => e = .returned (.bool (okPul a b c d)) ∧ Below w.heap.size w w' := by
  have hg := gL_two a d
  have hf := finL_two b c
  cases c1 : gL (duo a d) 2
  · skip
    have HK := Lib.hid (show okPul a b c d = false by unfold okPul; rw [← hg]; (first | (simp [c1, c2, c3, c4, c5, c6, c7]; done) | (simp [c1, c2, c3, c4, c5, c6]; done) | (simp [c1, c2, c3, c4, c5]; done) | (simp [c1, c2, c3, c4]; done) | (simp [c1, c2, c3]; done) | (simp [c1, c2]; done) | (simp [c1]; done)))
    clear hg hf
    go_enter Try.func71, Try.ntmps71
    go_wp2_with (first | (first | (go_at_call 103; refine (areAtLeastZero_any _ _ _ (duo _ _) _ (by exact rd_two' _ _ _ _ (by simp)) (by omega)).mono ?_; rintro e w' ⟨rfl, q, rfl⟩) | (go_at_call 97; refine (allFinite_any _ _ _ (duo _ _) _ (by exact rd_two' _ _ _ _ (by simp)) (by omega)).mono ?_; rintro e w' ⟨rfl, q, rfl⟩)) | go_in)
    go_ret
    refine ⟨ret_bool HK.out.symm, ?_⟩
    (repeat (first | with_reducible exact Below.refl _ _ | with_reducible refine Below.drewN ?_ _ | with_reducible refine Below.setCell ?_ (by simp; try omega) _ | with_reducible refine Below.alloc ?_ (by simp; try omega) _))
  · skip
    have HK := Lib.hid (show okPul a b c d = finL (duo b c) 2 by unfold okPul; rw [← hg, ← hf]; (first | (simp [c1, c2, c3, c4, c5, c6, c7]; done) | (simp [c1, c2, c3, c4, c5, c6]; done) | (simp [c1, c2, c3, c4, c5]; done) | (simp [c1, c2, c3, c4]; done) | (simp [c1, c2, c3]; done) | (simp [c1, c2]; done) | (simp [c1]; done)))
    clear hg hf
    go_enter Try.func71, Try.ntmps71
    go_wp2_with (first | (first | (go_at_call 103; refine (areAtLeastZero_any _ _ _ (duo _ _) _ (by exact rd_two' _ _ _ _ (by simp)) (by omega)).mono ?_; rintro e w' ⟨rfl, q, rfl⟩) | (go_at_call 97; refine (allFinite_any _ _ _ (duo _ _) _ (by exact rd_two' _ _ _ _ (by simp)) (by omega)).mono ?_; rintro e w' ⟨rfl, q, rfl⟩)) | go_in)
    go_ret
    refine ⟨ret_bool HK.out.symm, ?_⟩
    (repeat (first | with_reducible exact Below.refl _ _ | with_reducible refine Below.drewN ?_ _ | with_reducible refine Below.setCell ?_ (by simp; try omega) _ | with_reducible refine Below.alloc ?_ (by simp; try omega) _))
end Go.Proofs.Ytmpcalpapkedhaa
