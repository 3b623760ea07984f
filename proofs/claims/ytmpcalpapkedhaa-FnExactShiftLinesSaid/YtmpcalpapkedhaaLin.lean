
/- Lines (three numbers and a kind) as arguments; what the laws' own copying of them gives; whether a line is valid, as the model asks it and as the program does. -/
import Derived.Test.YtmpcalpapkedhaaNu5
import Derived.Test.YtmpcalpapkedhaaLaw
import Derived.Test.YtmpcalpapkedhaaIn5
import Derived.Lib.SmallJoins
namespace Go.Proofs.Ytmpcalpapkedhaa
open Go Go.ChangeShapes Go.WideShapes Go.ChangeAt Go.RowKit

section
variable {H : Type} {enc : TypeId × Value → H} {w : World} {base : Nat} {spare : Nat → Bool} {held : Bool}
set_option maxRecDepth 100000 in
/-- An argument that is a line. -/
theorem open_lin {r : Reach} {b0 : Nat} {v : Value} {d : DataW H} {p : List MemPlace} (hv : Value.okWide Try.prog w r b0 122 v) (h : DataW.Trod enc Try.prog w base spare held 122 v d p) :
    ∃ (x0 x1 x2 : Nat) (x3 : Int), v = .agg #[.float .f32 x0, .float .f32 x1, .float .f32 x2, .int .i64 x3] ∧ (x0 < 4294967296 ∧ x1 < 4294967296 ∧ x2 < 4294967296 ∧ (Lit.int .i64 x3).wf = true) := by
  obtain ⟨v0, v1, v2, v3, y0, y1, y2, y3, k, rfl, _, _, t0, t1, t2, t3⟩ := Joins.open_agg4 Try.underlying122 (by kernel_rfl) (by kernel_rfl) hv h
  obtain ⟨x0, rfl, w0⟩ := trod_float Try.underlying22 t0
  obtain ⟨x1, rfl, w1⟩ := trod_float Try.underlying22 t1
  obtain ⟨x2, rfl, w2⟩ := trod_float Try.underlying22 t2
  obtain ⟨x3, rfl, w3⟩ := trod_i64 Try.underlying2 t3
  exact ⟨x0, x1, x2, x3, rfl, f32_lt w0, f32_lt w1, f32_lt w2, w3⟩
end
def LinRet (a b c : Nat) (k : Int) (w : World) (e : Ending) (w' : World) : Prop := e = .returned (.agg #[.float .f32 a, .float .f32 b, .float .f32 c, .int .i64 k]) ∧ Below w.heap.size w w'
theorem run_store_i64 (a : Addr) (x : Int) (m : Mode) (w : World) : (store a (.int .i64 x) m).run Try.prog w = stored Try.prog w a (.int .i64 x) m := run_store _ w a _ m rfl
set_option maxRecDepth 100000 in
set_option maxHeartbeats 800000 in
theorem toLine_any (a b c : Nat) (k : Int) (w : World) : Calls Try.prog 95 #[.agg #[.float .f32 a, .float .f32 b, .float .f32 c, .int .i64 k]] w (LinRet a b c k w) := by
  have hst := run_store_f32
  have hst2 := run_store_i64
  go_enter Try.func95, Try.ntmps95
  go_wp2
  exact bodyPost_ret (v := .agg #[.float .f32 a, .float .f32 b, .float .f32 c, .int .i64 k]) (by simp [results, Try.results95, go_sem]) rfl ⟨rfl, by repeat (first | with_reducible exact Below.refl _ _ | with_reducible refine Below.setCell ?_ (by simp; try omega) _ | with_reducible refine Below.alloc ?_ (by simp; try omega) _)⟩
/-- A line that lies in memory. -/
def LnAt (w : World) (b o : Nat) (x y z : Nat) (k : Int) : Prop := w.cell? ⟨b, o, none⟩ = some (.float .f32 x) ∧ w.cell? ⟨b, o + 1, none⟩ = some (.float .f32 y) ∧ w.cell? ⟨b, o + 2, none⟩ = some (.float .f32 z) ∧ w.cell? ⟨b, o + 3, none⟩ = some (.int .i64 k)
theorem LnAt.below {w w' : World} {b o x y z : Nat} {k : Int} (h : LnAt w b o x y z k) (hb : Below w.heap.size w w') : LnAt w' b o x y z k :=
  ⟨(hb.cell (p := ⟨b, o, none⟩) (World.block_lt_of_cell? w _ h.1)).trans h.1, (hb.cell (p := ⟨b, o + 1, none⟩) (World.block_lt_of_cell? w _ h.2.1)).trans h.2.1,
   (hb.cell (p := ⟨b, o + 2, none⟩) (World.block_lt_of_cell? w _ h.2.2.1)).trans h.2.2.1, (hb.cell (p := ⟨b, o + 3, none⟩) (World.block_lt_of_cell? w _ h.2.2.2)).trans h.2.2.2⟩
theorem lnAt_alloc (w : World) (x y z : Nat) (k : Int) (t : TypeId) : LnAt (w.alloc (.cells #[.float .f32 x, .float .f32 y, .float .f32 z, .int .i64 k] t)) w.heap.size 0 x y z k := ⟨by simp, by simp, by simp, by simp⟩
/-- A variable that is a line. -/
def LnBox (w : World) (b : Nat) (x y z : Nat) (k : Int) : Prop := w.cell? ⟨b, 0, none⟩ = some (.float .f32 x) ∧ w.cell? ⟨b, 1, none⟩ = some (.float .f32 y) ∧ w.cell? ⟨b, 2, none⟩ = some (.float .f32 z) ∧ w.cell? ⟨b, 3, none⟩ = some (.int .i64 k)
theorem LnBox.at {w : World} {b x y z : Nat} {k : Int} (h : LnBox w b x y z k) : LnAt w b 0 x y z k := h
theorem LnBox.below {w w' : World} {b x y z : Nat} {k : Int} (h : LnBox w b x y z k) (hb : Below w.heap.size w w') : LnBox w' b x y z k := LnAt.below h.at hb
theorem lnBox_alloc (w : World) (x y z : Nat) (k : Int) (t : TypeId) : LnBox (w.alloc (.cells #[.float .f32 x, .float .f32 y, .float .f32 z, .int .i64 k] t)) w.heap.size x y z k := ⟨by simp, by simp, by simp, by simp⟩
def okLin (a b c : Nat) (k : Int) : Bool := (isFin .f32 a && isFin .f32 b) && isP c && inB k 0 3
theorem okLin_at {a b c : Nat} {k : Int} (h : okLin a b c k = true) : isFin .f32 a = true ∧ isFin .f32 b = true ∧ isP c = true ∧ 0 ≤ k ∧ k ≤ 3 := by
  simp only [okLin, Bool.and_eq_true] at h
  exact ⟨h.1.1.1, h.1.1.2, h.1.2, (inB_rng h.2).1, (inB_rng h.2).2⟩
set_option maxRecDepth 100000 in
set_option maxHeartbeats 1600000 in
theorem l05Line_any (g o a b c : Nat) (k : Int) (w : World) (h : LnAt w g o a b c k) : Calls Try.prog 169 #[.pointer (some ⟨g, o, none⟩)] w fun e w' => e = .returned (.bool (okLin a b c k)) ∧ ∃ m, w' = w.drewN m := by
  obtain ⟨h1, h2, h3, h4⟩ := h
  have hp : isP c = (isFin .f32 c && (FloatKind.f32.format.order c 0 == some .gt)) := rfl
  cases c1 : isFin .f32 a
  · skip
    have HK := Lib.hid (show okLin a b c k = false by unfold okLin; rw [hp]; (first | (simp [c1, c2, c3, c4, c5, c6, c7]; done) | (simp [c1, c2, c3, c4, c5, c6]; done) | (simp [c1, c2, c3, c4, c5]; done) | (simp [c1, c2, c3, c4]; done) | (simp [c1, c2, c3]; done) | (simp [c1, c2]; done) | (simp [c1]; done)))
    clear hp
    go_enter Try.func169, Try.ntmps169
    go_wp2_with (first | (first | (go_at_call 94; refine (l01Finite_any _ _).mono ?_; rintro e w' ⟨rfl, q, rfl⟩) | (go_at_call 179; refine (l00In_any _ _ _ _).mono ?_; rintro e w' ⟨rfl, rfl⟩)) | go_in)
    go_ret
    exact ⟨ret_bool HK.out.symm, _, rfl⟩
  · skip
    cases c2 : isFin .f32 b
    · skip
      have HK := Lib.hid (show okLin a b c k = false by unfold okLin; rw [hp]; (first | (simp [c1, c2, c3, c4, c5, c6, c7]; done) | (simp [c1, c2, c3, c4, c5, c6]; done) | (simp [c1, c2, c3, c4, c5]; done) | (simp [c1, c2, c3, c4]; done) | (simp [c1, c2, c3]; done) | (simp [c1, c2]; done) | (simp [c1]; done)))
      clear hp
      go_enter Try.func169, Try.ntmps169
      go_wp2_with (first | (first | (go_at_call 94; refine (l01Finite_any _ _).mono ?_; rintro e w' ⟨rfl, q, rfl⟩) | (go_at_call 179; refine (l00In_any _ _ _ _).mono ?_; rintro e w' ⟨rfl, rfl⟩)) | go_in)
      go_ret
      exact ⟨ret_bool HK.out.symm, _, rfl⟩
    · skip
      cases c3 : isFin .f32 c
      · skip
        have HK := Lib.hid (show okLin a b c k = false by unfold okLin; rw [hp]; (first | (simp [c1, c2, c3, c4, c5, c6, c7]; done) | (simp [c1, c2, c3, c4, c5, c6]; done) | (simp [c1, c2, c3, c4, c5]; done) | (simp [c1, c2, c3, c4]; done) | (simp [c1, c2, c3]; done) | (simp [c1, c2]; done) | (simp [c1]; done)))
        clear hp
        go_enter Try.func169, Try.ntmps169
        go_wp2_with (first | (first | (go_at_call 94; refine (l01Finite_any _ _).mono ?_; rintro e w' ⟨rfl, q, rfl⟩) | (go_at_call 179; refine (l00In_any _ _ _ _).mono ?_; rintro e w' ⟨rfl, rfl⟩)) | go_in)
        go_ret
        exact ⟨ret_bool HK.out.symm, _, rfl⟩
      · skip
        cases c4 : (FloatKind.f32.format.order c 0 == some .gt)
        · skip
          have HK := Lib.hid (show okLin a b c k = false by unfold okLin; rw [hp]; (first | (simp [c1, c2, c3, c4, c5, c6, c7]; done) | (simp [c1, c2, c3, c4, c5, c6]; done) | (simp [c1, c2, c3, c4, c5]; done) | (simp [c1, c2, c3, c4]; done) | (simp [c1, c2, c3]; done) | (simp [c1, c2]; done) | (simp [c1]; done)))
          clear hp
          go_enter Try.func169, Try.ntmps169
          go_wp2_with (first | (first | (go_at_call 94; refine (l01Finite_any _ _).mono ?_; rintro e w' ⟨rfl, q, rfl⟩) | (go_at_call 179; refine (l00In_any _ _ _ _).mono ?_; rintro e w' ⟨rfl, rfl⟩)) | go_in)
          go_ret
          exact ⟨ret_bool HK.out.symm, _, rfl⟩
        · skip
          have HK := Lib.hid (show okLin a b c k = inB k 0 3 by unfold okLin; rw [hp]; (first | (simp [c1, c2, c3, c4, c5, c6, c7]; done) | (simp [c1, c2, c3, c4, c5, c6]; done) | (simp [c1, c2, c3, c4, c5]; done) | (simp [c1, c2, c3, c4]; done) | (simp [c1, c2, c3]; done) | (simp [c1, c2]; done) | (simp [c1]; done)))
          clear hp
          go_enter Try.func169, Try.ntmps169
          go_wp2_with (first | (first | (go_at_call 94; refine (l01Finite_any _ _).mono ?_; rintro e w' ⟨rfl, q, rfl⟩) | (go_at_call 179; refine (l00In_any _ _ _ _).mono ?_; rintro e w' ⟨rfl, rfl⟩)) | go_in)
          go_ret
          exact ⟨ret_bool HK.out.symm, _, rfl⟩
set_option maxRecDepth 100000 in
set_option maxHeartbeats 1600000 in
theorem implVL_any (a b c : Nat) (k : Int) (w : World) : Calls Try.prog 172 #[.agg #[.float .f32 a, .float .f32 b, .float .f32 c, .int .i64 k]] w fun e w' => e = .returned (.bool (okLin a b c k)) ∧ Below w.heap.size w w' := by
  have hf := finL_two a b
  cases c1 : finL (duo a b) 2
  · skip
    have HK := Lib.hid (show okLin a b c k = false by unfold okLin inB; rw [← hf]; (first | (simp [c1, c2, c3, c4, c5, c6, c7]; done) | (simp [c1, c2, c3, c4, c5, c6]; done) | (simp [c1, c2, c3, c4, c5]; done) | (simp [c1, c2, c3, c4]; done) | (simp [c1, c2, c3]; done) | (simp [c1, c2]; done) | (simp [c1]; done)))
    clear hf
    go_enter Try.func172, Try.ntmps172
    go_wp2_with (first | (first | (go_at_call 97; refine (allFinite_any _ _ _ (duo _ _) _ (by exact rd_two' _ _ _ _ (by simp)) (by omega)).mono ?_; rintro e w' ⟨rfl, q, rfl⟩) | (go_at_call 89; refine (isPositive_any _ _).mono ?_; rintro e w' ⟨rfl, q, rfl⟩)) | go_in)
    go_ret
    refine ⟨ret_bool HK.out.symm, ?_⟩
    (repeat (first | with_reducible exact Below.refl _ _ | with_reducible refine Below.drewN ?_ _ | with_reducible refine Below.setCell ?_ (by simp; try omega) _ | with_reducible refine Below.alloc ?_ (by simp; try omega) _))
  · skip
    cases c2 : isP c
    · skip
      have HK := Lib.hid (show okLin a b c k = false by unfold okLin inB; rw [← hf]; (first | (simp [c1, c2, c3, c4, c5, c6, c7]; done) | (simp [c1, c2, c3, c4, c5, c6]; done) | (simp [c1, c2, c3, c4, c5]; done) | (simp [c1, c2, c3, c4]; done) | (simp [c1, c2, c3]; done) | (simp [c1, c2]; done) | (simp [c1]; done)))
      clear hf
      go_enter Try.func172, Try.ntmps172
      go_wp2_with (first | (first | (go_at_call 97; refine (allFinite_any _ _ _ (duo _ _) _ (by exact rd_two' _ _ _ _ (by simp)) (by omega)).mono ?_; rintro e w' ⟨rfl, q, rfl⟩) | (go_at_call 89; refine (isPositive_any _ _).mono ?_; rintro e w' ⟨rfl, q, rfl⟩)) | go_in)
      go_ret
      refine ⟨ret_bool HK.out.symm, ?_⟩
      (repeat (first | with_reducible exact Below.refl _ _ | with_reducible refine Below.drewN ?_ _ | with_reducible refine Below.setCell ?_ (by simp; try omega) _ | with_reducible refine Below.alloc ?_ (by simp; try omega) _))
    · skip
      cases c3 : decide (0 ≤ k)
      · skip
        have HK := Lib.hid (show okLin a b c k = false by unfold okLin inB; rw [← hf]; (first | (simp [c1, c2, c3, c4, c5, c6, c7]; done) | (simp [c1, c2, c3, c4, c5, c6]; done) | (simp [c1, c2, c3, c4, c5]; done) | (simp [c1, c2, c3, c4]; done) | (simp [c1, c2, c3]; done) | (simp [c1, c2]; done) | (simp [c1]; done)))
        clear hf
        go_enter Try.func172, Try.ntmps172
        go_wp2_with (first | (first | (go_at_call 97; refine (allFinite_any _ _ _ (duo _ _) _ (by exact rd_two' _ _ _ _ (by simp)) (by omega)).mono ?_; rintro e w' ⟨rfl, q, rfl⟩) | (go_at_call 89; refine (isPositive_any _ _).mono ?_; rintro e w' ⟨rfl, q, rfl⟩)) | go_in)
        go_ret
        refine ⟨ret_bool HK.out.symm, ?_⟩
        (repeat (first | with_reducible exact Below.refl _ _ | with_reducible refine Below.drewN ?_ _ | with_reducible refine Below.setCell ?_ (by simp; try omega) _ | with_reducible refine Below.alloc ?_ (by simp; try omega) _))
      · skip
        have HK := Lib.hid (show okLin a b c k = decide (k ≤ 3) by unfold okLin inB; rw [← hf]; (first | (simp [c1, c2, c3, c4, c5, c6, c7]; done) | (simp [c1, c2, c3, c4, c5, c6]; done) | (simp [c1, c2, c3, c4, c5]; done) | (simp [c1, c2, c3, c4]; done) | (simp [c1, c2, c3]; done) | (simp [c1, c2]; done) | (simp [c1]; done)))
        clear hf
        go_enter Try.func172, Try.ntmps172
        go_wp2_with (first | (first | (go_at_call 97; refine (allFinite_any _ _ _ (duo _ _) _ (by exact rd_two' _ _ _ _ (by simp)) (by omega)).mono ?_; rintro e w' ⟨rfl, q, rfl⟩) | (go_at_call 89; refine (isPositive_any _ _).mono ?_; rintro e w' ⟨rfl, q, rfl⟩)) | go_in)
        go_ret
        refine ⟨ret_bool HK.out.symm, ?_⟩
        (repeat (first | with_reducible exact Below.refl _ _ | with_reducible refine Below.drewN ?_ _ | with_reducible refine Below.setCell ?_ (by simp; try omega) _ | with_reducible refine Below.alloc ?_ (by simp; try omega) _))
end Go.Proofs.Ytmpcalpapkedhaa
