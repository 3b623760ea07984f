
import Derived.Test.YtmpcalpapkedhaaLi
import Derived.Test.YtmpcalpapkedhaaNu5
import Derived.Test.YtmpcalpapkedhaaLaw
import Derived.Lib.SmallJoins
import Derived.Test.YtmpcalpapkedhaaSame
import Derived.Test.YtmpcalpapkedhaaLiC
import Derived.Deep.QuietTactic
import Derived.BigQuiet
import Derived.StillTailTactics
namespace Go.Proofs.Ytmpcalpapkedhaa
open Go Go.ChangeShapes Go.WideShapes Go.ChangeAt Go.RowKit
/- A cell that holds an integer, read; for seats without lists of integers. -/

section
variable {H : Type} {enc : TypeId × Value → H} {P : Program} {w : World} {base : Nat} {spare : Nat → Bool} {held : Bool}
theorem trod_i64 {n : Nat} {e : TypeId} {v : Value} {x : DataW H × List MemPlace} (he : P.underlying e = some (.int .i64)) (h : DataW.trod enc P w base spare held n e [v] = some x) : ∃ b, v = .int .i64 b ∧ (Lit.int .i64 b).wf = true := by
  cases n with
  | zero => simp [DataW.trod] at h
  | succ n =>
    rw [DataW.trod_step] at h
    unfold DataW.trodStep at h
    simp only [he] at h
    cases v <;> try (simp at h; done)
    rename_i k b
    by_cases hk : k = .i64
    · subst hk
      by_cases hw : (Lit.int .i64 b).wf = true
      · exact ⟨b, rfl, hw⟩
      · simp [hw] at h
    · simp [hk] at h
end

/- Lines (three numbers and a kind) as arguments; what the laws' own copying of them gives; whether a line is valid, as the model asks it and as the program does. -/

section
variable {H : Type} {enc : TypeId × Value → H} {w : World} {base : Nat} {spare : Nat → Bool} {held : Bool}
set_option maxRecDepth 100000 in
/-- An argument that is a line. -/
theorem open_lin {r : Reach} {b0 : Nat} {v : Value} {d : DataW H} {p : List MemPlace} (hv : Value.okWide Try.prog w r b0 122 v) (h : DataW.Trod enc Try.prog w base spare held 122 v d p) :
    ∃ (x0 x1 x2 : Nat) (x3 : Int), v = .agg #[.float .f32 x0, .float .f32 x1, .float .f32 x2, .int .i64 x3] ∧ (x0 < 4294967296 ∧ x1 < 4294967296 ∧ x2 < 4294967296 ∧ (Lit.int .i64 x3).wf = true) := by
  obtain ⟨v0, v1, v2, v3, y0, y1, y2, y3, k, rfl, _, _, t0, t1, t2, t3⟩ := Joins.open_agg4 Try.underlying122 (by kernel_rfl) (by kernel_rfl) hv h
  obtain ⟨x0, rfl, w0⟩ := trod_float Try.underlying22 t0
  obtain ⟨x1, rfl, w1⟩ := trod_float Try.underlying22 t1
  obtain ⟨x2, rfl, w2⟩ := trod_float Try.underlying22 t2
  obtain ⟨x3, rfl, w3⟩ := trod_i64 Try.underlying2 t3
  exact ⟨x0, x1, x2, x3, rfl, f32_lt w0, f32_lt w1, f32_lt w2, w3⟩
end
def LinRet (a b c : Nat) (k : Int) (w : World) (e : Ending) (w' : World) : Prop := e = .returned (.agg #[.float .f32 a, .float .f32 b, .float .f32 c, .int .i64 k]) ∧ Below w.heap.size w w'
theorem run_store_i64 (a : Addr) (x : Int) (m : Mode) (w : World) : (store a (.int .i64 x) m).run Try.prog w = stored Try.prog w a (.int .i64 x) m := run_store _ w a _ m rfl
set_option maxRecDepth 100000 in
set_option maxHeartbeats 800000 in
theorem toLine_any (a b c : Nat) (k : Int) (w : World) : Calls Try.prog 95 #[.agg #[.float .f32 a, .float .f32 b, .float .f32 c, .int .i64 k]] w (LinRet a b c k w) := by
  have hst := run_store_f32
  have hst2 := run_store_i64
  go_enter Try.func95, Try.ntmps95
  go_wp2
  exact bodyPost_ret (v := .agg #[.float .f32 a, .float .f32 b, .float .f32 c, .int .i64 k]) (by simp [results, Try.results95, go_sem]) rfl ⟨rfl, by repeat (first | with_reducible exact Below.refl _ _ | with_reducible refine Below.setCell ?_ (by simp; try omega) _ | with_reducible refine Below.alloc ?_ (by simp; try omega) _)⟩
/-- A line that lies in memory. -/
def LnAt (w : World) (b o : Nat) (x y z : Nat) (k : Int) : Prop := w.cell? ⟨b, o, none⟩ = some (.float .f32 x) ∧ w.cell? ⟨b, o + 1, none⟩ = some (.float .f32 y) ∧ w.cell? ⟨b, o + 2, none⟩ = some (.float .f32 z) ∧ w.cell? ⟨b, o + 3, none⟩ = some (.int .i64 k)
theorem LnAt.below {w w' : World} {b o x y z : Nat} {k : Int} (h : LnAt w b o x y z k) (hb : Below w.heap.size w w') : LnAt w' b o x y z k :=
  ⟨(hb.cell (p := ⟨b, o, none⟩) (World.block_lt_of_cell? w _ h.1)).trans h.1, (hb.cell (p := ⟨b, o + 1, none⟩) (World.block_lt_of_cell? w _ h.2.1)).trans h.2.1,
   (hb.cell (p := ⟨b, o + 2, none⟩) (World.block_lt_of_cell? w _ h.2.2.1)).trans h.2.2.1, (hb.cell (p := ⟨b, o + 3, none⟩) (World.block_lt_of_cell? w _ h.2.2.2)).trans h.2.2.2⟩
theorem lnAt_alloc (w : World) (x y z : Nat) (k : Int) (t : TypeId) : LnAt (w.alloc (.cells #[.float .f32 x, .float .f32 y, .float .f32 z, .int .i64 k] t)) w.heap.size 0 x y z k := ⟨by simp, by simp, by simp, by simp⟩
/-- A variable that is a line. -/
def LnBox (w : World) (b : Nat) (x y z : Nat) (k : Int) : Prop := w.cell? ⟨b, 0, none⟩ = some (.float .f32 x) ∧ w.cell? ⟨b, 1, none⟩ = some (.float .f32 y) ∧ w.cell? ⟨b, 2, none⟩ = some (.float .f32 z) ∧ w.cell? ⟨b, 3, none⟩ = some (.int .i64 k)
theorem LnBox.at {w : World} {b x y z : Nat} {k : Int} (h : LnBox w b x y z k) : LnAt w b 0 x y z k := h
theorem LnBox.below {w w' : World} {b x y z : Nat} {k : Int} (h : LnBox w b x y z k) (hb : Below w.heap.size w w') : LnBox w' b x y z k := LnAt.below h.at hb
theorem lnBox_alloc (w : World) (x y z : Nat) (k : Int) (t : TypeId) : LnBox (w.alloc (.cells #[.float .f32 x, .float .f32 y, .float .f32 z, .int .i64 k] t)) w.heap.size x y z k := ⟨by simp, by simp, by simp, by simp⟩
def okLin (a b c : Nat) (k : Int) : Bool := (isFin .f32 a && isFin .f32 b) && isP c && inB k 0 3
theorem okLin_at {a b c : Nat} {k : Int} (h : okLin a b c k = true) : isFin .f32 a = true ∧ isFin .f32 b = true ∧ isP c = true ∧ 0 ≤ k ∧ k ≤ 3 := by
  simp only [okLin, Bool.and_eq_true] at h
  exact ⟨h.1.1.1, h.1.1.2, h.1.2, (inB_rng h.2).1, (inB_rng h.2).2⟩
set_option maxRecDepth 100000 in
set_option maxHeartbeats 1600000 in
theorem l05Line_any (g o a b c : Nat) (k : Int) (w : World) (h : LnAt w g o a b c k) : Calls Try.prog 169 #[.pointer (some ⟨g, o, none⟩)] w fun e w' => e = .returned (.bool (okLin a b c k)) ∧ ∃ m, w' = w.drewN m := by
  obtain ⟨h1, h2, h3, h4⟩ := h
  have hp : isP c = (isFin .f32 c && (FloatKind.f32.format.order c 0 == some .gt)) := rfl
  cases c1 : isFin .f32 a
  · skip
    have HK := Lib.hid (show okLin a b c k = false by unfold okLin; rw [hp]; (first | (simp [c1, c2, c3, c4, c5, c6, c7]; done) | (simp [c1, c2, c3, c4, c5, c6]; done) | (simp [c1, c2, c3, c4, c5]; done) | (simp [c1, c2, c3, c4]; done) | (simp [c1, c2, c3]; done) | (simp [c1, c2]; done) | (simp [c1]; done)))
    clear hp
    go_enter Try.func169, Try.ntmps169
    go_wp2_with (first | (first | (go_at_call 94; refine (l01Finite_any _ _).mono ?_; rintro e w' ⟨rfl, q, rfl⟩) | (go_at_call 179; refine (l00In_any _ _ _ _).mono ?_; rintro e w' ⟨rfl, rfl⟩)) | go_in)
    go_ret
    exact ⟨ret_bool HK.out.symm, _, rfl⟩
  · skip
    cases c2 : isFin .f32 b
    · skip
      have HK := Lib.hid (show okLin a b c k = false by unfold okLin; rw [hp]; (first | (simp [c1, c2, c3, c4, c5, c6, c7]; done) | (simp [c1, c2, c3, c4, c5, c6]; done) | (simp [c1, c2, c3, c4, c5]; done) | (simp [c1, c2, c3, c4]; done) | (simp [c1, c2, c3]; done) | (simp [c1, c2]; done) | (simp [c1]; done)))
      clear hp
      go_enter Try.func169, Try.ntmps169
      go_wp2_with (first | (first | (go_at_call 94; refine (l01Finite_any _ _).mono ?_; rintro e w' ⟨rfl, q, rfl⟩) | (go_at_call 179; refine (l00In_any _ _ _ _).mono ?_; rintro e w' ⟨rfl, rfl⟩)) | go_in)
      go_ret
      exact ⟨ret_bool HK.out.symm, _, rfl⟩
    · skip
      cases c3 : isFin .f32 c
      · skip
        have HK := Lib.hid (show okLin a b c k = false by unfold okLin; rw [hp]; (first | (simp [c1, c2, c3, c4, c5, c6, c7]; done) | (simp [c1, c2, c3, c4, c5, c6]; done) | (simp [c1, c2, c3, c4, c5]; done) | (simp [c1, c2, c3, c4]; done) | (simp [c1, c2, c3]; done) | (simp [c1, c2]; done) | (simp [c1]; done)))
        clear hp
        go_enter Try.func169, Try.ntmps169
        go_wp2_with (first | (first | (go_at_call 94; refine (l01Finite_any _ _).mono ?_; rintro e w' ⟨rfl, q, rfl⟩) | (go_at_call 179; refine (l00In_any _ _ _ _).mono ?_; rintro e w' ⟨rfl, rfl⟩)) | go_in)
        go_ret
        exact ⟨ret_bool HK.out.symm, _, rfl⟩
      · skip
        cases c4 : (FloatKind.f32.format.order c 0 == some .gt)
        · skip
          have HK := Lib.hid (show okLin a b c k = false by unfold okLin; rw [hp]; (first | (simp [c1, c2, c3, c4, c5, c6, c7]; done) | (simp [c1, c2, c3, c4, c5, c6]; done) | (simp [c1, c2, c3, c4, c5]; done) | (simp [c1, c2, c3, c4]; done) | (simp [c1, c2, c3]; done) | (simp [c1, c2]; done) | (simp [c1]; done)))
          clear hp
          go_enter Try.func169, Try.ntmps169
          go_wp2_with (first | (first | (go_at_call 94; refine (l01Finite_any _ _).mono ?_; rintro e w' ⟨rfl, q, rfl⟩) | (go_at_call 179; refine (l00In_any _ _ _ _).mono ?_; rintro e w' ⟨rfl, rfl⟩)) | go_in)
          go_ret
          exact ⟨ret_bool HK.out.symm, _, rfl⟩
        · skip
          have HK := Lib.hid (show okLin a b c k = inB k 0 3 by unfold okLin; rw [hp]; (first | (simp [c1, c2, c3, c4, c5, c6, c7]; done) | (simp [c1, c2, c3, c4, c5, c6]; done) | (simp [c1, c2, c3, c4, c5]; done) | (simp [c1, c2, c3, c4]; done) | (simp [c1, c2, c3]; done) | (simp [c1, c2]; done) | (simp [c1]; done)))
          clear hp
          go_enter Try.func169, Try.ntmps169
          go_wp2_with (first | (first | (go_at_call 94; refine (l01Finite_any _ _).mono ?_; rintro e w' ⟨rfl, q, rfl⟩) | (go_at_call 179; refine (l00In_any _ _ _ _).mono ?_; rintro e w' ⟨rfl, rfl⟩)) | go_in)
          go_ret
          exact ⟨ret_bool HK.out.symm, _, rfl⟩
set_option maxRecDepth 100000 in
set_option maxHeartbeats 1600000 in
theorem implVL_any (a b c : Nat) (k : Int) (w : World) : Calls Try.prog 172 #[.agg #[.float .f32 a, .float .f32 b, .float .f32 c, .int .i64 k]] w fun e w' => e = .returned (.bool (okLin a b c k)) ∧ Below w.heap.size w w' := by
  have hf := finL_two a b
  cases c1 : finL (duo a b) 2
  · skip
    have HK := Lib.hid (show okLin a b c k = false by unfold okLin inB; rw [← hf]; (first | (simp [c1, c2, c3, c4, c5, c6, c7]; done) | (simp [c1, c2, c3, c4, c5, c6]; done) | (simp [c1, c2, c3, c4, c5]; done) | (simp [c1, c2, c3, c4]; done) | (simp [c1, c2, c3]; done) | (simp [c1, c2]; done) | (simp [c1]; done)))
    clear hf
    go_enter Try.func172, Try.ntmps172
    go_wp2_with (first | (first | (go_at_call 97; refine (allFinite_any _ _ _ (duo _ _) _ (by exact rd_two' _ _ _ _ (by simp)) (by omega)).mono ?_; rintro e w' ⟨rfl, q, rfl⟩) | (go_at_call 89; refine (isPositive_any _ _).mono ?_; rintro e w' ⟨rfl, q, rfl⟩)) | go_in)
    go_ret
    refine ⟨ret_bool HK.out.symm, ?_⟩
    (repeat (first | with_reducible exact Below.refl _ _ | with_reducible refine Below.drewN ?_ _ | with_reducible refine Below.setCell ?_ (by simp; try omega) _ | with_reducible refine Below.alloc ?_ (by simp; try omega) _))
  · skip
    cases c2 : isP c
    · skip
      have HK := Lib.hid (show okLin a b c k = false by unfold okLin inB; rw [← hf]; (first | (simp [c1, c2, c3, c4, c5, c6, c7]; done) | (simp [c1, c2, c3, c4, c5, c6]; done) | (simp [c1, c2, c3, c4, c5]; done) | (simp [c1, c2, c3, c4]; done) | (simp [c1, c2, c3]; done) | (simp [c1, c2]; done) | (simp [c1]; done)))
      clear hf
      go_enter Try.func172, Try.ntmps172
      go_wp2_with (first | (first | (go_at_call 97; refine (allFinite_any _ _ _ (duo _ _) _ (by exact rd_two' _ _ _ _ (by simp)) (by omega)).mono ?_; rintro e w' ⟨rfl, q, rfl⟩) | (go_at_call 89; refine (isPositive_any _ _).mono ?_; rintro e w' ⟨rfl, q, rfl⟩)) | go_in)
      go_ret
      refine ⟨ret_bool HK.out.symm, ?_⟩
      (repeat (first | with_reducible exact Below.refl _ _ | with_reducible refine Below.drewN ?_ _ | with_reducible refine Below.setCell ?_ (by simp; try omega) _ | with_reducible refine Below.alloc ?_ (by simp; try omega) _))
    · skip
      cases c3 : decide (0 ≤ k)
      · skip
        have HK := Lib.hid (show okLin a b c k = false by unfold okLin inB; rw [← hf]; (first | (simp [c1, c2, c3, c4, c5, c6, c7]; done) | (simp [c1, c2, c3, c4, c5, c6]; done) | (simp [c1, c2, c3, c4, c5]; done) | (simp [c1, c2, c3, c4]; done) | (simp [c1, c2, c3]; done) | (simp [c1, c2]; done) | (simp [c1]; done)))
        clear hf
        go_enter Try.func172, Try.ntmps172
        go_wp2_with (first | (first | (go_at_call 97; refine (allFinite_any _ _ _ (duo _ _) _ (by exact rd_two' _ _ _ _ (by simp)) (by omega)).mono ?_; rintro e w' ⟨rfl, q, rfl⟩) | (go_at_call 89; refine (isPositive_any _ _).mono ?_; rintro e w' ⟨rfl, q, rfl⟩)) | go_in)
        go_ret
        refine ⟨ret_bool HK.out.symm, ?_⟩
        (repeat (first | with_reducible exact Below.refl _ _ | with_reducible refine Below.drewN ?_ _ | with_reducible refine Below.setCell ?_ (by simp; try omega) _ | with_reducible refine Below.alloc ?_ (by simp; try omega) _))
      · skip
        have HK := Lib.hid (show okLin a b c k = decide (k ≤ 3) by unfold okLin inB; rw [← hf]; (first | (simp [c1, c2, c3, c4, c5, c6, c7]; done) | (simp [c1, c2, c3, c4, c5, c6]; done) | (simp [c1, c2, c3, c4, c5]; done) | (simp [c1, c2, c3, c4]; done) | (simp [c1, c2, c3]; done) | (simp [c1, c2]; done) | (simp [c1]; done)))
        clear hf
        go_enter Try.func172, Try.ntmps172
        go_wp2_with (first | (first | (go_at_call 97; refine (allFinite_any _ _ _ (duo _ _) _ (by exact rd_two' _ _ _ _ (by simp)) (by omega)).mono ?_; rintro e w' ⟨rfl, q, rfl⟩) | (go_at_call 89; refine (isPositive_any _ _).mono ?_; rintro e w' ⟨rfl, q, rfl⟩)) | go_in)
        go_ret
        refine ⟨ret_bool HK.out.symm, ?_⟩
        (repeat (first | with_reducible exact Below.refl _ _ | with_reducible refine Below.drewN ?_ _ | with_reducible refine Below.setCell ?_ (by simp; try omega) _ | with_reducible refine Below.alloc ?_ (by simp; try omega) _))

/- Lists of lines in memory: 'RdN w xa n X': the slice with the address xa and the length n reads as the lines X 0, X 1 .. in w; an argument that is such a list, opened. -/

structure Ln where
  p : Nat
  h : Nat
  d : Nat
  k : Int
instance : Inhabited Ln := ⟨⟨0, 0, 0, 0⟩⟩
def Ln.wf (l : Ln) : Prop := l.p < 4294967296 ∧ l.h < 4294967296 ∧ l.d < 4294967296 ∧ (Lit.int .i64 l.k).wf = true
def LnIn (w : World) (b o : Nat) (l : Ln) : Prop := LnAt w b o l.p l.h l.d l.k
def RdN (w : World) (xa : Option Addr) (n : Nat) (X : Nat → Ln) : Prop := ∃ xb xo, (0 < n → xa = some ⟨xb, xo, none⟩) ∧ ∀ i, i < n → LnIn w xb (xo + i * 4) (X i)
theorem RdN.drew {w : World} {xa : Option Addr} {n : Nat} {X : Nat → Ln} (h : RdN w xa n X) (k : Nat) : RdN (w.drewN k) xa n X := h
theorem RdN.below {w w' : World} {xa : Option Addr} {n : Nat} {X : Nat → Ln} (h : RdN w xa n X) (hb : Below w.heap.size w w') : RdN w' xa n X := by
  obtain ⟨xb, xo, h1, h2⟩ := h
  exact ⟨xb, xo, h1, fun i hi => (h2 i hi).below hb⟩
theorem RdN.nil (w : World) (xa : Option Addr) (X : Nat → Ln) : RdN w xa 0 X := ⟨0, 0, fun h => absurd h (Nat.lt_irrefl _), fun _ h => absurd h (Nat.not_lt_zero _)⟩
def lnCells (l : Ln) : List Value := [.float .f32 l.p, .float .f32 l.h, .float .f32 l.d, .int .i64 l.k]
/-- The cells of lines. -/
def rowN (X : Nat → Ln) : Nat → List Value
  | 0 => []
  | n + 1 => rowN X n ++ lnCells (X n)
theorem rowN_length (X : Nat → Ln) (n : Nat) : (rowN X n).length = n * 4 := by
  induction n with
  | zero => rfl
  | succ n ih => simp [rowN, ih, lnCells]; omega
theorem rowN_congr {X Y : Nat → Ln} {n : Nat} (h : ∀ i, i < n → X i = Y i) : rowN X n = rowN Y n := by
  induction n with
  | zero => rfl
  | succ n ih => rw [rowN, rowN, ih (fun i hi => h i (by omega)), h n (by omega)]
theorem rowN_get (X : Nat → Ln) (n i j : Nat) (hi : i < n) (hj : j < 4) : (rowN X n)[i * 4 + j]? = (lnCells (X i))[j]? := by
  induction n with
  | zero => omega
  | succ n ih =>
    rw [rowN]
    by_cases h : i < n
    · rw [List.getElem?_append_left (by rw [rowN_length]; omega), ih h]
    · obtain rfl : i = n := by omega
      rw [List.getElem?_append_right (by rw [rowN_length]; omega), rowN_length]
      congr 1
      omega
/-- What is owned reads. -/
theorem rdN_of_own {w : World} {B e : Nat} {v : Value} {n : Nat} {X : Nat → Ln} (h : w.ownsRow B e 4 v n (rowN X n)) :
    ∃ xa cap, v = .slice xa n cap ∧ n ≤ cap ∧ cap ≤ maxLen ∧ RdN w xa n X := by
  have h0 := h
  rcases h.2 with ⟨rfl, rfl⟩ | ⟨g, cap, cur, rfl, hB, hg, hn, hc, hs, ht⟩
  · exact ⟨none, 0, rfl, Nat.le_refl _, Nat.zero_le _, RdN.nil _ _ _⟩
  · refine ⟨_, cap, rfl, hn, hc, g, 0, fun _ => rfl, fun i hi => ?_⟩
    rw [Nat.zero_add]
    have c0 := rowN_get X n i 0 hi (by omega)
    rw [Nat.add_zero] at c0
    refine ⟨?_, ?_, ?_, ?_⟩
    · rw [h0.cellAt (i * 4) (by omega), c0]; rfl
    · rw [h0.cellAt (i * 4 + 1) (by omega), rowN_get X n i 1 hi (by omega)]; rfl
    · rw [h0.cellAt (i * 4 + 2) (by omega), rowN_get X n i 2 hi (by omega)]; rfl
    · rw [h0.cellAt (i * 4 + 3) (by omega), rowN_get X n i 3 hi (by omega)]; rfl
section
variable {H : Type} {enc : TypeId × Value → H} {w : World} {base : Nat} {spare : Nat → Bool} {held : Bool}
set_option maxRecDepth 100000 in
/-- An argument that is a list of lines. -/
theorem open_lins {xa : Option Addr} {len cap : Nat} {d : DataW H} {ps : List MemPlace}
    (h : DataW.Trod enc Try.prog w base spare held 49 (.slice xa len cap) d ps) : len ≤ cap ∧ cap ≤ maxLen ∧ ∃ X, RdN w xa len X ∧ ∀ i, i < len → (X i).wf := by
  obtain ⟨fuel, hf⟩ := h
  have hf' : DataW.trod enc Try.prog w base spare held fuel 49 [.slice xa len cap] = some (d, ps) := hf
  have hC : Try.prog.cellsOf 122 = 4 := by kernel_rfl
  rcases Deep.open_slice Try.underlying49 hf' with ⟨h1, _⟩ | ⟨a, len', cap', m, n, D, Pl, hcs, _, hl, hm, hmm, _, hx⟩
  · simp only [List.cons.injEq, Value.slice.injEq, and_true] at h1
    obtain ⟨rfl, rfl, rfl⟩ := h1
    exact ⟨Nat.le_refl _, Nat.zero_le _, fun _ => ⟨0, 0, 0, 0⟩, RdN.nil _ _ _, fun i hi => absurd hi (Nat.not_lt_zero _)⟩
  · simp only [List.cons.injEq, Value.slice.injEq, and_true] at hcs
    obtain ⟨rfl, rfl, rfl⟩ := hcs
    have hlm : len ≤ m := by rw [hmm]; split <;> omega
    have one : ∀ i, i < len → ∃ l : Ln, l.wf ∧ w.cell? (a.add (i * 4 + 0)) = some (.float .f32 l.p) ∧ w.cell? (a.add (i * 4 + 1)) = some (.float .f32 l.h) ∧ w.cell? (a.add (i * 4 + 2)) = some (.float .f32 l.d) ∧ w.cell? (a.add (i * 4 + 3)) = some (.int .i64 l.k) := fun i hi => by
      obtain ⟨cs', hc, ht'⟩ := hx i (by omega)
      rw [hC] at hc
      obtain ⟨_, hcl, hat⟩ := World.cells?_some hc
      obtain ⟨y0, y1, y2, y3, k, _, _, t0, t1, t2, t3⟩ := Joins.trod_struct4 Try.underlying122 ht'
      match cs', hcl with
      | [c0, c1, c2, c3], _ =>
        have cF : Try.prog.cellsOf 22 = 1 := by kernel_rfl
        have cI : Try.prog.cellsOf 2 = 1 := by kernel_rfl
        simp only [cF, cI, List.drop_zero, List.drop_succ_cons, List.take_succ_cons, List.take_zero] at t0 t1 t2 t3
        obtain ⟨x0, rfl, w0⟩ := trod_float Try.underlying22 t0
        obtain ⟨x1, rfl, w1⟩ := trod_float Try.underlying22 t1
        obtain ⟨x2, rfl, w2⟩ := trod_float Try.underlying22 t2
        obtain ⟨x3, rfl, w3⟩ := trod_i64 Try.underlying2 t3
        have e0 := hat 0 (by omega)
        have e1 := hat 1 (by omega)
        have e2 := hat 2 (by omega)
        have e3 := hat 3 (by omega)
        rw [Deep.add_add] at e0 e1 e2 e3
        exact ⟨⟨x0, x1, x2, x3⟩, ⟨f32_lt w0, f32_lt w1, f32_lt w2, w3⟩, e0, e1, e2, e3⟩
    obtain ⟨X, hX⟩ := Deep.choose_lt (α := Ln) (n := len) (p := fun i l => l.wf ∧ w.cell? (a.add (i * 4 + 0)) = some (.float .f32 l.p) ∧ w.cell? (a.add (i * 4 + 1)) = some (.float .f32 l.h) ∧ w.cell? (a.add (i * 4 + 2)) = some (.float .f32 l.d) ∧ w.cell? (a.add (i * 4 + 3)) = some (.int .i64 l.k)) one
    have ad : ∀ (n : Nat) (v : Value), w.cell? (a.add n) = some v → w.cell? ⟨a.block, a.off + n, none⟩ = some v := fun n v h0 => by
      have hs := World.cell?_spot h0
      unfold Addr.add at hs h0
      by_cases hn : n = 0
      · subst hn
        simp only [if_true] at hs h0
        cases a
        simp only at hs
        subst hs
        exact h0
      · simp only [hn, if_false] at h0
        exact h0
    refine ⟨hl, hm, X, ⟨a.block, a.off, fun hp => ?_, fun i hi => ?_⟩, fun i hi => (hX i hi).1⟩
    · have h0 := World.cell?_spot (hX 0 (by omega)).2.1
      have h1 : a.spot = none := h0
      cases a
      simp only at h1
      rw [h1]
    · obtain ⟨_, h0, h1, h2, h3⟩ := hX i hi
      have g1 := ad _ _ h1
      have g0 := ad _ _ h0
      have g2 := ad _ _ h2
      have g3 := ad _ _ h3
      rw [Nat.add_zero] at g0
      rw [← Nat.add_assoc] at g1 g2 g3
      exact ⟨g0, g1, g2, g3⟩
end

/- The laws' own copying and comparing of lists of lines. -/

theorem infoN : (Try.prog.info? 120).map (fun i => (i.zero, i.size, i.bytes)) = some (some (.agg #[.float .f32 0, .float .f32 0, .float .f32 0, .int .i64 0]), 4, 24) := by kernel_rfl
theorem rowN_set (X : Nat → Ln) (n k : Nat) (l : Ln) (hk : k < n) :
    ((((rowN X n).set (k * 4) (.float .f32 l.p)).set (k * 4 + 1) (.float .f32 l.h)).set (k * 4 + 2) (.float .f32 l.d)).set (k * 4 + 3) (.int .i64 l.k) = rowN (fun j => if j = k then l else X j) n := by
  apply List.ext_getElem?
  intro i
  by_cases hi : i < n * 4
  · obtain ⟨q, r, rfl, hr⟩ : ∃ q r, i = q * 4 + r ∧ r < 4 := ⟨i / 4, i % 4, by omega, by omega⟩
    have hq : q < n := by omega
    rw [rowN_get _ _ _ _ hq hr]
    have hlen := rowN_length X n
    simp only [List.getElem?_set, List.length_set, hlen]
    by_cases hqk : q = k
    · subst hqk
      rw [if_pos rfl]
      rcases (by omega : r = 0 ∨ r = 1 ∨ r = 2 ∨ r = 3) with rfl | rfl | rfl | rfl
      · rw [if_neg (by omega), if_neg (by omega), if_neg (by omega), if_pos (by omega), if_pos (by omega)]; rfl
      · rw [if_neg (by omega), if_neg (by omega), if_pos (by omega), if_pos (by omega)]; rfl
      · rw [if_neg (by omega), if_pos (by omega), if_pos (by omega)]; rfl
      · rw [if_pos (by omega), if_pos (by omega)]; rfl
    · rw [if_neg (by omega), if_neg (by omega), if_neg (by omega), if_neg (by omega), rowN_get X n q r hq hr, if_neg hqk]
  · rw [List.getElem?_eq_none (by simp [rowN_length]; omega), List.getElem?_eq_none (by simp [rowN_length]; omega)]
/-- A line stored into a list of the call's own. -/
theorem ownN_stored {w : World} {B e g n cap : Nat} {X : Nat → Ln} (h : w.ownsRow B e 4 (.slice (some ⟨g, 0, none⟩) n cap) n (rowN X n)) (k : Nat) (l : Ln) (hk : k < n) :
    ((((w.setCell ⟨g, k * 4, none⟩ (.float .f32 l.p)).setCell ⟨g, k * 4 + 1, none⟩ (.float .f32 l.h)).setCell ⟨g, k * 4 + 2, none⟩ (.float .f32 l.d)).setCell ⟨g, k * 4 + 3, none⟩ (.int .i64 l.k)).ownsRow B e 4 (.slice (some ⟨g, 0, none⟩) n cap) n (rowN (fun j => if j = k then l else X j) n) := by
  have h1 := (h.stored (k * 4) (.float .f32 l.p)).1
  have h2 := (h1.stored (k * 4 + 1) (.float .f32 l.h)).1
  have h3 := (h2.stored (k * 4 + 2) (.float .f32 l.d)).1
  have h4 := (h3.stored (k * 4 + 3) (.int .i64 l.k)).1
  rw [rowN_set X n k l hk] at h4
  exact h4
theorem ownN_cells {w : World} {B e g n cap k : Nat} {X : Nat → Ln} (h : w.ownsRow B e 4 (.slice (some ⟨g, 0, none⟩) n cap) n (rowN X n)) (hk : k < n) : LnIn w g (k * 4) (X k) := by
  obtain ⟨xa, cap', hv, _, _, b, o, h1, h2⟩ := rdN_of_own h
  cases hv
  have e := h1 (by omega)
  cases e
  have := h2 k hk
  rw [Nat.zero_add] at this
  exact this
theorem rdN_own {w : World} {B e n cap : Nat} {xa : Option Addr} {X : Nat → Ln} (h : w.ownsRow B e 4 (.slice xa n cap) n (rowN X n)) : RdN w xa n X := by
  obtain ⟨xa', cap', hv, _, _, hr⟩ := rdN_of_own h
  cases hv
  exact hr
/-- What is owned stays so where all that was there is as it was. -/
theorem ownS_below {w w' : World} {B e z : Nat} {v : Value} {n : Nat} {xs : List Value} (h : w.ownsRow B e z v n xs) (hb : Below w.heap.size w w') : w'.ownsRow B e z v n xs := by
  refine ⟨h.1, ?_⟩
  rcases h.2 with h2 | ⟨g, cap, cur, h1, h2, h3, h4⟩
  · exact .inl h2
  · refine .inr ⟨g, cap, cur, h1, h2, ?_, h4⟩
    have hg : g < w.heap.size := (Array.getElem?_eq_some_iff.1 h3).1
    rw [hb.block g hg]
    exact h3
def zln : Ln := ⟨0, 0, 0, 0⟩
theorem madeN (n : Nat) : (madeCells #[Value.float .f32 0, Value.float .f32 0, Value.float .f32 0, Value.int .i64 0] (n * 4)).toList = rowN (fun _ => zln) n := by
  apply List.ext_getElem?
  intro i
  have hL : ∀ (f : Nat → Value) (m : Nat), ((Array.range m).map f).toList = (List.range m).map f := fun f m => by simp
  unfold madeCells
  rw [hL, List.getElem?_map]
  by_cases hi : i < n * 4
  · rw [List.getElem?_range hi]
    obtain ⟨q, r, rfl, hr⟩ : ∃ q r, i = q * 4 + r ∧ r < 4 := ⟨i / 4, i % 4, by omega, by omega⟩
    rw [rowN_get _ _ _ _ (by omega) hr]
    have hm : (q * 4 + r) % 4 = r := by omega
    show some (#[Value.float .f32 0, Value.float .f32 0, Value.float .f32 0, Value.int .i64 0][(q * 4 + r) % 4]!) = _
    rw [hm]
    rcases (by omega : r = 0 ∨ r = 1 ∨ r = 2 ∨ r = 3) with rfl | rfl | rfl | rfl <;> rfl
  · rw [List.getElem?_eq_none (by simp; omega), List.getElem?_eq_none (by rw [rowN_length]; omega)]
    rfl
/-- A copy that is a list of the call's own. -/
def CopiedN (w : World) (n : Nat) (X : Nat → Ln) (e : Ending) (w' : World) : Prop :=
  e = .returned (.slice (some ⟨w.heap.size, 0, none⟩) n n) ∧ w'.ownsRow w.heap.size 120 4 (.slice (some ⟨w.heap.size, 0, none⟩) n n) n (rowN X n) ∧ Below w.heap.size w w'
set_option maxRecDepth 100000 in
set_option maxHeartbeats 3200000 in
theorem toN_any (xa : Option Addr) (n cap : Nat) (X : Nat → Ln) (w : World) (hX : RdN w xa n X) (hn : n ≤ 1048576) :
    Calls Try.prog 35 #[.slice xa n cap] w (CopiedN w n X) := by
  obtain ⟨i0, hi, hz0, hz1, hz2⟩ := info_parts infoN
  obtain ⟨xb, xo, hxa, hcell⟩ := hX
  have HC := Lib.hid hcell
  clear hcell
  have hb : i0.bytes * n ≤ 281474976710656 := by rw [hz2]; omega
  have hm : n ≤ maxLen := by unfold maxLen; omega
  go_enter Try.func35, Try.ntmps35
  go_wp2_with (at_make; refine wpList_make_full _ rfl _ _ 51 rfl w.heap.size 120 i0 (.agg #[.float .f32 0, .float .f32 0, .float .f32 0, .int .i64 0]) 4 Try.underlying51 hi hz0 hz1 _ _ _ _ n rfl rfl rfl rfl hb hm (Nat.le_refl _) ?_)
  intro w1 hown hgr
  rw [madeN] at hown
  have hB : Below w.heap.size w w1 := (Below.refl _ w).grown hgr (Nat.le_refl _) (fun _ h => by cases h)
  clear hgr hb hm hi hz0 hz1 hz2
  go_wp2
  go_loopw [4] (fun i wr => ∃ k : Nat, k ≤ n ∧ i = .int .i64 k ∧ wr.ownsRow w.heap.size 120 4 (.slice (some ⟨w.heap.size, 0, none⟩) n n) n (rowN (fun j => if j < k then X j else zln) n) ∧ Below w.heap.size w wr) (fun i _ => n - (intOf i).toNat)
  case atStart => exact ⟨0, Nat.zero_le _, rfl, by simpa using hown, hB⟩
  case round =>
    obtain ⟨k, hk, rfl, hownk, hBk⟩ := hrel
    clear hown hB
    by_cases hlt : k < n
    · have e := hxa (by omega)
      subst e
      obtain ⟨r0, r1, r2, r3⟩ := LnAt.below (HC.out k hlt) hBk
      have hsz := hBk.size
      go_wp2_with (go_at_call 95; refine (toLine_any _ _ _ _ _).mono ?_; rintro e w2 ⟨rfl, B0⟩; have O2 := ownS_below hownk B0; have B2 := hBk.trans (B0.mono hsz); obtain ⟨c0, c1, c2, c3⟩ := ownN_cells O2 hlt; have f0 := O2.frozenAt (k * 4); have f1 := O2.frozenAt (k * 4 + 1); have f2 := O2.frozenAt (k * 4 + 2); have f3 := O2.frozenAt (k * 4 + 3); have hst := run_store_f32; have hst2 := run_store_i64; have HO := Lib.hid O2; clear O2 hownk r0 r1 r2 r3)
      go_roundw
      case rel =>
        refine ⟨k + 1, by omega, by go_num, ?_, ?_⟩
        · have h5 := ownN_stored HO.out k (X k) hlt
          rw [rowN_congr (Y := fun j => if j < k + 1 then X j else zln) (fun j _ => by
            by_cases hj : j = k
            · subst hj; simp
            · rw [if_neg hj]; by_cases hj2 : j < k
              · rw [if_pos hj2, if_pos (by omega)]
              · rw [if_neg hj2, if_neg (by omega)])] at h5
          exact h5
        · exact (((B2.setCell (Nat.le_refl _) _).setCell (Nat.le_refl _) _).setCell (Nat.le_refl _) _).setCell (Nat.le_refl _) _
      case measure => simp [intOf]; omega
    · have hkn : k = n := by omega
      subst hkn
      have hown' : wr.ownsRow w.heap.size 120 4 (.slice (some ⟨w.heap.size, 0, none⟩) k k) k (rowN X k) := by
        rw [rowN_congr (Y := X) (fun j hj => by rw [if_pos hj])] at hownk
        exact hownk
      clear hownk
      go_wp2
      go_ret
      exact ⟨rfl, hown', hBk⟩
set_option maxRecDepth 100000 in
set_option maxHeartbeats 1600000 in
theorem eqLine_any (a b c : Nat) (d : Int) (a' b' c' : Nat) (ha : canon .f32 a' = canon .f32 a) (hb : canon .f32 b' = canon .f32 b) (hc : canon .f32 c' = canon .f32 c) (w : World) : Calls Try.prog 99 #[.agg #[.float .f32 a, .float .f32 b, .float .f32 c, .int .i64 d], .agg #[.float .f32 a', .float .f32 b', .float .f32 c', .int .i64 d]] w fun e w' => e = .returned (.bool true) ∧ Below w.heap.size w w' := by
  have hcv : ∀ (x x' s t : Nat), canon .f32 x' = canon .f32 x → canon .f64 (pick .f64 (fconv .f32 x .f64) s) = canon .f64 (pick .f64 (fconv .f32 x' .f64) t) := fun x x' s t h => by rw [canon_pick, canon_pick, fconv_congr h]
  have HC := Lib.hid hcv
  clear hcv
  have hne : (d != d) = false := by simp
  go_enter Try.func99, Try.ntmps99
  go_wp2_with (first | ((with_reducible refine wpL_fconv ?_); refine ⟨_, _, _, rfl, Option.isSome_iff_exists.2 ⟨_, Try.underlying22⟩, Try.underlying76, FloatKind.noConfusion, convOk_widen _, fun s n => ?_⟩))
  refine (sameFloat_any _ _ _ (HC.out _ _ _ _ ha)).mono ?_
  rintro e w' ⟨rfl, q, rfl⟩
  go_wp2_with (first | ((with_reducible refine wpL_fconv ?_); refine ⟨_, _, _, rfl, Option.isSome_iff_exists.2 ⟨_, Try.underlying22⟩, Try.underlying76, FloatKind.noConfusion, convOk_widen _, fun s n => ?_⟩))
  refine (sameFloat_any _ _ _ (HC.out _ _ _ _ hb)).mono ?_
  rintro e w' ⟨rfl, q2, rfl⟩
  go_wp2_with (first | ((with_reducible refine wpL_fconv ?_); refine ⟨_, _, _, rfl, Option.isSome_iff_exists.2 ⟨_, Try.underlying22⟩, Try.underlying76, FloatKind.noConfusion, convOk_widen _, fun s n => ?_⟩))
  refine (sameFloat_any _ _ _ (HC.out _ _ _ _ hc)).mono ?_
  rintro e w' ⟨rfl, q3, rfl⟩
  go_wp2
  go_ret
  refine ⟨rfl, ?_⟩
  (repeat (first | with_reducible exact Below.refl _ _ | with_reducible refine Below.drewN ?_ _ | with_reducible refine Below.setCell ?_ (by simp; try omega) _ | with_reducible refine Below.alloc ?_ (by simp; try omega) _))
/-- Lines that are the same but for the bits of not-a-numbers. -/
def LikeN (X Y : Nat → Ln) (n : Nat) : Prop := ∀ i, i < n → canon .f32 (X i).p = canon .f32 (Y i).p ∧ canon .f32 (X i).h = canon .f32 (Y i).h ∧ canon .f32 (X i).d = canon .f32 (Y i).d ∧ (X i).k = (Y i).k
theorem LikeN.refl (X : Nat → Ln) (n : Nat) : LikeN X X n := fun _ _ => ⟨rfl, rfl, rfl, rfl⟩
set_option maxRecDepth 100000 in
set_option maxHeartbeats 1600000 in
theorem eqN_any (xa ya : Option Addr) (n cx cy : Nat) (X Y : Nat → Ln) (w : World) (hX : RdN w xa n X) (hY : RdN w ya n Y) (hn : n ≤ 1048576) (hL : LikeN X Y n) :
    Calls Try.prog 37 #[.slice xa n cx, .slice ya n cy] w fun e w' => e = .returned (.bool true) ∧ Below w.heap.size w w' := by
  obtain ⟨xb, xo, hxa, hcx⟩ := hX
  obtain ⟨yb, yo, hya, hcy⟩ := hY
  have HX := Lib.hid hcx
  have HY := Lib.hid hcy
  have HL := Lib.hid hL
  clear hcx hcy hL
  have hnn : ((n : Int) != (n : Int)) = false := by simp
  go_enter Try.func37, Try.ntmps37
  go_wp2
  go_loopw [5] (fun i wr => ∃ k : Nat, k ≤ n ∧ i = .int .i64 k ∧ Below w.heap.size w wr) (fun i _ => n - (intOf i).toNat)
  case atStart => exact ⟨0, Nat.zero_le _, rfl, Below.refl _ _⟩
  case round =>
    obtain ⟨k, hk, rfl, hBk⟩ := hrel
    by_cases hlt : k < n
    · have e := hxa (by omega)
      subst e
      have e := hya (by omega)
      subst e
      obtain ⟨r0, r1, r2, r3⟩ := LnAt.below (HX.out k hlt) hBk
      obtain ⟨s0, s1, s2, s3⟩ := LnAt.below (HY.out k hlt) hBk
      have hi0 : (k : Int) < (n : Int) := by omega
      have HE := Lib.hid (fun w => eqLine_any (X k).p (X k).h (X k).d (X k).k (Y k).p (Y k).h (Y k).d (HL.out k hlt).1.symm (HL.out k hlt).2.1.symm (HL.out k hlt).2.2.1.symm w)
      have hkk : (Y k).k = (X k).k := (HL.out k hlt).2.2.2.symm
      rw [hkk] at s3
      have hsz := hBk.size
      go_wp2_with fail
      go_still_tail 8, (by kernel_rfl)
      change wpList _ _ _ _ _ wr.drew
      go_wp2_with (go_at_call 99; refine (HE.out _).mono ?_; rintro e w2 ⟨rfl, B0⟩; have B2 : Below w.heap.size w w2 := Below.trans (Below.drewN hBk 1) (B0.mono hsz))
      go_roundw
      case rel => exact ⟨k + 1, by omega, by go_num, B2⟩
      case measure => simp [intOf]; omega
    · have hkn : k = n := by omega
      subst hkn
      go_wp2
      go_ret
      exact ⟨rfl, hBk⟩

/- Whether a list has lines: as the model asks it, and as the program does. -/

def okLn (l : Ln) : Bool := okLin l.p l.h l.d l.k
def allLn (X : Nat → Ln) (n : Nat) : Bool := (List.range n).all fun i => okLn (X i)
theorem allLn_no {X : Nat → Ln} {n k : Nat} (hk : k < n) (h : okLn (X k) = false) : allLn X n = false := by
  unfold allLn
  rw [List.all_eq_false]
  exact ⟨k, List.mem_range.2 hk, by simp [h]⟩
theorem allLn_yes {X : Nat → Ln} {n : Nat} (h : ∀ k, k < n → okLn (X k) = true) : allLn X n = true := by
  unfold allLn
  rw [List.all_eq_true]
  exact fun k hk => h k (List.mem_range.1 hk)
theorem allLn_at {X : Nat → Ln} {n : Nat} (h : allLn X n = true) : ∀ k, k < n → okLn (X k) = true := by
  unfold allLn at h
  rw [List.all_eq_true] at h
  exact fun k hk => h k (List.mem_range.2 hk)
set_option maxRecDepth 100000 in
set_option maxHeartbeats 1600000 in
theorem l05Lines_any (xa : Option Addr) (n cap : Nat) (X : Nat → Ln) (w : World) (hX : RdN w xa n X) (hn : n ≤ 1048576) (R : Bool) (hR : Hid (R = (allLn X n && decide (n ≤ 12)))) :
    Calls Try.prog 93 #[.slice xa n cap] w fun e w' => e = .returned (.bool R) ∧ ∃ m, w' = w.drewN m := by
  obtain ⟨xb, xo, hxa, hcx⟩ := hX
  have HX := Lib.hid hcx
  clear hcx
  go_enter Try.func93, Try.ntmps93
  go_wp2
  go_loopw [6] (fun i wr => ∃ k m : Nat, k ≤ n ∧ i = .int .i64 k ∧ wr = w.drewN m ∧ Hid (∀ j, j < k → okLn (X j) = true)) (fun i _ => n - (intOf i).toNat)
  case atStart => exact ⟨0, 0, Nat.zero_le _, rfl, rfl, Lib.hid fun j hj => absurd hj (Nat.not_lt_zero _)⟩
  case round =>
    obtain ⟨k, m, hk, rfl, rfl, HF⟩ := hrel
    by_cases hlt : k < n
    · have e := hxa (by omega)
      subst e
      have HV := Lib.hid (l05Line_any xb (xo + k * 4) (X k).p (X k).h (X k).d (X k).k (w.drewN m) (HX.out k hlt))
      cases c : okLn (X k)
      · have c' : okLin (X k).p (X k).h (X k).d (X k).k = false := c
        rw [c'] at HV
        have HQ := Lib.hid (show false = R by rw [hR.out, allLn_no hlt c]; rfl)
        clear c c'
        go_wp2_with (go_at_call 169; refine HV.out.mono ?_; rintro e w' ⟨rfl, q, rfl⟩)
        go_ret
        exact ⟨ret_bool HQ.out, _, rfl⟩
      · have c' : okLin (X k).p (X k).h (X k).d (X k).k = true := c
        rw [c'] at HV
        have HN := Lib.hid (show ∀ j, j < k + 1 → okLn (X j) = true from fun j hj => by
          by_cases hj' : j < k
          · exact HF.out j hj'
          · rw [show j = k by omega]; exact c)
        clear c c'
        go_wp2_with (go_at_call 169; refine HV.out.mono ?_; rintro e w' ⟨rfl, q, rfl⟩)
        go_roundw
        case rel => exact ⟨k + 1, _, by omega, by go_num, rfl, HN⟩
        case measure => simp [intOf]; omega
    · have hkn : k = n := by omega
      subst hkn
      have HQ := Lib.hid (show decide ((k : Int) ≤ 12) = R by
        rw [hR.out, allLn_yes HF.out, Bool.true_and]
        exact decide_eq_decide.2 (by omega))
      go_wp2
      go_ret
      exact ⟨ret_bool HQ.out, m, rfl⟩
set_option maxRecDepth 100000 in
set_option maxHeartbeats 800000 in
theorem badLine_any (l : Ln) (w : World) (R : Bool) (hR : Hid (R = !okLn l)) : Calls Try.prog 171 #[.agg #[.float .f32 l.p, .float .f32 l.h, .float .f32 l.d, .int .i64 l.k]] w fun e w' => e = .returned (.bool R) ∧ Below w.heap.size w w' := by
  have HB := (Below.refl _ w).alloc (Nat.le_refl _) (.cells #[.float .f32 l.p, .float .f32 l.h, .float .f32 l.d, .int .i64 l.k] 120)
  have HV := Lib.hid (fun w => implVL_any l.p l.h l.d l.k w)
  obtain ⟨b, hb⟩ : ∃ b, b = okLin l.p l.h l.d l.k := ⟨_, rfl⟩
  rw [← hb] at HV
  have HQ := Lib.hid (show (!b) = R by rw [hR.out, okLn, hb])
  clear hb
  go_enter Try.func171, Try.ntmps171
  go_wp2_with (go_at_call 172; refine (HV.out _).mono ?_; rintro e w1 ⟨rfl, B0⟩)
  go_ret
  exact ⟨ret_bool HQ.out, HB.trans (B0.mono HB.size)⟩
def OddLn (w : World) (b : Bool) (e : Ending) (w' : World) : Prop := ∃ r : Int, e = .returned (.int .i64 r) ∧ -1 ≤ r ∧ decide (0 ≤ r) = !b ∧ Below w.heap.size w w'
set_option maxRecDepth 100000 in
set_option maxHeartbeats 1600000 in
theorem indexLn_any (xa : Option Addr) (n cap : Nat) (X : Nat → Ln) (w : World) (hX : RdN w xa n X) (hn : n ≤ 1048576) :
    Calls Try.prog 220 #[.slice xa n cap, .func (.func 171) #[] #[]] w (OddLn w (allLn X n)) := by
  obtain ⟨xb, xo, hxa, hcx⟩ := hX
  have HX := Lib.hid hcx
  obtain ⟨R, hR⟩ : ∃ R, R = allLn X n := ⟨_, rfl⟩
  rw [← hR]
  have HR := Lib.hid hR
  clear hcx hR
  go_enter Try.func220, Try.ntmps220
  go_wp2
  go_loopw [8] (fun i wr => ∃ k : Nat, k ≤ n ∧ i = .int .i64 k ∧ Below w.heap.size w wr ∧ Hid (∀ j, j < k → okLn (X j) = true)) (fun i _ => n - (intOf i).toNat)
  case atStart => exact ⟨0, Nat.zero_le _, rfl, Below.refl _ _, Lib.hid fun j hj => absurd hj (Nat.not_lt_zero _)⟩
  case round =>
    obtain ⟨k, hk, rfl, hBk, HF⟩ := hrel
    by_cases hlt : k < n
    · have e := hxa (by omega)
      subst e
      obtain ⟨r0, r1, r2, r3⟩ := LnAt.below (HX.out k hlt) hBk
      have hsz := hBk.size
      cases c : okLn (X k)
      · have HO := Lib.hid (fun w => badLine_any (X k) w true (Lib.hid (by rw [c]; rfl)))
        have HN := Lib.hid (show R = false by rw [HR.out, allLn_no hlt c])
        go_wp2_with (go_at_call 171; refine (HO.out _).mono ?_; rintro e w2 ⟨rfl, B0⟩; have B2 := hBk.trans (B0.mono hsz))
        go_ret
        exact ⟨k, rfl, by omega, by rw [HN.out]; simp, B2⟩
      · have HO := Lib.hid (fun w => badLine_any (X k) w false (Lib.hid (by rw [c]; rfl)))
        have HN := Lib.hid (show ∀ j, j < k + 1 → okLn (X j) = true from fun j hj => by
          by_cases hj' : j < k
          · exact HF.out j hj'
          · rw [show j = k by omega]; exact c)
        go_wp2_with (go_at_call 171; refine (HO.out _).mono ?_; rintro e w2 ⟨rfl, B0⟩; have B2 := hBk.trans (B0.mono hsz))
        go_roundw
        case rel => exact ⟨k + 1, by omega, by go_num, B2, HN⟩
        case measure => simp [intOf]; omega
    · have hkn : k = n := by omega
      subst hkn
      have HN := Lib.hid (show R = true by rw [HR.out, allLn_yes HF.out])
      go_wp2
      go_ret
      exact ⟨-1, rfl, by omega, by rw [HN.out]; simp, hBk⟩
set_option maxRecDepth 100000 in
set_option maxHeartbeats 1600000 in
theorem areLines_any (xa : Option Addr) (n cap : Nat) (X : Nat → Ln) (M : Nat) (w : World) (hX : RdN w xa n X) (hn : n ≤ 1048576) (R : Bool) (hR : Hid (R = (allLn X n && decide (n ≤ M)))) :
    Calls Try.prog 96 #[.slice xa n cap, .int .i64 (M : Int)] w fun e w' => e = .returned (.bool R) ∧ Below w.heap.size w w' := by
  have hdec : decide ((n : Int) ≤ (M : Int)) = decide (n ≤ M) := decide_eq_decide.2 (by omega)
  by_cases h : n ≤ M
  · have d : decide ((n : Int) ≤ (M : Int)) = true := by rw [hdec, decide_eq_true h]
    have HQ := Lib.hid (show allLn X n = R by rw [hR.out, decide_eq_true h, Bool.and_true])
    clear hdec
    go_enter Try.func96, Try.ntmps96
    go_wp2_with (first | (go_at_call 220; refine (indexLn_any _ _ _ X _ (by exact hX) hn).mono ?_; rintro e w' ⟨r, rfl, hr, hd, B0⟩) | go_in)
    go_ret
    refine ⟨ret_bool ?_, B0⟩
    have hQ := HQ.out
    clear HQ
    rw [← hQ]
    try simp_all
  · have d : decide ((n : Int) ≤ (M : Int)) = false := by rw [hdec, decide_eq_false h]
    have HQ := Lib.hid (show false = R by rw [hR.out, decide_eq_false h, Bool.and_false])
    clear hdec
    go_enter Try.func96, Try.ntmps96
    go_wp2
    go_ret
    exact ⟨ret_bool HQ.out, Below.refl _ _⟩

end Go.Proofs.Ytmpcalpapkedhaa
