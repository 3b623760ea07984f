/- For all numbers the program tells the orders that a grating sends out just where the model does, and the same: for all arguments. -/
import Derived.Test.YtfnapaijfdiflaaGro
import Derived.Test.YtfnapaijfdiflaaIntL
namespace Go.Proofs.Ytfnapaijfdiflaa
open Go Go.ChangeShapes Go.WideShapes Go.ChangeAt Go.RowKit

/-- What is told of GratingOrders. -/
def RetGratingOrders (R0 : Nat → Int) (m0 : Nat) (r1 : Bool) (w : World) (e : Ending) (w' : World) : Prop := ∃ (v0 : Value), e = .returned (.tuple #[v0, .bool r1]) ∧ w'.ownsRow w.heap.size 2 1 v0 m0 (rowI R0 m0) ∧ m0 ≤ 1048576 ∧ Below w.heap.size w w'
/-- The orders among the first k. -/
def ords (x g t : Nat) : Nat → List Int
  | 0 => []
  | k + 1 => if in1 (groD x g t ((k : Int) - 100)) = true then ords x g t k ++ [(k : Int) - 100] else ords x g t k
def ordR (L : List Int) (j : Nat) : Int := L.getD j 0
theorem ordR_push (L : List Int) (x : Int) : rowI (fun j => if j = L.length then x else ordR L j) (L.length + 1) = rowI (ordR (L ++ [x])) (L ++ [x]).length := by
  rw [show (L ++ [x]).length = L.length + 1 by simp]
  refine rowI_congr fun j hj => ?_
  unfold ordR
  by_cases e : j = L.length
  · subst e; simp
  · rw [if_neg e, List.getD_eq_getElem?_getD, List.getD_eq_getElem?_getD, List.getElem?_append_left (by omega)]
theorem ords_len (x g t : Nat) : ∀ k, (ords x g t k).length ≤ k := by
  intro k
  induction k with
  | zero => exact Nat.le_refl _
  | succ k ih =>
    unfold ords
    split
    · rw [List.length_append]
      exact Nat.succ_le_succ ih
    · omega
theorem grsNo {R : Nat → Int} {w w' : World} (hb : Below w.heap.size w w') : RetGratingOrders R 0 false w (.returned (.tuple #[.slice none 0 0, .bool false])) w' :=
  ⟨_, rfl, World.ownsRow_nil _ _ _ _, Nat.zero_le _, hb⟩
def okGrs (x g t : Nat) : Bool := (isP x && isP g) && isFin .f32 t
theorem okGrs_at {x g t : Nat} (h : okGrs x g t = true) {k : Nat} (hk : k < 201) : okGro x g t ((k : Int) - 100) = true := by
  unfold okGrs at h
  rw [Bool.and_eq_true] at h
  rw [okGro, h.1, h.2, inB_yes (by omega) (by omega)]; rfl
set_option maxRecDepth 100000 in
set_option maxHeartbeats 1600000 in
theorem outS_any (x g t : Nat) (k : Int) (w : World) (D : Nat) (b : Bool) (hD : Hid (D = groD x g t k)) (hb : Hid (b = in1 D)) :
    Calls Try.prog 50 #[.float .f32 x, .float .f32 g, .float .f32 t, .int .i64 k] w fun e w' => (∃ s, e = .returned (.tuple #[.float .f32 (pick .f32 D s), .bool b])) ∧ ∃ m, w' = w.drewN m := by
  have hp := fun op => fbin_pick_l op .f32
  have ho1 := order_pick_l .f32
  have eD : fbin .sub .f32 (fbin .quo .f32 (fbin .mul .f32 (floatOfInt .f32 k) x) g) t = D := hD.out.symm
  cases c : (FloatKind.f32.format.order D 3212836864 == some .gt || FloatKind.f32.format.order D 3212836864 == some .eq)
  · have HN := Lib.hid (show false = b by rw [hb.out, in1, c]; rfl)
    clear hD hb
    go_enter Try.func50, Try.ntmps50
    go_wp2_with (first | ((with_reducible refine wpL_fbin ?_); refine ⟨_, _, _, rfl, rfl, rfl, fun s n => ?_⟩) | ((with_reducible refine wpL_fsame ?_); refine ⟨_, _, rfl, Option.isSome_iff_exists.2 ⟨_, Try.underlying22⟩, Try.underlying22, ?_⟩))
    go_ret2
    exact ⟨⟨_, by rw [← HN.out]; rfl⟩, _, rfl⟩
  · have HN := Lib.hid (show (FloatKind.f32.format.order D 1065353216 == some .lt || FloatKind.f32.format.order D 1065353216 == some .eq) = b by rw [hb.out, in1, c]; rfl)
    clear hD hb
    go_enter Try.func50, Try.ntmps50
    go_wp2_with (first | ((with_reducible refine wpL_fbin ?_); refine ⟨_, _, _, rfl, rfl, rfl, fun s n => ?_⟩) | ((with_reducible refine wpL_fsame ?_); refine ⟨_, _, rfl, Option.isSome_iff_exists.2 ⟨_, Try.underlying22⟩, Try.underlying22, ?_⟩))
    go_ret2
    exact ⟨⟨_, by rw [← HN.out]; rfl⟩, _, rfl⟩
set_option maxRecDepth 100000 in
set_option maxHeartbeats 3200000 in
theorem specGrs_no (x g t : Nat) (w : World) (R : Nat → Int) (hk : okGrs x g t = false) : Calls Try.prog 42 #[.float .f32 x, .float .f32 g, .float .f32 t] w (RetGratingOrders R 0 false w) := by
  cases c1 : isP x
  · skip
    clear hk
    go_enter Try.func42, Try.ntmps42
    go_wp2_with (first | (go_at_call 48; refine (l01Finite_any _ _).mono ?_; rintro e w' ⟨rfl, q, rfl⟩) | (go_at_call 47; refine (l02Above_any _ _).mono ?_; rintro e w' ⟨rfl, q, rfl⟩))
    go_ret2
    refine grsNo ?_
    (repeat (first | with_reducible exact Below.refl _ _ | with_reducible refine Below.drewN ?_ _ | with_reducible refine Below.setCell ?_ (by simp; try omega) _ | with_reducible refine Below.alloc ?_ (by simp; try omega) _))
  · skip
    cases c2 : isP g
    · skip
      clear hk
      go_enter Try.func42, Try.ntmps42
      go_wp2_with (first | (go_at_call 48; refine (l01Finite_any _ _).mono ?_; rintro e w' ⟨rfl, q, rfl⟩) | (go_at_call 47; refine (l02Above_any _ _).mono ?_; rintro e w' ⟨rfl, q, rfl⟩))
      go_ret2
      refine grsNo ?_
      (repeat (first | with_reducible exact Below.refl _ _ | with_reducible refine Below.drewN ?_ _ | with_reducible refine Below.setCell ?_ (by simp; try omega) _ | with_reducible refine Below.alloc ?_ (by simp; try omega) _))
    · skip
      cases c3 : isFin .f32 t
      · skip
        clear hk
        go_enter Try.func42, Try.ntmps42
        go_wp2_with (first | (go_at_call 48; refine (l01Finite_any _ _).mono ?_; rintro e w' ⟨rfl, q, rfl⟩) | (go_at_call 47; refine (l02Above_any _ _).mono ?_; rintro e w' ⟨rfl, q, rfl⟩))
        go_ret2
        refine grsNo ?_
        (repeat (first | with_reducible exact Below.refl _ _ | with_reducible refine Below.drewN ?_ _ | with_reducible refine Below.setCell ?_ (by simp; try omega) _ | with_reducible refine Below.alloc ?_ (by simp; try omega) _))
      · skip
        exfalso
        rw [okGrs, c1, c2, c3] at hk
        cases hk
set_option maxRecDepth 100000 in
set_option maxHeartbeats 3200000 in
theorem implGrs_no (x g t : Nat) (w : World) (R : Nat → Int) (hk : okGrs x g t = false) : Calls Try.prog 43 #[.float .f32 x, .float .f32 g, .float .f32 t] w (RetGratingOrders R 0 false w) := by
  have hf := pL_two x g
  cases c1 : pL (duo x g) 2
  · skip
    clear hk hf
    go_enter Try.func43, Try.ntmps43
    go_wp2_with (first | (go_at_call 52; refine (IsFinite_any _ _).mono ?_; rintro e w' ⟨rfl, q, rfl⟩) | (go_at_call 51; refine (areGtz_any _ _ _ (duo _ _) _ (by exact rd_two' _ _ _ _ (by simp)) (by omega)).mono ?_; rintro e w' ⟨rfl, q, rfl⟩))
    go_ret2
    refine grsNo ?_
    (repeat (first | with_reducible exact Below.refl _ _ | with_reducible refine Below.drewN ?_ _ | with_reducible refine Below.setCell ?_ (by simp; try omega) _ | with_reducible refine Below.alloc ?_ (by simp; try omega) _))
  · skip
    cases c2 : isFin .f32 t
    · skip
      clear hk hf
      go_enter Try.func43, Try.ntmps43
      go_wp2_with (first | (go_at_call 52; refine (IsFinite_any _ _).mono ?_; rintro e w' ⟨rfl, q, rfl⟩) | (go_at_call 51; refine (areGtz_any _ _ _ (duo _ _) _ (by exact rd_two' _ _ _ _ (by simp)) (by omega)).mono ?_; rintro e w' ⟨rfl, q, rfl⟩))
      go_ret2
      refine grsNo ?_
      (repeat (first | with_reducible exact Below.refl _ _ | with_reducible refine Below.drewN ?_ _ | with_reducible refine Below.setCell ?_ (by simp; try omega) _ | with_reducible refine Below.alloc ?_ (by simp; try omega) _))
    · skip
      exfalso
      rw [okGrs, ← hf, c1, c2] at hk
      cases hk
set_option maxRecDepth 100000 in
set_option maxHeartbeats 6400000 in
theorem specGrs_yes (x g t : Nat) (w : World) (hk : okGrs x g t = true) (O : Nat → List Int) (hO : Hid (O = ords x g t)) :
    Calls Try.prog 42 #[.float .f32 x, .float .f32 g, .float .f32 t] w (RetGratingOrders (ordR (O 201)) (O 201).length true w) := by
  obtain ⟨i0, hi, hz0, hz1, hz2⟩ := info_parts infoI
  have h1 : (isP x = true ∧ isP g = true) ∧ isFin .f32 t = true := by simpa [okGrs] using hk
  obtain ⟨⟨h1, h2⟩, h3⟩ := h1
  have HG := Lib.hid (fun k hk' => okGrs_at (k := k) hk hk')
  have HL := Lib.hid (show ∀ k, (O k).length ≤ k from fun k => by rw [hO.out]; exact ords_len x g t k)
  have HS := Lib.hid (show ∀ k, O (k + 1) = if in1 (groD x g t ((k : Int) - 100)) = true then O k ++ [(k : Int) - 100] else O k from fun k => by rw [hO.out]; rfl)
  have H0 : O 0 = [] := by rw [hO.out]; rfl
  clear hk hO
  go_enter Try.func42, Try.ntmps42
  go_wp2_with (first | (go_at_call 48; refine (l01Finite_any _ _).mono ?_; rintro e w' ⟨rfl, q, rfl⟩) | (go_at_call 47; refine (l02Above_any _ _).mono ?_; rintro e w' ⟨rfl, q, rfl⟩))
  go_loopw [8, 9] (fun v i wr => ∃ k : Nat, k ≤ 201 ∧ i = .int .i64 ((k : Int) - 100) ∧ wr.ownsRow w.heap.size 2 1 v (O k).length (rowI (ordR (O k)) (O k).length) ∧ Below w.heap.size w wr) (fun _ i _ => (101 - intOf i).toNat)
  case atStart =>
    refine ⟨0, by omega, rfl, ?_, Below.alloc (Below.drewN (Below.refl _ _) _) (Nat.le_refl _) _⟩
    rw [H0]
    exact ownI_empty _ _
  case round =>
    obtain ⟨k, hk, rfl, hownk, hBk⟩ := hrel
    have hsz := hBk.size
    by_cases hlt : k < 201
    · have hle := HL.out k
      obtain ⟨D, hD⟩ : ∃ D, D = groD x g t ((k : Int) - 100) := ⟨_, rfl⟩
      have HC := Lib.hid (fun (b : Bool) hb w => outS_any x g t ((k : Int) - 100) w D b (Lib.hid hD) hb)
      have HK := Lib.hid (HG.out k hlt)
      have HE := Lib.hid (HS.out k)
      rw [← hD] at HE
      have HDD := Lib.hid hD
      clear hD
      cases b : in1 D
      · have HE' := Lib.hid (show O (k + 1) = O k by rw [HE.out, b, if_neg (by simp)])
        go_wp2_with (go_at_call 50; refine (HC.out false (Lib.hid b.symm) _).mono ?_; rintro e w' ⟨⟨s', rfl⟩, m', rfl⟩)
        go_roundw
        case rel => exact ⟨k + 1, by omega, by go_num, by rw [HE'.out]; exact hownk, Below.drewN hBk _⟩
        case measure => simp [intOf]; omega
      · have HE' := Lib.hid (show O (k + 1) = O k ++ [(k : Int) - 100] by rw [HE.out, b, if_pos rfl])
        go_wp2_with (first | (go_at_call 50; refine (HC.out true (Lib.hid b.symm) _).mono ?_; rintro e w' ⟨⟨s', rfl⟩, m', rfl⟩) | (at_builtin; refine wpL_pushI hi hz0 hz1 hz2 rfl rfl rfl rfl (by rfl) (by exact hownk) (by omega) (by exact hsz) ?_; intro v' w1 hown' hB'))
        go_roundw
        case rel => exact ⟨k + 1, by omega, by go_num, by rw [HE'.out, ← ordR_push, List.length_append]; exact hown', Below.trans (Below.drewN hBk _) hB'⟩
        case measure => simp [intOf]; omega
    · have hkn : k = 201 := by omega
      subst hkn
      have hle := HL.out 201
      go_wp2
      go_ret2
      exact ⟨_, rfl, hownk, by omega, hBk⟩
set_option maxRecDepth 100000 in
set_option maxHeartbeats 6400000 in
theorem implGrs_yes (x g t : Nat) (w : World) (hk : okGrs x g t = true) (O : Nat → List Int) (hO : Hid (O = ords x g t)) :
    Calls Try.prog 43 #[.float .f32 x, .float .f32 g, .float .f32 t] w (RetGratingOrders (ordR (O 201)) (O 201).length true w) := by
  obtain ⟨i0, hi, hz0, hz1, hz2⟩ := info_parts infoI
  have h1 : (isP x = true ∧ isP g = true) ∧ isFin .f32 t = true := by simpa [okGrs] using hk
  obtain ⟨⟨h1, h2⟩, h3⟩ := h1
  have hf : pL (duo x g) 2 = true := by rw [pL_two, h1, h2]; rfl
  have HG := Lib.hid (fun k hk' => okGrs_at (k := k) hk hk')
  have HL := Lib.hid (show ∀ k, (O k).length ≤ k from fun k => by rw [hO.out]; exact ords_len x g t k)
  have HS := Lib.hid (show ∀ k, O (k + 1) = if in1 (groD x g t ((k : Int) - 100)) = true then O k ++ [(k : Int) - 100] else O k from fun k => by rw [hO.out]; rfl)
  have H0 : O 0 = [] := by rw [hO.out]; rfl
  clear hk hO
  go_enter Try.func43, Try.ntmps43
  go_wp2_with (first | (go_at_call 52; refine (IsFinite_any _ _).mono ?_; rintro e w' ⟨rfl, q, rfl⟩) | (go_at_call 51; refine (areGtz_any _ _ _ (duo _ _) _ (by exact rd_two' _ _ _ _ (by simp)) (by omega)).mono ?_; rintro e w' ⟨rfl, q, rfl⟩))
  go_loopw [8, 9] (fun v i wr => ∃ k : Nat, k ≤ 201 ∧ i = .int .i64 ((k : Int) - 100) ∧ wr.ownsRow w.heap.size 2 1 v (O k).length (rowI (ordR (O k)) (O k).length) ∧ Below w.heap.size w wr) (fun _ i _ => (101 - intOf i).toNat)
  case atStart =>
    refine ⟨0, by omega, rfl, ?_, Below.drewN (Below.alloc (Below.refl _ _) (Nat.le_refl _) _) _⟩
    rw [H0]
    exact World.ownsRow_nil _ _ _ _
  case round =>
    obtain ⟨k, hk, rfl, hownk, hBk⟩ := hrel
    have hsz := hBk.size
    by_cases hlt : k < 201
    · have hle := HL.out k
      obtain ⟨D, hD⟩ : ∃ D, D = groD x g t ((k : Int) - 100) := ⟨_, rfl⟩
      obtain ⟨a1, ha1⟩ : ∃ a, a = (FloatKind.f32.format.order D 3212836864 == some .gt || FloatKind.f32.format.order D 3212836864 == some .eq) := ⟨_, rfl⟩
      obtain ⟨b1, hb1⟩ : ∃ b, b = (FloatKind.f32.format.order D 1065353216 == some .lt || FloatKind.f32.format.order D 1065353216 == some .eq) := ⟨_, rfl⟩
      have HC := Lib.hid (fun w => implGro_yes x g t ((k : Int) - 100) w (HG.out k hlt) D a1 b1 (Lib.hid hD) (Lib.hid ha1) (Lib.hid hb1))
      have hab : (a1 && b1) = in1 D := by rw [ha1, hb1]; rfl
      rw [hab] at HC
      clear ha1 hb1 hab
      have HK := Lib.hid (HG.out k hlt)
      have HE := Lib.hid (HS.out k)
      rw [← hD] at HE
      have HDD := Lib.hid hD
      clear hD
      cases b : in1 D
      · have HE' := Lib.hid (show O (k + 1) = O k by rw [HE.out, b, if_neg (by simp)])
        rw [b] at HC
        go_wp2_with (go_at_call 16; refine (HC.out _).mono ?_; rintro e w1 ⟨s', rfl, hb1⟩)
        go_roundw
        case rel => exact ⟨k + 1, by omega, by go_num, by rw [HE'.out]; exact own_below hownk hb1, hBk.trans (hb1.mono hBk.size)⟩
        case measure => simp [intOf]; omega
      · have HE' := Lib.hid (show O (k + 1) = O k ++ [(k : Int) - 100] by rw [HE.out, b, if_pos rfl])
        rw [b] at HC
        go_wp2_with (first | (go_at_call 16; refine (HC.out _).mono ?_; rintro e w1 ⟨s', rfl, hb1⟩; have hownk1 := own_below hownk hb1; have hsz1 : w.heap.size ≤ w1.heap.size := Nat.le_trans hsz hb1.size; clear hownk) | (at_builtin; refine wpL_pushI hi hz0 hz1 hz2 rfl rfl rfl rfl (by rfl) (by exact hownk1) (by omega) (by exact hsz1) ?_; intro v' w2 hown' hB'))
        go_roundw
        case rel => exact ⟨k + 1, by omega, by go_num, by rw [HE'.out, ← ordR_push, List.length_append]; exact hown', (hBk.trans (hb1.mono hBk.size)).trans hB'⟩
        case measure => simp [intOf]; omega
    · have hkn : k = 201 := by omega
      subst hkn
      have hle := HL.out 201
      go_wp2
      go_ret2
      exact ⟨_, rfl, hownk, by omega, hBk⟩
theorem bothGratingOrders (x : Nat) (_ : (Lit.float .f32 x).wf = true) (g : Nat) (_ : (Lit.float .f32 g).wf = true) (t : Nat) (_ : (Lit.float .f32 t).wf = true) : ∃ (R : Nat → Int) (c : Nat) (ok : Bool),
    (∀ (w : World), Calls Try.prog 42 #[.float .f32 x, .float .f32 g, .float .f32 t] w (RetGratingOrders R c ok w)) ∧ ∀ (w : World), Calls Try.prog 43 #[.float .f32 x, .float .f32 g, .float .f32 t] w (RetGratingOrders R c ok w) := by
  cases hk : okGrs x g t
  · exact ⟨fun _ => 0, 0, false, fun w => specGrs_no x g t w _ hk, fun w => implGrs_no x g t w _ hk⟩
  · exact ⟨_, _, true, fun w => specGrs_yes x g t w hk _ (Lib.hid rfl), fun w => implGrs_yes x g t w hk _ (Lib.hid rfl)⟩
set_option maxRecDepth 100000 in
set_option maxHeartbeats 6400000 in
theorem lawGratingOrders_in (W : World) (a0 : Nat) (_wf0 : (Lit.float .f32 a0).wf = true) (a1 : Nat) (_wf1 : (Lit.float .f32 a1).wf = true) (a2 : Nat) (_wf2 : (Lit.float .f32 a2).wf = true)  (R0 : Nat → Int) (m0 : Nat) (r1 : Bool) (HS : Hid (∀  (w : World),  Calls Try.prog 42 #[.float .f32 a0, .float .f32 a1, .float .f32 a2] w (RetGratingOrders R0 m0 r1 w))) (HI : Hid (∀  (w : World),  Calls Try.prog 43 #[.float .f32 a0, .float .f32 a1, .float .f32 a2] w (RetGratingOrders R0 m0 r1 w))) :
    Calls Try.prog 14 #[.float .f32 a0, .float .f32 a1, .float .f32 a2] W fun e w' => e = .returned (.bool true) ∧ Below W.heap.size W w' := by
  have hcv := fun (R : Nat) (s t : Nat) => show canon .f64 (pick .f64 (fconv .f32 (pick .f32 R s) .f64) t) = canon .f64 (fconv .f32 R .f64) by rw [canon_pick, fconv_pick]
  have hcw := fun (R : Nat) (s t : Nat) => show canon .f64 (pick .f64 R s) = canon .f64 (pick .f64 R t) by rw [canon_pick, canon_pick]
  have HCV := Lib.hid hcv
  have HCW := Lib.hid hcw
  clear hcv hcw
  have hnb1 : (r1 != r1) = false := by simp
  have HB := Blw.refl W
  go_enter Try.func14, Try.ntmps14
  go_wp2_with fail
  refine (HS.out  _ ).mono ?_
  rintro e0 w1 ⟨vw0, rfl, Ow0, mw0, B0⟩
  replace HB := Blw.next (by exact HB) B0
  clear B0
  obtain ⟨xw0, cw0, rfl, _, _, Rw0⟩ := rdI_of_own Ow0
  clear Ow0
  have HL := Blw.refl w1
  have Eg := (Blw.out (by exact HL)).size
  go_wp2_with fail
  refine (HI.out  _ ).mono ?_
  rintro e0 w2 ⟨vg0, rfl, Og0, mg0, B0⟩
  replace HL := Blw.next (by exact HL) B0
  clear B0
  have O_0 := Og0
  obtain ⟨xg0, cg0, rfl, _, _, Rg0⟩ := rdI_of_own O_0
  clear O_0
  go_wp2_with fail
  refine (eqI_any _ _ _ _ _ R0 _ (by exact Rg0) (by exact Rw0.below (Blw.out (by exact HL))) mw0).mono ?_
  rintro e0 w0 ⟨rfl, q, rfl⟩
  clear Rg0
  go_wp2_with fail
  refine (markI_any _ _ m0 R0 _ _ (by exact Og0) mg0 (by omega) (by omega)).mono ?_
  rintro e0 w0 ⟨rfl, Ok0, B0⟩
  replace HL := Blw.nextB (by exact HL) (B0.mono Eg)
  clear B0 Og0
  have hm1 : (0 : Int) ≤ 1 + (m0 : Int) := by omega
  go_wp2_with fail
  refine (heldI_any _ _ m0 _ _ (by exact Ok0) mg0 (by omega) (by omega)).mono ?_
  rintro e0 w0 ⟨rfl, rfl⟩
  go_wp2_with fail
  refine (HI.out  _ ).mono ?_
  rintro e0 w3 ⟨vh0, rfl, Oh0, mh0, B0⟩
  replace Ok0 := own_below (by exact Ok0) B0
  replace HL := Blw.next (by exact HL) B0
  clear B0
  obtain ⟨xh0, ch0, rfl, _, _, Rh0⟩ := rdI_of_own Oh0
  clear Oh0
  go_wp2_with fail
  refine (eqI_any _ _ _ _ _ R0 _ (by exact Rh0) (by exact Rw0.below (Blw.out (by exact HL))) mw0).mono ?_
  rintro e0 w0 ⟨rfl, q, rfl⟩
  clear Rh0
  go_wp2_with fail
  refine (heldI_any _ _ m0 _ _ (by exact Ok0) mg0 (by omega) (by omega)).mono ?_
  rintro e0 w0 ⟨rfl, rfl⟩
  go_wp2
  go_ret
  exact ⟨rfl, (Blw.out (by exact HB)).trans ((Blw.out (by exact HL)).mono (Blw.out (by exact HB)).size)⟩
set_option maxHeartbeats 1600000 in
theorem lawGratingOrders_any (W : World) (a0 : Nat) (_wf0 : (Lit.float .f32 a0).wf = true) (a1 : Nat) (_wf1 : (Lit.float .f32 a1).wf = true) (a2 : Nat) (_wf2 : (Lit.float .f32 a2).wf = true) :
    Calls Try.prog 14 #[.float .f32 a0, .float .f32 a1, .float .f32 a2] W fun e w' => e = .returned (.bool true) ∧ Below W.heap.size W w' := by
  obtain ⟨R0, m0, r1, hs, hi⟩ := bothGratingOrders a0 _wf0 a1 _wf1 a2 _wf2
  exact lawGratingOrders_in W a0 _wf0 a1 _wf1 a2 _wf2  R0 m0 r1 (Lib.hid hs) (Lib.hid hi)
set_option maxRecDepth 100000 in
theorem FnExactGratingOrders_lifted (os : Os) (started : os.Started) (H : Type) (enc : TypeId × Value → H) :
    ReturnsInHanded {} Try.checked os 14 .any (Rows.fnExactGratingOrdersSpec.pre6 enc Try.prog Try.f14 Rows.fnExactGratingOrdersRow.domain false) (Rows.fnExactGratingOrdersSpec.post enc Try.prog Try.f14 false true false false) := by
  refine returnsInHanded_of_change (C := Try.checked) ownKnob_none started (by kernel_rfl) Try.func14
    (ChangeSpec.witness6 (enc := enc) (C := Try.checked) false ⟨#[], #[.float .f32 0, .float .f32 0, .float .f32 0], []⟩ 8 (by kernel_rfl) (by kernel_rfl) (by kernel_rfl) (by kernel_rfl)) ?_
  intro W base args ds gs before hval0 hW _ _
  have hval : ∀ (j : Nat) t v, Try.f14.params[j]? = some t → args[j]? = some v → Value.okWide Try.prog W .any base t v := hval0
  have hW' := hW
  obtain ⟨p, q, hA0, hV, rfl, _, _⟩ := hW
  have hA : DataW.TrodAll enc Try.prog W 0 (fun _ => true) true Try.f14.params.toList args.toList ds p := hA0
  rw [Try.params14] at hA hval
  obtain ⟨v0, v1, v2, d0, d1, d2, p0, p1, p2, rfl, rfl, rfl, h0, h1, h2⟩ := trodAll_three hA
  obtain ⟨rfl, rfl⟩ := trodVars_none hV
  obtain ⟨a0, rfl, rfl, rfl, w0⟩ := open_float Try.underlying22 (hval 0 22 v0 rfl rfl) h0
  obtain ⟨a1, rfl, rfl, rfl, w1⟩ := open_float Try.underlying22 (hval 1 22 v1 rfl rfl) h1
  obtain ⟨a2, rfl, rfl, rfl, w2⟩ := open_float Try.underlying22 (hval 2 22 v2 rfl rfl) h2
  clear hA0 hval0
  refine (lawGratingOrders_any W a0 w0 a1 w1 a2 w2).mono fun e W' ⟨he, hb⟩ => ?_
  subst he
  have hA2 := trodAll_mk3 (enc := enc) (w := W') (base := 0) (spare := fun b => decide (b < W.heap.size)) (held := true) (shut_float Try.underlying22 w0) (shut_float Try.underlying22 w1) (shut_float Try.underlying22 w2)
  exact ⟨_, rfl, _, _, _, [], _, [], hW', trodAll_cons_mk (shut_bool Try.underlying4 _) trodAll_mk0, hA2, rfl, hb.frame _, fun h => by cases h⟩
theorem FnExactGratingOrders_holds : Rows.FnExactGratingOrdersSaid :=
  OpenClaim.holds_of_wide 14 Try.f14 rfl rfl rfl rfl rfl rfl rfl ⟨rfl, rfl, rfl, rfl, rfl⟩ rfl rfl rfl rfl rfl (by kernel_rfl) Try.func14 (by kernel_rfl)
    (of_decide_eq_true (by kernel_rfl)) (by unfold Func.isWrapper; first | (rw [if_pos (by decide +kernel)]; kernel_rfl) | (rw [if_neg (by decide +kernel)]; exact ⟨rfl, rfl⟩))
    (fun os started H enc _ => FnExactGratingOrders_lifted os started H enc)
end Go.Proofs.Ytfnapaijfdiflaa
