/- Of any shares the program tells the parts of one just where the model does, and the same; the shares are not changed: for all arguments. -/
import Derived.Test.YtehlflldnihamaaSame
import Derived.Test.YtehlflldnihamaaGiv
import Derived.Test.YtehlflldnihamaaDiv
import Derived.Test.YtehlflldnihamaaS7
import Derived.Test.YtehlflldnihamaaGeA
import Derived.Test.YtehlflldnihamaaLbd
import Derived.Test.YtehlflldnihamaaLiC
import Derived.Test.YtehlflldnihamaaLaw
namespace Go.Proofs.Ytehlflldnihamaa
open Go Go.ChangeShapes Go.WideShapes Go.ChangeAt Go.RowKit

def gtZ (x : Nat) : Bool := FloatKind.f32.format.order x 0 == some .gt
/-- A number that is not negative, or +infinity. -/
def Nnz (x : Nat) : Prop := (∃ s m e, FloatKind.decode .f32 x = .number s m e ∧ (s = false ∨ m = 0)) ∨ FloatKind.decode .f32 x = .infinity false
theorem nnz_enc {s : Bool} {m : Nat} {e : Int} (h : s = false ∨ m = 0) : Nnz (FloatKind.encode .f32 (.number s m e)) := by
  by_cases hm : m = 0
  · subst hm
    have e0 : FloatKind.encode .f32 (.number s 0 e) = FloatKind.f32.format.word s 0 := nearest_zero FloatKind.f32.format s e
    rw [e0]
    exact .inl ⟨s, 0, -149, by cases s <;> decide +kernel, .inr rfl⟩
  · obtain rfl : s = false := by rcases h with h | h
                                 · exact h
                                 · exact absurd h hm
    rcases dec_enc false m e with ⟨m', e', h1⟩ | h1
    · exact .inl ⟨false, m', e', h1, .inl rfl⟩
    · exact .inr h1
theorem nnz_inf : Nnz (FloatKind.encode .f32 (.infinity false)) := .inr (by decide +kernel)
theorem nnz_res {o : Option Ieee.Datum} {d : Ieee.Datum} (h : o = some d) (hd : Nnz (FloatKind.encode .f32 d)) : Nnz ((o.map FloatKind.f32.format.write).getD (qnan .f32)) := by
  subst h; exact hd
theorem signed_nn {s : Bool} {m : Nat} (h : s = false ∨ m = 0) (a : Nat) : 0 ≤ Ieee.signed s m a := by
  unfold Ieee.signed
  rcases h with rfl | rfl
  · exact Int.natCast_nonneg _
  · rw [Nat.zero_shiftLeft]; cases s <;> decide
theorem nnz_add {x y : Nat} (hx : Nnz x) (hy : Nnz y) : Nnz (fbin .add .f32 x y) := by
  show Nnz ((((FloatKind.decode .f32 x).sum (FloatKind.decode .f32 y)).map FloatKind.f32.format.write).getD (qnan .f32))
  rcases hx with ⟨s, m, i, h1, g1⟩ | h1
  · rcases hy with ⟨t, n, j, h2, g2⟩ | h2
    · rw [h1, h2]
      have p1 := Int.add_nonneg (signed_nn g1 (i - min i j).toNat) (signed_nn g2 (j - min i j).toNat)
      refine nnz_res (show _ = some _ from rfl) (nnz_enc ?_)
      generalize Ieee.signed s m (i - min i j).toNat + Ieee.signed t n (j - min i j).toNat = S at *
      by_cases hS : S = 0
      · right; rw [hS]; rfl
      · left; rw [if_neg hS]; exact decide_eq_false (by omega)
    · rw [h1, h2]
      exact nnz_res (show _ = some _ from rfl) nnz_inf
  · rcases hy with ⟨t, n, j, h2, g2⟩ | h2
    · rw [h1, h2]
      exact nnz_res (show _ = some _ from rfl) nnz_inf
    · rw [h1, h2]
      exact nnz_res (show Ieee.Datum.sum (.infinity false) (.infinity false) = some (.infinity false) from rfl) nnz_inf
theorem nnz_gl {x : Nat} (h : isG x = true) : Nnz x := by
  unfold isG at h
  rw [Bool.and_eq_true] at h
  obtain ⟨s, m, e, hd⟩ := fin_decL h.1
  refine .inl ⟨s, m, e, hd, ?_⟩
  by_cases hm : m = 0
  · exact .inr hm
  · left
    cases s
    · rfl
    · exfalso
      have hd' : FloatKind.f32.format.read x = _ := hd
      have h0 : FloatKind.f32.format.read 0 = .number false 0 (-149) := by decide +kernel
      have h2 := h.2
      unfold Ieee.Format.order at h2
      rw [hd', h0] at h2
      simp only [Ieee.Datum.order, Ieee.signed, if_true, Bool.false_eq_true, if_false, Nat.zero_shiftLeft] at h2
      have : 0 < m <<< (e - min e (-149)).toNat := by
        rw [Nat.shiftLeft_eq]
        exact Nat.mul_pos (by omega) (Nat.two_pow_pos _)
      generalize m <<< (e - min e (-149)).toNat = K at *
      have hc : compare (-(K : Int)) ((0 : Nat) : Int) = .lt := by
        rw [Int.compare_eq_lt]; omega
      rw [hc] at h2
      cases h2
theorem nnz_sum {X : Nat → Nat} : ∀ n, (∀ j, j < n → isG (X j) = true) → Nnz (sumW X n) := by
  intro n
  induction n with
  | zero => intro _; exact .inl ⟨false, 0, -149, by show FloatKind.decode .f32 0 = _; decide +kernel, .inl rfl⟩
  | succ n ih => intro h; exact nnz_add (ih fun j hj => h j (by omega)) (nnz_gl (h n (by omega)))
/-- What is not negative and not greater than 0 is 0. -/
theorem nnz_zero {x : Nat} (h : Nnz x) (hz : gtZ x = false) : ∃ s e, FloatKind.decode .f32 x = .number s 0 e := by
  have h0 : FloatKind.f32.format.read 0 = .number false 0 (-149) := by decide +kernel
  unfold gtZ Ieee.Format.order at hz
  rw [h0] at hz
  rcases h with ⟨s, m, e, hd, hg⟩ | hd
  · have hd' : FloatKind.f32.format.read x = _ := hd
    by_cases hm : m = 0
    · exact ⟨s, e, by rw [hd, hm]⟩
    · exfalso
      obtain rfl : s = false := by rcases hg with h | h
                                   · exact h
                                   · exact absurd h hm
      rw [hd'] at hz
      simp only [Ieee.Datum.order, Ieee.signed, Bool.false_eq_true, if_false, Nat.zero_shiftLeft] at hz
      have : 0 < m <<< (e - min e (-149)).toNat := by
        rw [Nat.shiftLeft_eq]
        exact Nat.mul_pos (by omega) (Nat.two_pow_pos _)
      generalize m <<< (e - min e (-149)).toNat = K at *
      have hc : compare ((K : Nat) : Int) ((0 : Nat) : Int) = .gt := by
        rw [Int.compare_eq_gt]; omega
      rw [hc] at hz
      cases hz
  · exfalso
    have hd' : FloatKind.f32.format.read x = _ := hd
    rw [hd'] at hz
    simp [Ieee.Datum.order] at hz
theorem quo_zero {x d : Nat} (hx : isFin .f32 x = true) (hd : ∃ s e, FloatKind.decode .f32 d = .number s 0 e) : isFin .f32 (fbin .quo .f32 x d) = false := by
  obtain ⟨s, m, e, h1⟩ := fin_decL hx
  obtain ⟨t, f, h2⟩ := hd
  show isFin .f32 ((((FloatKind.decode .f32 x).quotient 25 (FloatKind.decode .f32 d)).map FloatKind.f32.format.write).getD (qnan .f32)) = false
  rw [h1, h2]
  refine nf_of fun d hd => ?_
  simp only [Ieee.Datum.quotient, if_true] at hd
  split at hd
  · cases hd
  · cases hd; exact ⟨_, rfl⟩
theorem isG_fin' {x : Nat} (h : isG x = true) : isFin .f32 x = true := by unfold isG at h; rw [Bool.and_eq_true] at h; exact h.1
theorem gL_at {X : Nat → Nat} {n : Nat} (h : gL X n = true) : ∀ j, j < n → isG (X j) = true := fun j hj => by
  unfold gL at h
  rw [List.all_eq_true] at h
  exact h j (by simpa using hj)
/-- Shares whose sum is 0 have no parts of one. -/
theorem parts_zero {X : Nat → Nat} {n : Nat} (hg : gL X n = true) (hn : 1 ≤ n) (hz : gtZ (sumW X n) = false) : finL (divR X (sumW X n)) n = false :=
  finL_no (k := 0) (by omega) (quo_zero (isG_fin' (gL_at hg 0 (by omega))) (nnz_zero (nnz_sum n (gL_at hg)) hz))
theorem isG_ltz {x : Nat} (hf : isFin .f32 x = true) : isG x = !ltZ x := isG_fin hf
theorem gL_yes {X : Nat → Nat} {n : Nat} (h : ∀ j, j < n → isG (X j) = true) : gL X n = true := by
  unfold gL
  rw [List.all_eq_true]
  intro j hj
  exact h j (by simpa using hj)
theorem gL_none {X : Nat → Nat} {n k : Nat} (hk : k < n) (h : isG (X k) = false) : gL X n = false := by
  cases hg : gL X n
  · rfl
  · rw [gL_at hg k hk] at h; cases h
def pooOk (X : Nat → Nat) (n : Nat) : Bool := gL X n && gtZ (sumW X n) && finL (divR X (sumW X n)) n
set_option maxRecDepth 100000 in
set_option maxHeartbeats 3200000 in
theorem specPoo_any (xa : Option Addr) (n cx : Nat) (X : Nat → Nat) (w : World) (hX : Rd w xa n X) (h1 : 1 ≤ n) (h2 : n ≤ 8) (m : Nat) (ok : Bool) (ho : Hid (ok = pooOk X n)) (hm : Hid (m = if ok = true then n else 0)) :
    Calls Try.prog 38 #[.slice xa n cx] w (LstRet (divR X (sumW X n)) m ok w) := by
  obtain ⟨i0, hi, hz0, hz1, hz2⟩ := info_parts infoF
  obtain ⟨xb, xo, hxa, hcx⟩ := hX
  have e := hxa (by omega)
  subst e
  have HX := Lib.hid hcx
  clear hcx hxa
  have HNO := Lib.hid (fun (h : ok = false) w' (hb : Below w.heap.size w w') => show LstRet (divR X (sumW X n)) m ok w (.returned (.tuple #[.slice none 0 0, .bool false])) w' by
    rw [hm.out, h, if_neg (by simp)]; exact lstNo hb)
  have d2 : decide ((8 : Int) < (n : Int)) = false := decide_eq_false (by omega)
  go_enter Try.func38, Try.ntmps38
  go_wp2
  go_loopw [4, 18] (fun q i wr => ∃ k m s : Nat, k ≤ n ∧ i = .int .i64 k ∧ wr = w.drewN m ∧ q = .float .f32 (pick .f32 (sumW X k) s) ∧ Hid (∀ j, j < k → isG (X j) = true)) (fun _ i _ => n - (intOf i).toNat)
  case atStart => exact ⟨0, 0, 0, Nat.zero_le _, rfl, rfl, by rw [show sumW X 0 = 0 from rfl, pick_zero], Lib.hid fun j hj => absurd hj (Nat.not_lt_zero _)⟩
  case round =>
    obtain ⟨k, q, s, hk, rfl, rfl, rfl, HG⟩ := hrel
    by_cases hlt : k < n
    · have c1 := HX.out k hlt
      cases hf : isFin .f32 (X k)
      · have HN := Lib.hid (HNO.out (by rw [ho.out, pooOk, gL_none hlt (isG_no hf)]; rfl))
        go_wp2_with (first | (go_at_call 69; refine (l01Finite_any _ _).mono ?_; rintro e w' ⟨rfl, q, rfl⟩))
        go_ret2
        refine HN.out _ ?_
        (repeat (first | with_reducible exact Below.refl _ _ | with_reducible refine Below.drewN ?_ _ | with_reducible refine Below.setCell ?_ (by simp; try omega) _ | with_reducible refine Below.alloc ?_ (by simp; try omega) _))
      · cases hz : ltZ (X k)
        · have hz' : (FloatKind.f32.format.order (X k) 0 == some .lt) = false := hz
          have HG' := Lib.hid (show ∀ j, j < k + 1 → isG (X j) = true from fun j hj => by
            by_cases hj' : j < k
            · exact HG.out j hj'
            · rw [show j = k by omega, isG_ltz hf, hz]; rfl)
          have hp := fbin_pick_l .add .f32
          have hd := sumW_succ X k
          obtain ⟨D, hD⟩ : ∃ D, D = sumW X k := ⟨_, rfl⟩
          rw [← hD] at hd
          have HD := Lib.hid hD
          have HE := Lib.hid hd
          rw [← HD.out]
          clear hD hd hz
          go_wp2_with (first | ((with_reducible refine wpL_fbin ?_); refine ⟨_, _, _, rfl, rfl, rfl, fun s n => ?_⟩) | (go_at_call 69; refine (l01Finite_any _ _).mono ?_; rintro e w' ⟨rfl, q, rfl⟩))
          go_roundw
          case rel => exact ⟨k + 1, _, _, by omega, by go_num, rfl, by rw [HE.out], HG'⟩
          case measure => simp [intOf]; omega
        · have hz' : (FloatKind.f32.format.order (X k) 0 == some .lt) = true := hz
          have HN := Lib.hid (HNO.out (by rw [ho.out, pooOk, gL_none hlt (by rw [isG_ltz hf, hz]; rfl)]; rfl))
          clear hz
          go_wp2_with (first | (go_at_call 69; refine (l01Finite_any _ _).mono ?_; rintro e w' ⟨rfl, q, rfl⟩))
          go_ret2
          refine HN.out _ ?_
          (repeat (first | with_reducible exact Below.refl _ _ | with_reducible refine Below.drewN ?_ _ | with_reducible refine Below.setCell ?_ (by simp; try omega) _ | with_reducible refine Below.alloc ?_ (by simp; try omega) _))
    · have hkn : k = n := by omega
      subst hkn
      have HGL := Lib.hid (show gL X k = true from gL_yes HG.out)
      obtain ⟨D, hD⟩ : ∃ D, D = sumW X k := ⟨_, rfl⟩
      rw [← hD]
      have ho1 := order_pick_l .f32
      cases hz : gtZ D
      · have hz' : (FloatKind.f32.format.order D 0 == some .gt) = false := hz
        have HN := Lib.hid (HNO.out (by rw [ho.out, pooOk, HGL.out, ← hD, hz]; rfl))
        clear hz hD
        go_wp2
        go_ret2
        refine HN.out _ ?_
        (repeat (first | with_reducible exact Below.refl _ _ | with_reducible refine Below.drewN ?_ _ | with_reducible refine Below.setCell ?_ (by simp; try omega) _ | with_reducible refine Below.alloc ?_ (by simp; try omega) _))
      · have hz' : (FloatKind.f32.format.order D 0 == some .gt) = true := hz
        obtain ⟨R, hR⟩ : ∃ R, R = divR X D := ⟨_, rfl⟩
        have HK := Lib.hid (show ok = finL R k by rw [ho.out, pooOk, HGL.out, ← hD, hz, hR]; rfl)
        have HR := Lib.hid hR
        have HRR := Lib.hid (show R = divR X (sumW X k) by rw [hR, hD])
        clear hz hD hR
        have hq := fbin_pick_r .quo .f32
        go_wp2
        go_loopw [6, 47] (fun v i wr => ∃ (c : Nat) (Z : Nat → Nat), c ≤ k ∧ i = .int .i64 (c : Int) ∧ wr.ownsRow w.heap.size 31 1 v c (rowOf Z c) ∧ Like Z R c ∧ Below w.heap.size w wr) (fun _ i _ => k - (intOf i).toNat)
        case atStart => exact ⟨0, fun _ => 0, Nat.zero_le _, rfl, own_empty (w.drewN q) _, fun _ h => absurd h (Nat.not_lt_zero _), Below.alloc (Below.drewN (Below.refl _ _) _) (Nat.le_refl _) _⟩
        case round =>
          obtain ⟨c, Z, hc, rfl, hownk, hL, hBk⟩ := hrel
          have hsz := hBk.size
          by_cases hltc : c < k
          · have c0 := HX.out c hltc
            have c1 := (hBk.cell (p := ⟨xb, xo + c, none⟩) (World.block_lt_of_cell? w _ c0)).trans c0
            clear c0
            have hd : fbin .quo .f32 (X c) D = R c := by rw [HR.out]; rfl
            obtain ⟨U, hU⟩ : ∃ U, U = R c := ⟨_, rfl⟩
            rw [← hU] at hd
            have HU := Lib.hid hU
            clear hU
            go_wp2_with (first | ((with_reducible refine wpL_fbin ?_); refine ⟨_, _, _, rfl, rfl, rfl, fun s n => ?_⟩) | (at_builtin; refine wpL_push hi hz0 hz1 hz2 rfl rfl rfl rfl (by exact own_drew hownk _) (by omega) (by exact hsz) ?_; intro v' w1 hown' hB'))
            go_roundw
            case rel => exact ⟨c + 1, _, by omega, by go_num, hown', like_push hL (by rw [← HU.out]), Below.trans (Below.drewN hBk _) hB'⟩
            case measure => simp [intOf]; omega
          · have hck : c = k := by omega
            subst hck
            have HF := Lib.hid (show LstRet R (if finL R c = true then c else 0) (finL R c) w = LstRet (divR X (sumW X c)) m ok w by rw [hm.out, HK.out, ← HRR.out])
            go_wp2_with fail
            refine (l07Give_any _ _ c Z _ (by exact hownk) (by omega)).mono ?_
            rintro e w' ⟨rfl, q2, rfl⟩
            have HV := Lib.hid (lstGive hL hownk (by omega) hBk)
            cases hfz : finL Z c
            · rw [hfz] at HV
              go_wp2
              go_ret2
              rw [← HF.out]
              obtain ⟨a, b, h3, h4, h5, h6, h7⟩ := HV.out
              exact ⟨a, b, h3, h4, h5, h6, Below.drewN h7 _⟩
            · rw [hfz] at HV
              go_wp2
              go_ret2
              rw [← HF.out]
              obtain ⟨a, b, h3, h4, h5, h6, h7⟩ := HV.out
              exact ⟨a, b, h3, h4, h5, h6, Below.drewN h7 _⟩
set_option maxRecDepth 100000 in
set_option maxHeartbeats 1600000 in
theorem specPoo_len (xa : Option Addr) (n cx : Nat) (w : World) (R : Nat → Nat) (hk : ¬ (1 ≤ n ∧ n ≤ 8)) :
    Calls Try.prog 38 #[.slice xa n cx] w (LstRet R 0 false w) := by
  by_cases h1 : 1 ≤ n
  · have d2 : decide ((8 : Int) < (n : Int)) = true := decide_eq_true (by omega)
    clear hk
    go_enter Try.func38, Try.ntmps38
    go_wp2
    go_ret2
    refine lstNo ?_
    (repeat (first | with_reducible exact Below.refl _ _ | with_reducible refine Below.drewN ?_ _ | with_reducible refine Below.setCell ?_ (by simp; try omega) _ | with_reducible refine Below.alloc ?_ (by simp; try omega) _))
  · clear hk
    go_enter Try.func38, Try.ntmps38
    go_wp2
    go_ret2
    refine lstNo ?_
    (repeat (first | with_reducible exact Below.refl _ _ | with_reducible refine Below.drewN ?_ _ | with_reducible refine Below.setCell ?_ (by simp; try omega) _ | with_reducible refine Below.alloc ?_ (by simp; try omega) _))
set_option maxRecDepth 100000 in
set_option maxHeartbeats 1600000 in
theorem implPoo_len (xa : Option Addr) (n cx : Nat) (w : World) (R : Nat → Nat) (hk : ¬ (1 ≤ n ∧ n ≤ 8)) :
    Calls Try.prog 39 #[.slice xa n cx] w (LstRet R 0 false w) := by
  by_cases h1 : 1 ≤ n
  · have d2 : decide ((8 : Int) < (n : Int)) = true := decide_eq_true (by omega)
    clear hk
    go_enter Try.func39, Try.ntmps39
    go_wp2
    go_ret2
    refine lstNo ?_
    (repeat (first | with_reducible exact Below.refl _ _ | with_reducible refine Below.drewN ?_ _ | with_reducible refine Below.setCell ?_ (by simp; try omega) _ | with_reducible refine Below.alloc ?_ (by simp; try omega) _))
  · clear hk
    go_enter Try.func39, Try.ntmps39
    go_wp2
    go_ret2
    refine lstNo ?_
    (repeat (first | with_reducible exact Below.refl _ _ | with_reducible refine Below.drewN ?_ _ | with_reducible refine Below.setCell ?_ (by simp; try omega) _ | with_reducible refine Below.alloc ?_ (by simp; try omega) _))
set_option maxRecDepth 100000 in
set_option maxHeartbeats 3200000 in
theorem implPoo_any (xa : Option Addr) (n cx : Nat) (X : Nat → Nat) (w : World) (hX : Rd w xa n X) (h1 : 1 ≤ n) (h2 : n ≤ 8) (m : Nat) (ok : Bool) (ho : Hid (ok = pooOk X n)) (hm : Hid (m = if ok = true then n else 0)) :
    Calls Try.prog 39 #[.slice xa n cx] w (LstRet (divR X (sumW X n)) m ok w) := by
  have d2 : decide ((8 : Int) < (n : Int)) = false := decide_eq_false (by omega)
  obtain ⟨g, hg⟩ : ∃ g, g = gL X n := ⟨_, rfl⟩
  have HG := Lib.hid (fun w hX => areAtLeastZero_any xa n cx X w hX (by omega))
  rw [← hg] at HG
  cases g
  · have HN := Lib.hid (fun w' (hb : Below w.heap.size w w') => show LstRet (divR X (sumW X n)) m ok w (.returned (.tuple #[.slice none 0 0, .bool false])) w' by
      have e : ok = false := by rw [ho.out, pooOk, ← hg]; rfl
      rw [hm.out, e, if_neg (by simp)]; exact lstNo hb)
    clear hg
    go_enter Try.func39, Try.ntmps39
    go_wp2_with (go_at_call 80; refine (HG.out _ (by exact hX)).mono ?_; rintro e w' ⟨rfl, q, rfl⟩)
    go_ret2
    refine HN.out _ ?_
    (repeat (first | with_reducible exact Below.refl _ _ | with_reducible refine Below.drewN ?_ _ | with_reducible refine Below.setCell ?_ (by simp; try omega) _ | with_reducible refine Below.alloc ?_ (by simp; try omega) _))
  · obtain ⟨D, hD⟩ : ∃ D, D = sumW X n := ⟨_, rfl⟩
    have HS := Lib.hid (fun w hX => SumNumbers_any xa n cx X w hX (by omega))
    rw [← hD] at HS
    have HK := Lib.hid (show ok = finL (divR X D) n by
      rw [ho.out, pooOk, ← hg, ← hD, Bool.true_and]
      cases hz : gtZ D
      · rw [hD] at hz
        rw [hD, parts_zero hg.symm h1 hz]; rfl
      · rfl)
    have HF := Lib.hid (show LstRet (divR X D) (if finL (divR X D) n = true then n else 0) (finL (divR X D) n) w = LstRet (divR X (sumW X n)) m ok w by rw [hm.out, HK.out, ← hD])
    clear hg hD
    go_enter Try.func39, Try.ntmps39
    go_wp2_with (go_at_call 80; refine (HG.out _ (by exact hX)).mono ?_; rintro e w' ⟨rfl, q, rfl⟩)
    refine (HS.out _ (by exact hX)).mono ?_
    rintro e w' ⟨s, q1, rfl, rfl⟩
    go_wp2_with fail
    refine (div_any _ _ _ X D s _ (by exact hX) (by omega)).mono ?_
    rintro e w3 ⟨v, Z, rfl, hown, hL, hB⟩
    have hB' : Below w.heap.size w w3 := Below.trans (Below.drewN (Below.refl _ w) (q + q1)) hB
    go_wp2_with fail
    refine (onlyFinite_any _ _ n Z _ (by exact hown) (by omega)).mono ?_
    rintro e w4 ⟨rfl, q3, rfl⟩
    have HV := Lib.hid (lstGive (w := w) hL.like hown (by omega) hB')
    clear hL hown
    cases hfz : finL Z n
    · rw [hfz] at HV
      go_wp2
      go_ret2
      rw [← HF.out]
      obtain ⟨a, b, h3, h4, h5, h6, h7⟩ := HV.out
      exact ⟨a, b, h3, h4, h5, h6, Below.drewN h7 _⟩
    · rw [hfz] at HV
      go_wp2
      go_ret2
      rw [← HF.out]
      obtain ⟨a, b, h3, h4, h5, h6, h7⟩ := HV.out
      exact ⟨a, b, h3, h4, h5, h6, Below.drewN h7 _⟩
/-- What is told of PartsOfOne. -/
def RetPartsOfOne (R0 : Nat → Nat) (m0 : Nat) (r1 : Bool) (w : World) (e : Ending) (w' : World) : Prop := ∃ (v0 : Value) (Y0 : Nat → Nat), e = .returned (.tuple #[v0, .bool r1]) ∧ w'.ownsRow w.heap.size 31 1 v0 m0 (rowOf Y0 m0) ∧ Like Y0 R0 m0 ∧ m0 ≤ 1048576 ∧ Below w.heap.size w w'
theorem bothPartsOfOne (N : Nat) (X : Nat → Nat) (_hN : N ≤ 1048576) :
    ∃ (R : Nat → Nat) (m : Nat) (ok : Bool), (∀ (xa : Option Addr) (c : Nat) (w : World), Rd w xa N X → Calls Try.prog 38 #[.slice xa N c] w (RetPartsOfOne R m ok w)) ∧
      ∀ (xa : Option Addr) (c : Nat) (w : World), Rd w xa N X → Calls Try.prog 39 #[.slice xa N c] w (RetPartsOfOne R m ok w) := by
  by_cases hk : 1 ≤ N ∧ N ≤ 8
  · exact ⟨_, _, _, fun xa c w hX => specPoo_any xa N c X w hX hk.1 hk.2 _ _ (Lib.hid rfl) (Lib.hid rfl), fun xa c w hX => implPoo_any xa N c X w hX hk.1 hk.2 _ _ (Lib.hid rfl) (Lib.hid rfl)⟩
  · exact ⟨fun _ => 0, 0, false, fun xa c w _ => specPoo_len xa N c w _ hk, fun xa c w _ => implPoo_len xa N c w _ hk⟩
set_option maxRecDepth 100000 in
set_option maxHeartbeats 6400000 in
theorem lawPartsOfOne_in (W : World) (x0 : Option Addr) (n0 c0 : Nat) (X0 : Nat → Nat) (hX0 : Rd W x0 n0 X0) (h0 : n0 ≤ 1048576) (R0 : Nat → Nat) (m0 : Nat) (r1 : Bool) (HS : Hid (∀ (x0 : Option Addr) (c0 : Nat) (w : World), Rd w x0 n0 X0 → Calls Try.prog 38 #[.slice x0 n0 c0] w (RetPartsOfOne R0 m0 r1 w))) (HI : Hid (∀ (x0 : Option Addr) (c0 : Nat) (w : World), Rd w x0 n0 X0 → Calls Try.prog 39 #[.slice x0 n0 c0] w (RetPartsOfOne R0 m0 r1 w))) :
    Calls Try.prog 12 #[.slice x0 n0 c0] W fun e w' => e = .returned (.bool true) ∧ Below W.heap.size W w' := by
  have hcv := fun (R : Nat) (s t : Nat) => show canon .f64 (pick .f64 (fconv .f32 (pick .f32 R s) .f64) t) = canon .f64 (fconv .f32 R .f64) by rw [canon_pick, fconv_pick]
  have hcw := fun (R : Nat) (s t : Nat) => show canon .f64 (pick .f64 R s) = canon .f64 (pick .f64 R t) by rw [canon_pick, canon_pick]
  have HCV := Lib.hid hcv
  have HCW := Lib.hid hcw
  clear hcv hcw
  have hnb1 : (r1 != r1) = false := by simp
  have HB := Blw.refl W
  go_enter Try.func12, Try.ntmps12
  go_wp2_with fail
  refine (toF_any _ _ _ X0 _ (by exact hX0.below (Blw.out (by exact HB))) h0).mono ?_
  rintro e0 w0 ⟨rfl, O0, B0⟩
  replace HB := Blw.next (by exact HB) B0
  have C0 := O0
  clear O0 B0
  go_wp2_with fail
  refine (HS.out _ _ _ (rd_own (by exact C0))).mono ?_
  rintro e0 w1 ⟨vw0, Yw0, rfl, Ow0, Lw0, mw0, B0⟩
  clear C0
  replace HB := Blw.next (by exact HB) B0
  clear B0
  have Z0 := hX0.below HB.out
  obtain ⟨xw0, cw0, rfl, _, _, Rw0⟩ := rd_of_own Ow0
  clear Ow0
  have HL := Blw.refl w1
  have E0 := (Blw.out (by exact HL)).size
  go_wp2_with fail
  refine (toF_any _ _ _ X0 _ (by exact Z0.below (Blw.out (by exact HL))) h0).mono ?_
  rintro e0 w0 ⟨rfl, O0, B0⟩
  replace HL := Blw.next (by exact HL) B0
  have D0 := O0
  clear O0 B0
  have Qg0 := own_lt (by exact D0)
  have Eg := (Blw.out (by exact HL)).size
  go_wp2_with fail
  refine (HI.out _ _ _ (rd_own (by exact D0))).mono ?_
  rintro e0 w2 ⟨vg0, Yg0, rfl, Og0, Lg0, mg0, B0⟩
  replace D0 := own_below (by exact D0) B0
  replace HL := Blw.next (by exact HL) B0
  clear B0
  have O_0 := Og0
  obtain ⟨xg0, cg0, rfl, _, _, Rg0⟩ := rd_of_own O_0
  clear O_0
  go_wp2_with fail
  refine (eqF_any _ _ _ _ _ Yg0 Yw0 _ (by exact Rg0) (by exact Rw0.below (Blw.out (by exact HL))) mw0 (fun i hi => (Lg0 i hi).trans (Lw0 i hi).symm)).mono ?_
  rintro e0 w0 ⟨rfl, q, rfl⟩
  go_wp2_with fail
  refine (toF_any _ _ _ X0 _ (by exact Z0.below (Blw.out (by exact HL))) h0).mono ?_
  rintro e0 w0 ⟨rfl, O0, B0⟩
  replace D0 := own_below (by exact D0) B0
  replace Og0 := own_below (by exact Og0) B0
  replace HL := Blw.next (by exact HL) B0
  have K0 := O0
  clear O0 B0
  go_wp2_with fail
  refine (eqF_any _ _ _ _ _ X0 X0 _ (by exact rd_own (by exact D0)) (by exact rd_own (by exact K0)) h0 (fun _ _ => rfl)).mono ?_
  rintro e0 w0 ⟨rfl, q, rfl⟩
  clear K0
  go_wp2_with fail
  refine (markX_any _ _ n0 _ X0 _ _ (by exact D0) h0 (by omega) (by omega)).mono ?_
  rintro e0 w0 ⟨rfl, N0⟩
  replace Og0 := own_only (by exact Og0) (by exact Qg0) N0
  replace HL := Blw.only (by exact HL) E0 N0
  clear N0 D0
  have hk1 : (0 : Int) ≤ 1 + (n0 : Int) := by omega
  replace Rg0 := rd_own' (by exact Og0)
  go_wp2_with fail
  refine (eqF_any _ _ _ _ _ Yg0 Yw0 _ (by exact Rg0) (by exact Rw0.below (Blw.out (by exact HL))) mw0 (fun i hi => (Lg0 i hi).trans (Lw0 i hi).symm)).mono ?_
  rintro e0 w0 ⟨rfl, q, rfl⟩
  clear Rg0
  go_wp2_with fail
  refine (markF_any _ _ m0 Yg0 _ _ (by exact Og0) mg0 (by omega) (by omega)).mono ?_
  rintro e0 w0 ⟨rfl, Ok0, B0⟩
  replace HL := Blw.nextB (by exact HL) (B0.mono Eg)
  clear B0 Og0
  have hm1 : (0 : Int) ≤ 1 + (m0 : Int) := by omega
  go_wp2_with fail
  refine (heldF_any _ _ m0 _ _ (by exact Ok0) mg0 (by omega) (by omega)).mono ?_
  rintro e0 w0 ⟨rfl, rfl⟩
  go_wp2_with fail
  refine (toF_any _ _ _ X0 _ (by exact Z0.below (Blw.out (by exact HL))) h0).mono ?_
  rintro e0 w0 ⟨rfl, O0, B0⟩
  replace Ok0 := own_below (by exact Ok0) B0
  replace HL := Blw.next (by exact HL) B0
  have C0 := O0
  clear O0 B0
  go_wp2_with fail
  refine (HI.out _ _ _ (rd_own (by exact C0))).mono ?_
  rintro e0 w3 ⟨vh0, Yh0, rfl, Oh0, Lh0, mh0, B0⟩
  replace Ok0 := own_below (by exact Ok0) B0
  clear C0
  replace HL := Blw.next (by exact HL) B0
  clear B0
  obtain ⟨xh0, ch0, rfl, _, _, Rh0⟩ := rd_of_own Oh0
  clear Oh0
  go_wp2_with fail
  refine (eqF_any _ _ _ _ _ Yh0 Yw0 _ (by exact Rh0) (by exact Rw0.below (Blw.out (by exact HL))) mw0 (fun i hi => (Lh0 i hi).trans (Lw0 i hi).symm)).mono ?_
  rintro e0 w0 ⟨rfl, q, rfl⟩
  clear Rh0
  go_wp2_with fail
  refine (heldF_any _ _ m0 _ _ (by exact Ok0) mg0 (by omega) (by omega)).mono ?_
  rintro e0 w0 ⟨rfl, rfl⟩
  go_wp2
  go_ret
  exact ⟨rfl, (Blw.out (by exact HB)).trans ((Blw.out (by exact HL)).mono (Blw.out (by exact HB)).size)⟩
set_option maxRecDepth 100000 in
set_option maxHeartbeats 1600000 in
theorem lawPartsOfOne_any (W : World) (x0 : Option Addr) (n0 c0 : Nat) (X0 : Nat → Nat) (hX0 : Rd W x0 n0 X0) :
    Calls Try.prog 12 #[.slice x0 n0 c0] W fun e w' => e = .returned (.bool true) ∧ Below W.heap.size W w' := by
  by_cases h0 : n0 ≤ 1048576
  · skip
    obtain ⟨R0, m0, r1, hs, hi⟩ := bothPartsOfOne n0 X0 h0
    exact lawPartsOfOne_in W x0 n0 c0 X0 hX0 h0 R0 m0 r1 (Lib.hid hs) (Lib.hid hi)
  · have h' : (1048576 : Int) < (n0 : Int) := by omega
    go_enter Try.func12, Try.ntmps12
    go_wp2
    go_ret
    exact ⟨rfl, (Blw.refl W).out⟩
set_option maxRecDepth 100000 in
theorem FnExactPartsOfOne_lifted (os : Os) (started : os.Started) (H : Type) (enc : TypeId × Value → H) :
    ReturnsInHanded {} Try.checked os 12 .any (Rows.fnExactPartsOfOneSpec.pre6 enc Try.prog Try.f12 Rows.fnExactPartsOfOneRow.domain false) (Rows.fnExactPartsOfOneSpec.post enc Try.prog Try.f12 false true false false) := by
  refine returnsInHanded_of_change (C := Try.checked) ownKnob_none started (by kernel_rfl) Try.func12
    (ChangeSpec.witness6 (enc := enc) (C := Try.checked) false ⟨#[], #[.slice none 0 0], []⟩ 8 (by kernel_rfl) (by kernel_rfl) (by kernel_rfl) (by kernel_rfl)) ?_
  intro W base args ds gs before hval0 hW _ _
  have hval : ∀ (j : Nat) t v, Try.f12.params[j]? = some t → args[j]? = some v → Value.okWide Try.prog W .any base t v := hval0
  have hW' := hW
  obtain ⟨p, q, hA0, hV, rfl, _, _⟩ := hW
  have hA : DataW.TrodAll enc Try.prog W 0 (fun _ => true) true Try.f12.params.toList args.toList ds p := hA0
  rw [Try.params12] at hA hval
  obtain ⟨v0, vs0, d0, ds0, p0, q0, hargs, rfl, rfl, h0, r0⟩ := trodAll_cons hA
  obtain ⟨rfl, rfl, rfl⟩ := trodAll_nil r0
  obtain rfl : args = #[v0] := by cases args; simp_all
  obtain ⟨rfl, rfl⟩ := trodVars_none hV
  obtain ⟨x0, n0, c0, rfl⟩ := okWide_slice Try.underlying22 (hval 0 22 v0 rfl rfl)
  have k0 := h0
  obtain ⟨_, _, a0, w0, _⟩ := open_f32s Try.underlying22 Try.underlying31 cellsF h0
  have b0 : ∀ x ∈ p0, x.block < W.heap.size := fun x hx => by have := hW'.lt x (by simp [hx]); simpa using this
  clear hA0 hval0
  refine (lawPartsOfOne_any W x0 n0 c0 a0 w0).mono fun e W' ⟨he, hb⟩ => ?_
  subst he
  have hA2 := trodAll_cons_mk (enc := enc) (w := W') (base := 0) (spare := fun b => decide (b < W.heap.size)) (held := true) (Below.trod laidOut (by kernel_rfl) (of_decide_eq_true (by kernel_rfl)) k0 hb b0) trodAll_mk0
  exact ⟨_, rfl, _, _, _, [], _, [], hW', trodAll_cons_mk (shut_bool Try.underlying4 _) trodAll_mk0, hA2, rfl, hb.frame _, fun h => by cases h⟩
theorem FnExactPartsOfOne_holds : Rows.FnExactPartsOfOneSaid :=
  OpenClaim.holds_of_wide 12 Try.f12 rfl rfl rfl rfl rfl rfl rfl ⟨rfl, rfl, rfl, rfl, rfl⟩ rfl rfl rfl rfl rfl (by kernel_rfl) Try.func12 (by kernel_rfl)
    (of_decide_eq_true (by kernel_rfl)) (by unfold Func.isWrapper; first | (rw [if_pos (by decide +kernel)]; kernel_rfl) | (rw [if_neg (by decide +kernel)]; exact ⟨rfl, rfl⟩))
    (fun os started H enc _ => FnExactPartsOfOne_lifted os started H enc)
end Go.Proofs.Ytehlflldnihamaa
