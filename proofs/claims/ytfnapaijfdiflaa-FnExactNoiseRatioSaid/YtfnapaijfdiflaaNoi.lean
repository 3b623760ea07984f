/- Of any list of counts the program tells how its sum is to its noise just where the model does, and the same; the list is not changed: for all arguments. -/
import Derived.Test.YtfnapaijfdiflaaSame
import Derived.Test.YtfnapaijfdiflaaBin
import Derived.Test.YtfnapaijfdiflaaPushS
import Derived.Test.YtfnapaijfdiflaaNu5
import Derived.Test.YtfnapaijfdiflaaSm6
import Derived.Test.YtfnapaijfdiflaaRootC
import Derived.Test.YtfnapaijfdiflaaLiC
import Derived.Test.YtfnapaijfdiflaaLaw
namespace Go.Proofs.Ytfnapaijfdiflaa
open Go Go.ChangeShapes Go.WideShapes Go.ChangeAt Go.RowKit

def subX (X : Nat → Nat) (f i : Nat) : Nat := X (f + i)
theorem rd_sub {w : World} {xb xo n f l : Nat} {X : Nat → Nat} (hc : ∀ i, i < n → w.cell? ⟨xb, xo + i, none⟩ = some (.float .f32 (X i))) (h : f + l ≤ n) : Rd w (some ⟨xb, xo + f, none⟩) l (subX X f) :=
  ⟨xb, xo + f, fun _ => rfl, fun i hi => by rw [Nat.add_assoc]; exact hc (f + i) (by omega)⟩
def noiD (S : Nat) : Nat := fbin .quo .f32 S (rootT S)
theorem read_nan {k : FloatKind} {x : Nat} (h : isNaN k x = true) : ∃ s t, k.format.read x = .nan s t := nan_of h
theorem fin_qnan : isFin .f32 (qnan .f32) = false := by decide +kernel
theorem quo_nan_r {x y : Nat} (h : isNaN .f32 y = true) : isFin .f32 (fbin .quo .f32 x y) = false := by
  have : fbin .quo .f32 x y = qnan .f32 := by simp [fbin, floatBits_right h]
  rw [this]; exact fin_qnan
/-- Where the sum is no number greater than 0, there is no quotient. -/
theorem noiD_fin {S : Nat} (h : isP S = false) : isFin .f32 (noiD S) = false := by
  unfold noiD
  have hS : isNaN .f32 S = false → fconv .f32 S .f64 = FloatKind.f64.encode (FloatKind.decode .f32 S) := fun hn => by unfold fconv; rw [hn, if_neg (by simp)]
  rcases isFin_cases .f32 S with hn | ⟨s, hr⟩ | ⟨s, m, e, hr⟩
  · have : fbin .quo .f32 S (rootT S) = qnan .f32 := by simp [fbin, floatBits_left hn]
    rw [this]; exact fin_qnan
  · have hd : FloatKind.decode .f32 S = .infinity s := hr
    have hn : isNaN .f32 S = false := by unfold isNaN; rw [hd]; rfl
    unfold rootT
    rw [hS hn, hd]
    cases s
    · have e1 : fconv .f64 (fsqrt (FloatKind.f64.encode (.infinity false))) .f32 = 2139095040 := by decide +kernel
      rw [e1]
      have : fbin .quo .f32 S 2139095040 = qnan .f32 := by
        have h0 : FloatKind.f32.format.read 2139095040 = .infinity false := by decide +kernel
        show (((FloatKind.f32.format.read S).quotient 25 (FloatKind.f32.format.read 2139095040)).map FloatKind.f32.format.write).getD (qnan .f32) = _
        rw [hr, h0]; rfl
      rw [this]; exact fin_qnan
    · have e1 : fconv .f64 (fsqrt (FloatKind.f64.encode (.infinity true))) .f32 = qnan .f32 := by decide +kernel
      rw [e1]
      exact quo_nan_r (isNaN_qnan _)
  · have hd : FloatKind.decode .f32 S = .number s m e := hr
    have hn : isNaN .f32 S = false := by unfold isNaN; rw [hd]; rfl
    unfold rootT
    rw [hS hn, hd]
    by_cases hm : m = 0
    · subst hm
      have e0 : FloatKind.f64.encode (.number s 0 e) = Ieee.double.word s 0 := nearest_zero Ieee.double s e
      rw [e0]
      have hz : fbin .quo .f32 S (fconv .f64 (fsqrt (Ieee.double.word s 0)) .f32) = qnan .f32 := by
        show (((FloatKind.f32.format.read S).quotient 25 (FloatKind.f32.format.read (fconv .f64 (fsqrt (Ieee.double.word s 0)) .f32))).map FloatKind.f32.format.write).getD (qnan .f32) = _
        cases s
        · have h0 : FloatKind.f32.format.read (fconv .f64 (fsqrt (Ieee.double.word false 0)) .f32) = .number false 0 (-149) := by decide +kernel
          rw [hr, h0]; rfl
        · have h0 : FloatKind.f32.format.read (fconv .f64 (fsqrt (Ieee.double.word true 0)) .f32) = .number true 0 (-149) := by decide +kernel
          rw [hr, h0]; rfl
      rw [hz]; exact fin_qnan
    · cases s
      · exfalso
        have hf : isFin .f32 S = true := by simp [isFin, hd, Ieee.Datum.isNaN, Ieee.Datum.isInfinity]
        unfold isP at h
        rw [hf, Bool.true_and] at h
        have ho : FloatKind.f32.format.order S 0 = some .gt := by
          unfold Ieee.Format.order
          rw [hr, show FloatKind.f32.format.read 0 = .number false 0 (-149) by decide +kernel]
          simp only [Ieee.Datum.order, Ieee.signed]
          congr 1
          rw [Int.compare_eq_gt]
          have : 0 < m <<< (e - min e (-149)).toNat := by
            rw [Nat.shiftLeft_eq]
            exact Nat.mul_pos (by omega) (Nat.two_pow_pos _)
          have h2 : (0 : Int) < ((m <<< (e - min e (-149)).toNat : Nat) : Int) := by exact_mod_cast this
          simpa using h2
        rw [ho] at h
        cases h
      · obtain ⟨h1, h2, h3⟩ := read_single S true m e hr
        have hw := widen_word (s := true) hm h1 h2 h3
        have hq : fsqrt (FloatKind.f64.encode (.number true m e)) = qnan .f64 := by
          unfold fsqrt
          have : Ieee.double.sqrt (FloatKind.f64.encode (.number true m e)) = none := by
            unfold Ieee.Format.sqrt
            rw [show FloatKind.f64.encode (.number true m e) = Ieee.double.nearest true m e from rfl, hw]
            have h0 : m <<< (52 - m.log2) ≠ 0 := by
              rw [Nat.shiftLeft_eq]
              exact Nat.mul_ne_zero hm (by have := Nat.two_pow_pos (52 - m.log2); omega)
            simp [Ieee.Datum.root, h0]
          rw [this]; rfl
        rw [hq]
        exact quo_nan_r (by rw [isNaN_fconv]; exact isNaN_qnan _)
def okNoi (X : Nat → Nat) (n : Nat) (f t : Int) : Bool := (binB X n 1 && gL X n) && (inB t 1 n && inB f 0 (t - 1))
set_option maxRecDepth 100000 in
set_option maxHeartbeats 3200000 in
theorem implNoi_no (xa : Option Addr) (n cx : Nat) (X : Nat → Nat) (f t : Int) (w : World) (hX : Rd w xa n X) (hn : n ≤ 1048576) (hk : okNoi X n f t = false) :
    Calls Try.prog 22 #[.slice xa n cx, .int .i64 f, .int .i64 t] w (NRet 0 false w) := by
  have HB := Lib.hid (fun w hX => areBins_any xa n cx X w hX hn)
  have HG := Lib.hid (fun w hX => areAtLeastZero_any xa n cx X w hX hn)
  cases c1 : binB X n 1
  · skip
    clear hk
    go_enter Try.func22, Try.ntmps22
    go_wp2_with (first | (go_at_call 60; refine (HB.out _ (by exact hX)).mono ?_; rintro e w' ⟨rfl, q, rfl⟩) | (go_at_call 61; refine (HG.out _ (by exact hX)).mono ?_; rintro e w' ⟨rfl, q, rfl⟩))
    go_ret2
    refine ⟨0, by rw [pick_nul]; rfl, ?_⟩
    (repeat (first | with_reducible exact Below.refl _ _ | with_reducible refine Below.drewN ?_ _ | with_reducible refine Below.setCell ?_ (by simp; try omega) _ | with_reducible refine Below.alloc ?_ (by simp; try omega) _))
  · skip
    cases c2 : gL X n
    · skip
      clear hk
      go_enter Try.func22, Try.ntmps22
      go_wp2_with (first | (go_at_call 60; refine (HB.out _ (by exact hX)).mono ?_; rintro e w' ⟨rfl, q, rfl⟩) | (go_at_call 61; refine (HG.out _ (by exact hX)).mono ?_; rintro e w' ⟨rfl, q, rfl⟩))
      go_ret2
      refine ⟨0, by rw [pick_nul]; rfl, ?_⟩
      (repeat (first | with_reducible exact Below.refl _ _ | with_reducible refine Below.drewN ?_ _ | with_reducible refine Below.setCell ?_ (by simp; try omega) _ | with_reducible refine Below.alloc ?_ (by simp; try omega) _))
    · skip
      cases c3 : decide (f < 0)
      rotate_left
      · skip
        clear hk
        go_enter Try.func22, Try.ntmps22
        go_wp2_with (first | (go_at_call 60; refine (HB.out _ (by exact hX)).mono ?_; rintro e w' ⟨rfl, q, rfl⟩) | (go_at_call 61; refine (HG.out _ (by exact hX)).mono ?_; rintro e w' ⟨rfl, q, rfl⟩))
        go_ret2
        refine ⟨0, by rw [pick_nul]; rfl, ?_⟩
        (repeat (first | with_reducible exact Below.refl _ _ | with_reducible refine Below.drewN ?_ _ | with_reducible refine Below.setCell ?_ (by simp; try omega) _ | with_reducible refine Below.alloc ?_ (by simp; try omega) _))
      · skip
        cases c4 : decide (t ≤ f)
        rotate_left
        · skip
          clear hk
          go_enter Try.func22, Try.ntmps22
          go_wp2_with (first | (go_at_call 60; refine (HB.out _ (by exact hX)).mono ?_; rintro e w' ⟨rfl, q, rfl⟩) | (go_at_call 61; refine (HG.out _ (by exact hX)).mono ?_; rintro e w' ⟨rfl, q, rfl⟩))
          go_ret2
          refine ⟨0, by rw [pick_nul]; rfl, ?_⟩
          (repeat (first | with_reducible exact Below.refl _ _ | with_reducible refine Below.drewN ?_ _ | with_reducible refine Below.setCell ?_ (by simp; try omega) _ | with_reducible refine Below.alloc ?_ (by simp; try omega) _))
        · skip
          cases c5 : decide ((n : Int) < t)
          rotate_left
          · skip
            clear hk
            go_enter Try.func22, Try.ntmps22
            go_wp2_with (first | (go_at_call 60; refine (HB.out _ (by exact hX)).mono ?_; rintro e w' ⟨rfl, q, rfl⟩) | (go_at_call 61; refine (HG.out _ (by exact hX)).mono ?_; rintro e w' ⟨rfl, q, rfl⟩))
            go_ret2
            refine ⟨0, by rw [pick_nul]; rfl, ?_⟩
            (repeat (first | with_reducible exact Below.refl _ _ | with_reducible refine Below.drewN ?_ _ | with_reducible refine Below.setCell ?_ (by simp; try omega) _ | with_reducible refine Below.alloc ?_ (by simp; try omega) _))
          · skip
            exfalso
            have h1 := of_decide_eq_false c3
            have h2 := of_decide_eq_false c4
            have h3 := of_decide_eq_false c5
            rw [okNoi, c1, c2, inB_yes (by omega) (by omega), inB_yes (by omega) (by omega)] at hk
            cases hk
set_option maxRecDepth 100000 in
set_option maxHeartbeats 3200000 in
theorem specNoi_no1 (xa : Option Addr) (n cx : Nat) (X : Nat → Nat) (f t : Int) (w : World) (hX : Rd w xa n X) (hn : n ≤ 1048576) (hk : (binB X n 1 && (inB t 1 n && inB f 0 (t - 1))) = false) :
    Calls Try.prog 20 #[.slice xa n cx, .int .i64 f, .int .i64 t] w (NRet 0 false w) := by
  have HB := Lib.hid (fun w hX => specBins_any xa n cx X 1 w hX hn)
  cases c1 : binB X n 1
  · rw [c1] at HB
    clear hk
    go_enter Try.func20, Try.ntmps20
    go_wp2_with (go_at_call 57; refine (HB.out _ (by exact hX)).mono ?_; rintro e w' ⟨rfl, q, rfl⟩)
    go_ret2
    refine ⟨0, by rw [pick_nul]; rfl, ?_⟩
    (repeat (first | with_reducible exact Below.refl _ _ | with_reducible refine Below.drewN ?_ _ | with_reducible refine Below.setCell ?_ (by simp; try omega) _ | with_reducible refine Below.alloc ?_ (by simp; try omega) _))
  · rw [c1] at HB
    cases c2 : inB t 1 n
    · clear hk
      go_enter Try.func20, Try.ntmps20
      go_wp2_with (first | (go_at_call 57; refine (HB.out _ (by exact hX)).mono ?_; rintro e w' ⟨rfl, q, rfl⟩) | (first | (go_at_call 49; refine (l00In_any _ _ _ _).mono ?_; rintro e w' ⟨rfl, rfl⟩)))
      go_ret2
      refine ⟨0, by rw [pick_nul]; rfl, ?_⟩
      (repeat (first | with_reducible exact Below.refl _ _ | with_reducible refine Below.drewN ?_ _ | with_reducible refine Below.setCell ?_ (by simp; try omega) _ | with_reducible refine Below.alloc ?_ (by simp; try omega) _))
    · have hr := inB_rng c2
      have hw : IntKind.i64.wrap (t - 1) = t - 1 := by rw [IntKind.wrap_i64]; omega
      cases c3 : inB f 0 (t - 1)
      · clear hk
        go_enter Try.func20, Try.ntmps20
        go_wp2_with (first | (go_at_call 57; refine (HB.out _ (by exact hX)).mono ?_; rintro e w' ⟨rfl, q, rfl⟩) | (first | (go_at_call 49; refine (l00In_any _ _ _ _).mono ?_; rintro e w' ⟨rfl, rfl⟩)))
        go_ret2
        refine ⟨0, by rw [pick_nul]; rfl, ?_⟩
        (repeat (first | with_reducible exact Below.refl _ _ | with_reducible refine Below.drewN ?_ _ | with_reducible refine Below.setCell ?_ (by simp; try omega) _ | with_reducible refine Below.alloc ?_ (by simp; try omega) _))
      · exfalso
        rw [c1, c2, c3] at hk
        cases hk
theorem noiNo {D : Nat} {w w' : World} (h : isFin .f32 D = false) (hb : Below w.heap.size w w') : NRet (numQ D) (isFin .f32 D) w (.returned (.tuple #[.float .f32 0, .bool false])) w' := by
  rw [h]
  exact ⟨0, by rw [numQ, if_neg (by rw [h]; simp), pick_nul], hb⟩
theorem noiYes {D s : Nat} {w w' : World} (hb : Below w.heap.size w w') : NRet (numQ D) (isFin .f32 D) w (.returned (.tuple #[.float .f32 (pick .f32 (numQ D) s), .bool (isFin .f32 D)])) w' := ⟨s, rfl, hb⟩
set_option maxRecDepth 100000 in
set_option maxHeartbeats 3200000 in
theorem implNoi_yes (xa : Option Addr) (n cx F L : Nat) (X : Nat → Nat) (w : World) (hX : Rd w xa n X) (hcx : n ≤ cx) (h1 : 1 ≤ L) (h2 : F + L ≤ n) (h3 : n ≤ 64) (hb : binB X n 1 = true) (hg : gL X n = true) (S D : Nat) (hS : Hid (S = sumW (subX X F) L)) (hD : Hid (D = noiD S)) :
    Calls Try.prog 22 #[.slice xa n cx, .int .i64 (F : Int), .int .i64 ((F + L : Nat) : Int)] w (NRet (numQ D) (isFin .f32 D) w) := by
  have HB := Lib.hid (fun w hX => areBins_any xa n cx X w hX (by omega))
  have HG := Lib.hid (fun w hX => areAtLeastZero_any xa n cx X w hX (by omega))
  rw [hb] at HB
  rw [hg] at HG
  obtain ⟨xb, xo, hxa, hcl⟩ := hX
  have e := hxa (by omega)
  subst e
  have HR := Lib.hid (show ∀ w', Below w.heap.size w w' → Rd w' (some ⟨xb, xo, none⟩) n X from fun w' hb => Rd.below ⟨xb, xo, fun _ => rfl, hcl⟩ hb)
  have HS := Lib.hid (show ∀ w', Below w.heap.size w w' → Rd w' (some ⟨xb, xo + F, none⟩) L (subX X F) from fun w' hb => Rd.below (rd_sub hcl h2) hb)
  obtain ⟨T, hT⟩ : ∃ T, T = F + L := ⟨_, rfl⟩
  rw [← hT]
  clear hb hg hxa hcl
  have d1 : decide ((F : Int) < 0) = false := decide_eq_false (by omega)
  have d2 : decide ((T : Int) ≤ (F : Int)) = false := decide_eq_false (by omega)
  have d3 : decide ((n : Int) < (T : Int)) = false := decide_eq_false (by omega)
  go_enter Try.func22, Try.ntmps22
  go_wp2_with fail
  refine (HB.out _ (HR.out _ (Below.refl _ _))).mono ?_
  rintro e w' ⟨rfl, q1, rfl⟩
  go_wp2_with fail
  refine (HG.out _ (HR.out _ (Below.drewN (Below.refl _ _) _))).mono ?_
  rintro e w' ⟨rfl, q2, rfl⟩
  have hp := fun op => fbin_pick_l op .f32
  have hq := fun op => fbin_pick_r op .f32
  have hrp := rootT_pick
  have eD : fbin .quo .f32 S (rootT S) = D := hD.out.symm
  have HQ := Lib.hid (fun s w' hb => noiYes (D := D) (s := s) (w := w) (w' := w') hb)
  have HT := Lib.hid (fun w' hb (cap : Nat) => SumNumbers_any (some ⟨xb, xo + F, none⟩) L cap (subX X F) w' (HS.out w' hb) (by omega))
  rw [← hS.out] at HT
  clear hS hD hT
  go_wp2_with fail
  refine (HT.out _ (Below.drewN (Below.refl _ _) _) _).mono ?_
  rintro e w' ⟨s, q3, rfl, rfl⟩
  go_wp2_with (first | ((with_reducible refine wpL_fbin ?_); refine ⟨_, _, _, rfl, rfl, rfl, fun s n => ?_⟩) | (go_at_call 63; refine (RootNumber_any _ _).mono ?_; rintro e w' ⟨s', m', rfl, rfl⟩) | (go_at_call 56; refine (numI_any _ _ _).mono ?_; rintro e w' ⟨s', m', rfl, rfl⟩))
  go_ret2
  refine HQ.out _ _ ?_
  (repeat (first | with_reducible exact Below.refl _ _ | with_reducible refine Below.drewN ?_ _ | with_reducible refine Below.setCell ?_ (by simp; try omega) _ | with_reducible refine Below.alloc ?_ (by simp; try omega) _))
set_option maxRecDepth 100000 in
set_option maxHeartbeats 3200000 in
theorem specNoi_yes (xa : Option Addr) (n cx F L : Nat) (X : Nat → Nat) (w : World) (hX : Rd w xa n X) (hcx : n ≤ cx) (h1 : 1 ≤ L) (h2 : F + L ≤ n) (h3 : n ≤ 64) (hb : binB X n 1 = true) (S D R : Nat) (ok : Bool) (hS : Hid (S = sumW (subX X F) L)) (hD : Hid (D = noiD S)) (hR : Hid (R = if gL X n = true then numQ D else 0)) (ho : Hid (ok = (gL X n && isFin .f32 D))) :
    Calls Try.prog 20 #[.slice xa n cx, .int .i64 (F : Int), .int .i64 ((F + L : Nat) : Int)] w (NRet R ok w) := by
  have HB := Lib.hid (fun w hX => specBins_any xa n cx X 1 w hX (by omega))
  rw [hb] at HB
  obtain ⟨xb, xo, hxa, hcl⟩ := hX
  have e := hxa (by omega)
  subst e
  have HR := Lib.hid (show ∀ w', Below w.heap.size w w' → Rd w' (some ⟨xb, xo, none⟩) n X from fun w' hb => Rd.below ⟨xb, xo, fun _ => rfl, hcl⟩ hb)
  have HS := Lib.hid (show ∀ w', Below w.heap.size w w' → Rd w' (some ⟨xb, xo + F, none⟩) L (subX X F) from fun w' hb => Rd.below (rd_sub hcl h2) hb)
  have HC := Lib.hid hcl
  have HGF := Lib.hid (show gL X n = (List.range n).all fun i => !ltZ (X i) from gL_fin (binB_at hb).2.2)
  clear hb hxa hcl
  have d1 : inB (F : Int) 0 ((F : Int) + (L : Int) - 1) = true := inB_yes (by omega) (by omega)
  have d2 : inB ((F : Int) + (L : Int)) 1 n = true := inB_yes (by omega) (by omega)
  rw [Int.natCast_add]
  have hw : IntKind.i64.wrap ((F : Int) + (L : Int) - 1) = (F : Int) + (L : Int) - 1 := by rw [IntKind.wrap_i64]; omega
  go_enter Try.func20, Try.ntmps20
  go_wp2_with fail
  refine (HB.out _ (HR.out _ (Below.refl _ _))).mono ?_
  rintro e w' ⟨rfl, q1, rfl⟩
  go_wp2_with (first | (go_at_call 49; refine (l00In_any _ _ _ _).mono ?_; rintro e w' ⟨rfl, rfl⟩))
  go_loopw [8] (fun i wr => ∃ k m : Nat, k ≤ n ∧ i = .int .i64 k ∧ wr = w.drewN m ∧ Hid (∀ j, j < k → ltZ (X j) = false)) (fun i _ => n - (intOf i).toNat)
  case atStart => exact ⟨0, _, Nat.zero_le _, rfl, rfl, Lib.hid fun j hj => absurd hj (Nat.not_lt_zero _)⟩
  case round =>
    obtain ⟨k, m, hk, rfl, rfl, HF⟩ := hrel
    by_cases hlt : k < n
    · have hc := HC.out k hlt
      cases hz : ltZ (X k)
      · have hz' : (FloatKind.f32.format.order (X k) 0 == some .lt) = false := hz
        have HN := Lib.hid (show ∀ j, j < k + 1 → ltZ (X j) = false from fun j hj => by
          by_cases hj' : j < k
          · exact HF.out j hj'
          · rw [show j = k by omega]; exact hz)
        clear hz
        go_wp2
        go_roundw
        case rel => exact ⟨k + 1, _, by omega, by go_num, rfl, HN⟩
        case measure => simp [intOf]; omega
      · have hz' : (FloatKind.f32.format.order (X k) 0 == some .lt) = true := hz
        have HG := Lib.hid (show gL X n = false by rw [HGF.out]; exact low_no hlt hz)
        have HN := Lib.hid (show R = 0 ∧ ok = false from ⟨by rw [hR.out, HG.out, if_neg (by simp)], by rw [ho.out, HG.out, Bool.false_and]⟩)
        clear hz
        go_wp2
        go_ret2
        rw [HN.out.1, HN.out.2]
        refine ⟨0, by rw [pick_nul]; rfl, ?_⟩
        (repeat (first | with_reducible exact Below.refl _ _ | with_reducible refine Below.drewN ?_ _ | with_reducible refine Below.setCell ?_ (by simp; try omega) _ | with_reducible refine Below.alloc ?_ (by simp; try omega) _))
    · have hkn : k = n := by omega
      subst hkn
      have HG := Lib.hid (show gL X k = true by rw [HGF.out]; exact low_yes HF.out)
      have HN := Lib.hid (show R = numQ D ∧ ok = isFin .f32 D from ⟨by rw [hR.out, HG.out, if_pos rfl], by rw [ho.out, HG.out, Bool.true_and]⟩)
      have hp := fun op => fbin_pick_l op .f32
      have hq := fun op => fbin_pick_r op .f32
      have hrp := rootT_pick
      have eD : fbin .quo .f32 S (rootT S) = D := hD.out.symm
      have HQ := Lib.hid (fun s w' hb => noiYes (D := D) (s := s) (w := w) (w' := w') hb)
      have HT := Lib.hid (fun w' hb (cap : Nat) => l06Sum_any (some ⟨xb, xo + F, none⟩) L cap (subX X F) w' (HS.out w' hb) (by omega))
      have hip : ∀ s, isP (pick .f32 S s) = isP S := fun s => by unfold isP; rw [isFin_pick, order_pick_l]
      cases c : isP S
      · have HZ := Lib.hid (fun w' hb => noiNo (D := D) (w := w) (w' := w') (by rw [hD.out]; exact noiD_fin c) hb)
        rw [← hS.out] at HT
        clear hS hD HF HB HC
        go_wp2_with fail
        refine (HT.out _ (Below.drewN (Below.refl _ _) _) _).mono ?_
        rintro e w' ⟨s, q3, rfl, rfl⟩
        go_wp2_with (first | (go_at_call 47; refine (l02Above_any _ _).mono ?_; rintro e w' ⟨rfl, q, rfl⟩))
        go_ret2
        rw [HN.out.1, HN.out.2]
        refine HZ.out _ ?_
        (repeat (first | with_reducible exact Below.refl _ _ | with_reducible refine Below.drewN ?_ _ | with_reducible refine Below.setCell ?_ (by simp; try omega) _ | with_reducible refine Below.alloc ?_ (by simp; try omega) _))
      · rw [← hS.out] at HT
        clear hS hD HF HB HC
        go_wp2_with fail
        refine (HT.out _ (Below.drewN (Below.refl _ _) _) _).mono ?_
        rintro e w' ⟨s, q3, rfl, rfl⟩
        go_wp2_with (first | ((with_reducible refine wpL_fbin ?_); refine ⟨_, _, _, rfl, rfl, rfl, fun s n => ?_⟩) | (go_at_call 47; refine (l02Above_any _ _).mono ?_; rintro e w' ⟨rfl, q, rfl⟩) | (go_at_call 59; refine (l01Sqrt_any _ _).mono ?_; rintro e w' ⟨s', m', rfl, rfl⟩) | (go_at_call 54; refine (numS_any _ _ _).mono ?_; rintro e w' ⟨s', m', rfl, rfl⟩))
        go_ret2
        rw [HN.out.1, HN.out.2]
        refine HQ.out _ _ ?_
        (repeat (first | with_reducible exact Below.refl _ _ | with_reducible refine Below.drewN ?_ _ | with_reducible refine Below.setCell ?_ (by simp; try omega) _ | with_reducible refine Below.alloc ?_ (by simp; try omega) _))
/-- What is told of NoiseRatio. -/
def RetNoiseRatio (r0 : Nat) (r1 : Bool) (w : World) (e : Ending) (w' : World) : Prop := ∃ (s0 : Nat), e = .returned (.tuple #[.float .f32 (pick .f32 r0 s0), .bool r1]) ∧ Below w.heap.size w w'
theorem bothNoiseRatio (n : Nat) (X : Nat → Nat) (hn : n ≤ 1048576) (f : Int) (_ : (Lit.int .i64 f).wf = true) (t : Int) (_ : (Lit.int .i64 t).wf = true) :
    ∃ (r : Nat) (ok : Bool), (∀ (xa : Option Addr) (cx : Nat) (w : World), Rd w xa n X → n ≤ cx → Calls Try.prog 20 #[.slice xa n cx, .int .i64 f, .int .i64 t] w (RetNoiseRatio r ok w)) ∧
      ∀ (xa : Option Addr) (cx : Nat) (w : World), Rd w xa n X → n ≤ cx → Calls Try.prog 22 #[.slice xa n cx, .int .i64 f, .int .i64 t] w (RetNoiseRatio r ok w) := by
  cases hk : (binB X n 1 && (inB t 1 n && inB f 0 (t - 1)))
  · have hk2 : okNoi X n f t = false := by
      rw [okNoi]
      cases h1 : binB X n 1
      · rfl
      · rw [h1, Bool.true_and] at hk
        rw [hk, Bool.and_false]
    exact ⟨0, false, fun xa cx w hX _ => specNoi_no1 xa n cx X f t w hX hn hk, fun xa cx w hX _ => implNoi_no xa n cx X f t w hX hn hk2⟩
  · simp only [Bool.and_eq_true] at hk
    obtain ⟨hb, h1, h2⟩ := hk
    have r1 := inB_rng h1
    have r2 := inB_rng h2
    have b3 := binB_at hb
    obtain ⟨F, rfl⟩ : ∃ F : Nat, f = F := ⟨f.toNat, by omega⟩
    obtain ⟨L, rfl⟩ : ∃ L : Nat, t = ((F + L : Nat) : Int) := ⟨(t - F).toNat, by omega⟩
    cases hg : gL X n
    · have hk2 : okNoi X n F ((F + L : Nat) : Int) = false := by rw [okNoi, hg, Bool.and_false]; rfl
      refine ⟨0, false, fun xa cx w hX hc => specNoi_yes xa n cx F L X w hX hc (by omega) (by omega) (by omega) hb _ _ _ _ (Lib.hid rfl) (Lib.hid rfl) (Lib.hid (by rw [hg, if_neg (by simp)])) (Lib.hid (by rw [hg]; rfl)), fun xa cx w hX _ => implNoi_no xa n cx X _ _ w hX hn hk2⟩
    · refine ⟨_, _, fun xa cx w hX hc => specNoi_yes xa n cx F L X w hX hc (by omega) (by omega) (by omega) hb _ _ _ _ (Lib.hid rfl) (Lib.hid rfl) (Lib.hid (by rw [hg, if_pos rfl])) (Lib.hid (by rw [hg, Bool.true_and])), fun xa cx w hX hc => implNoi_yes xa n cx F L X w hX hc (by omega) (by omega) (by omega) hb hg _ _ (Lib.hid rfl) (Lib.hid rfl)⟩
set_option maxRecDepth 100000 in
set_option maxHeartbeats 6400000 in
theorem lawNoiseRatio_in (W : World) (x0 : Option Addr) (n0 c0 : Nat) (X0 : Nat → Nat) (hX0 : Rd W x0 n0 X0) (a1 : Int) (_wf1 : (Lit.int .i64 a1).wf = true) (a2 : Int) (_wf2 : (Lit.int .i64 a2).wf = true) (h0 : n0 ≤ 1048576) (r0 : Nat) (r1 : Bool) (HS : Hid (∀ (x0 : Option Addr) (c0 : Nat) (w : World), Rd w x0 n0 X0 → n0 ≤ c0 → Calls Try.prog 20 #[.slice x0 n0 c0, .int .i64 a1, .int .i64 a2] w (RetNoiseRatio r0 r1 w))) (HI : Hid (∀ (x0 : Option Addr) (c0 : Nat) (w : World), Rd w x0 n0 X0 → n0 ≤ c0 → Calls Try.prog 22 #[.slice x0 n0 c0, .int .i64 a1, .int .i64 a2] w (RetNoiseRatio r0 r1 w))) :
    Calls Try.prog 5 #[.slice x0 n0 c0, .int .i64 a1, .int .i64 a2] W fun e w' => e = .returned (.bool true) ∧ Below W.heap.size W w' := by
  have hcv := fun (R : Nat) (s t : Nat) => show canon .f64 (pick .f64 (fconv .f32 (pick .f32 R s) .f64) t) = canon .f64 (fconv .f32 R .f64) by rw [canon_pick, fconv_pick]
  have hcw := fun (R : Nat) (s t : Nat) => show canon .f64 (pick .f64 R s) = canon .f64 (pick .f64 R t) by rw [canon_pick, canon_pick]
  have HCV := Lib.hid hcv
  have HCW := Lib.hid hcw
  clear hcv hcw
  have hnb1 : (r1 != r1) = false := by simp
  have HB := Blw.refl W
  go_enter Try.func5, Try.ntmps5
  go_wp2_with fail
  refine (toF_any _ _ _ X0 _ (by exact hX0.below (Blw.out (by exact HB))) h0).mono ?_
  rintro e0 w0 ⟨rfl, O0, B0⟩
  replace HB := Blw.next (by exact HB) B0
  have C0 := O0
  clear O0 B0
  go_wp2_with fail
  refine (HS.out _ _ _ (rd_own (by exact C0)) (Nat.le_refl _)).mono ?_
  rintro e0 w1 ⟨sw0, rfl, B0⟩
  clear C0
  replace HB := Blw.next (by exact HB) B0
  clear B0
  have Z0 := hX0.below HB.out
  have HL := Blw.refl w1
  have E0 := (Blw.out (by exact HL)).size
  go_wp2_with fail
  refine (toF_any _ _ _ X0 _ (by exact Z0.below (Blw.out (by exact HL))) h0).mono ?_
  rintro e0 w0 ⟨rfl, O0, B0⟩
  replace HL := Blw.next (by exact HL) B0
  have D0 := O0
  clear O0 B0
  have Qg0 := own_lt (by exact D0)
  have Eg := (Blw.out (by exact HL)).size
  go_wp2_with fail
  refine (HI.out _ _ _ (rd_own (by exact D0)) (Nat.le_refl _)).mono ?_
  rintro e0 w2 ⟨sg0, rfl, B0⟩
  replace D0 := own_below (by exact D0) B0
  replace HL := Blw.next (by exact HL) B0
  clear B0
  go_wp2_with (first | ((with_reducible refine wpL_fconv ?_); refine ⟨_, _, _, rfl, Option.isSome_iff_exists.2 ⟨_, Try.underlying22⟩, Try.underlying26, FloatKind.noConfusion, convOk_widen _, fun s n => ?_⟩) | ((with_reducible refine wpL_fconv_g ?_); refine ⟨rfl, _, _, _, rfl, Option.isSome_iff_exists.2 ⟨_, Try.underlying22⟩, Try.underlying26, FloatKind.noConfusion, convOk_widen _, fun s n => ?_⟩))
  refine (sameFloat_any _ _ _ ((HCV.out _ _ _).trans (HCV.out _ _ _).symm)).mono ?_
  rintro e0 w0 ⟨rfl, q, rfl⟩
  go_wp2_with fail
  refine (toF_any _ _ _ X0 _ (by exact Z0.below (Blw.out (by exact HL))) h0).mono ?_
  rintro e0 w0 ⟨rfl, O0, B0⟩
  replace D0 := own_below (by exact D0) B0
  replace HL := Blw.next (by exact HL) B0
  have K0 := O0
  clear O0 B0
  go_wp2_with fail
  refine (eqF_any _ _ _ _ _ X0 X0 _ (by exact rd_own (by exact D0)) (by exact rd_own (by exact K0)) h0 (fun _ _ => rfl)).mono ?_
  rintro e0 w0 ⟨rfl, q, rfl⟩
  clear K0
  go_wp2
  go_ret
  exact ⟨rfl, (Blw.out (by exact HB)).trans ((Blw.out (by exact HL)).mono (Blw.out (by exact HB)).size)⟩
set_option maxHeartbeats 1600000 in
theorem lawNoiseRatio_any (W : World) (x0 : Option Addr) (n0 c0 : Nat) (X0 : Nat → Nat) (hX0 : Rd W x0 n0 X0) (a1 : Int) (_wf1 : (Lit.int .i64 a1).wf = true) (a2 : Int) (_wf2 : (Lit.int .i64 a2).wf = true) :
    Calls Try.prog 5 #[.slice x0 n0 c0, .int .i64 a1, .int .i64 a2] W fun e w' => e = .returned (.bool true) ∧ Below W.heap.size W w' := by
  by_cases h0 : n0 ≤ 1048576
  · skip
    obtain ⟨r0, r1, hs, hi⟩ := bothNoiseRatio n0 X0 h0 a1 _wf1 a2 _wf2
    exact lawNoiseRatio_in W x0 n0 c0 X0 hX0 a1 _wf1 a2 _wf2 h0 r0 r1 (Lib.hid hs) (Lib.hid hi)
  · have h' : (1048576 : Int) < (n0 : Int) := by omega
    go_enter Try.func5, Try.ntmps5
    go_wp2
    go_ret
    exact ⟨rfl, (Blw.refl W).out⟩
set_option maxRecDepth 100000 in
theorem FnExactNoiseRatio_lifted (os : Os) (started : os.Started) (H : Type) (enc : TypeId × Value → H) :
    ReturnsInHanded {} Try.checked os 5 .any (Rows.fnExactNoiseRatioSpec.pre6 enc Try.prog Try.f5 Rows.fnExactNoiseRatioRow.domain false) (Rows.fnExactNoiseRatioSpec.post enc Try.prog Try.f5 false true false false) := by
  refine returnsInHanded_of_change (C := Try.checked) ownKnob_none started (by kernel_rfl) Try.func5
    (ChangeSpec.witness6 (enc := enc) (C := Try.checked) false ⟨#[], #[.slice none 0 0, .int .i64 0, .int .i64 0], []⟩ 8 (by kernel_rfl) (by kernel_rfl) (by kernel_rfl) (by kernel_rfl)) ?_
  intro W base args ds gs before hval0 hW _ _
  have hval : ∀ (j : Nat) t v, Try.f5.params[j]? = some t → args[j]? = some v → Value.okWide Try.prog W .any base t v := hval0
  have hW' := hW
  obtain ⟨p, q, hA0, hV, rfl, _, _⟩ := hW
  have hA : DataW.TrodAll enc Try.prog W 0 (fun _ => true) true Try.f5.params.toList args.toList ds p := hA0
  rw [Try.params5] at hA hval
  obtain ⟨v0, v1, v2, d0, d1, d2, p0, p1, p2, rfl, rfl, rfl, h0, h1, h2⟩ := trodAll_three hA
  obtain ⟨rfl, rfl⟩ := trodVars_none hV
  obtain ⟨x0, n0, c0, rfl⟩ := okWide_slice Try.underlying30 (hval 0 30 v0 rfl rfl)
  have k0 := h0
  obtain ⟨_, _, a0, w0, _⟩ := open_f32s Try.underlying30 Try.underlying22 cellsF h0
  have b0 : ∀ x ∈ p0, x.block < W.heap.size := fun x hx => by have := hW'.lt x (by simp [hx]); simpa using this
  obtain ⟨a1, rfl, rfl, rfl, w1⟩ := open_int Try.underlying2 (hval 1 2 v1 rfl rfl) h1
  obtain ⟨a2, rfl, rfl, rfl, w2⟩ := open_int Try.underlying2 (hval 2 2 v2 rfl rfl) h2
  clear hA0 hval0
  refine (lawNoiseRatio_any W x0 n0 c0 a0 w0 a1 w1 a2 w2).mono fun e W' ⟨he, hb⟩ => ?_
  subst he
  have hA2 := trodAll_mk3 (enc := enc) (w := W') (base := 0) (spare := fun b => decide (b < W.heap.size)) (held := true) (Below.trod laidOut (by kernel_rfl) (of_decide_eq_true (by kernel_rfl)) k0 hb b0) (shut_int Try.underlying2 w1) (shut_int Try.underlying2 w2)
  exact ⟨_, rfl, _, _, _, [], _, [], hW', trodAll_cons_mk (shut_bool Try.underlying4 _) trodAll_mk0, hA2, rfl, hb.frame _, fun h => by cases h⟩
theorem FnExactNoiseRatio_holds : Rows.FnExactNoiseRatioSaid :=
  OpenClaim.holds_of_wide 5 Try.f5 rfl rfl rfl rfl rfl rfl rfl ⟨rfl, rfl, rfl, rfl, rfl⟩ rfl rfl rfl rfl rfl (by kernel_rfl) Try.func5 (by kernel_rfl)
    (of_decide_eq_true (by kernel_rfl)) (by unfold Func.isWrapper; first | (rw [if_pos (by decide +kernel)]; kernel_rfl) | (rw [if_neg (by decide +kernel)]; exact ⟨rfl, rfl⟩))
    (fun os started H enc _ => FnExactNoiseRatio_lifted os started H enc)
end Go.Proofs.Ytfnapaijfdiflaa
