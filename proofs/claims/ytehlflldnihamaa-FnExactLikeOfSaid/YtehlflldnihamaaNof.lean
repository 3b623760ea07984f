/- Of any list the program tells the numbers divided by the root of the sum of their squares just where the model does, and the same; the list is not changed: for all arguments. -/
import Derived.Test.YtehlflldnihamaaSame
import Derived.Test.YtehlflldnihamaaGiv
import Derived.Test.YtehlflldnihamaaDiv
import Derived.Test.YtehlflldnihamaaAlk
import Derived.Test.YtehlflldnihamaaNrm
import Derived.Test.YtehlflldnihamaaLiC
import Derived.Test.YtehlflldnihamaaLaw
namespace Go.Proofs.Ytehlflldnihamaa
open Go Go.ChangeShapes Go.WideShapes Go.ChangeAt Go.RowKit

/-- Whether there is a normal list, and which. -/
def nrmB (X : Nat → Nat) (n : Nat) : Bool := isP (dotW X X n)
def nrmR (X : Nat → Nat) (n : Nat) : Nat → Nat := divR X (rootT (dotW X X n))
theorem nrm_bd {X : Nat → Nat} {n j : Nat} (hp : nrmB X n = true) (hx : finL X n = true) (hj : j < n) : Bd .f32 (nrmR X n j) 2 := norm_bd hp hj (finL_at hx j hj)
theorem nrm_fin {X : Nat → Nat} {n : Nat} (hp : nrmB X n = true) (hx : finL X n = true) : finL (nrmR X n) n = true := finL_yes fun _ hj => bd_finN (nrm_bd hp hx hj)
set_option maxRecDepth 100000 in
set_option maxHeartbeats 3200000 in
theorem l07Normal_any (xa : Option Addr) (n cx : Nat) (X : Nat → Nat) (w : World) (hX : Rd w xa n X) (hn : n ≤ 1048576) (hfx : finL X n = true) (ok : Bool) (ho : Hid (ok = nrmB X n)) (m : Nat) (hm : Hid (m = if ok = true then n else 0)) :
    Calls Try.prog 49 #[.slice xa n cx] w (LstRet (nrmR X n) m ok w) := by
  obtain ⟨i0, hi, hz0, hz1, hz2⟩ := info_parts infoF
  have HP := Lib.hid (fun w hX => l05Prod_any xa xa n n cx cx X X w hX hX hn (Nat.le_refl _))
  obtain ⟨S, hS⟩ : ∃ S, S = dotW X X n := ⟨_, rfl⟩
  rw [← hS] at HP
  have ho1 := order_pick_l .f32
  have hip := isFin_pick .f32
  cases hp : isP S
  · have HN := Lib.hid (fun w' (hb : Below w.heap.size w w') => show LstRet (nrmR X n) m ok w (.returned (.tuple #[.slice none 0 0, .bool false])) w' by
      have e : ok = false := by rw [ho.out, nrmB, ← hS, hp]
      rw [hm.out, e, if_neg (by simp)]; exact lstNo hb)
    cases hf : isFin .f32 S
    · clear hS hp
      go_enter Try.func49, Try.ntmps49
      go_wp2_with (first | (go_at_call 87; refine (HP.out _ (by exact hX)).mono ?_; rintro e w' ⟨s1, q1, rfl, rfl⟩) | (first | (go_at_call 69; refine (l01Finite_any _ _).mono ?_; rintro e w' ⟨rfl, q, rfl⟩)))
      go_ret2
      refine HN.out _ ?_
      (repeat (first | with_reducible exact Below.refl _ _ | with_reducible refine Below.drewN ?_ _ | with_reducible refine Below.setCell ?_ (by simp; try omega) _ | with_reducible refine Below.alloc ?_ (by simp; try omega) _))
    · have hz' : (FloatKind.f32.format.order S 0 == some .gt) = false := by
        unfold isP at hp
        rw [hf, Bool.true_and] at hp
        exact hp
      clear hS hp
      go_enter Try.func49, Try.ntmps49
      go_wp2_with (first | (go_at_call 87; refine (HP.out _ (by exact hX)).mono ?_; rintro e w' ⟨s1, q1, rfl, rfl⟩) | (first | (go_at_call 69; refine (l01Finite_any _ _).mono ?_; rintro e w' ⟨rfl, q, rfl⟩)))
      go_ret2
      refine HN.out _ ?_
      (repeat (first | with_reducible exact Below.refl _ _ | with_reducible refine Below.drewN ?_ _ | with_reducible refine Below.setCell ?_ (by simp; try omega) _ | with_reducible refine Below.alloc ?_ (by simp; try omega) _))
  · have hf : isFin .f32 S = true := by unfold isP at hp; rw [Bool.and_eq_true] at hp; exact hp.1
    have hz' : (FloatKind.f32.format.order S 0 == some .gt) = true := by unfold isP at hp; rw [Bool.and_eq_true] at hp; exact hp.2
    have hE : ok = true := by rw [ho.out, nrmB, ← hS, hp]
    have HM := Lib.hid (show m = n by rw [hm.out, hE, if_pos rfl])
    have HB := Lib.hid (show isP (dotW X X n) = true by rw [← hS, hp])
    obtain ⟨D, hD⟩ : ∃ D, D = rootT S := ⟨_, rfl⟩
    obtain ⟨R, hR⟩ : ∃ R, R = divR X D := ⟨_, rfl⟩
    have HR := Lib.hid hR
    have HRR := Lib.hid (show R = nrmR X n by rw [hR, hD, hS, nrmR])
    have HFR := Lib.hid (show finL R n = true by rw [HRR.out]; exact nrm_fin (by rw [nrmB, ← hS, hp]) hfx)
    have hrt : rootT S = D := hD.symm
    have hrp := rootT_pick
    have hq := fbin_pick_r .quo .f32
    subst hE
    have hX' := hX
    obtain ⟨xb, xo, hxa, hcx⟩ := hX'
    clear hS hp hD hR
    by_cases h0 : 0 < n
    · have e := hxa h0
      subst e
      have HX := Lib.hid hcx
      clear hcx hxa
      go_enter Try.func49, Try.ntmps49
      go_wp2_with (first | (go_at_call 87; refine (HP.out _ (by exact hX)).mono ?_; rintro e w' ⟨s1, q1, rfl, rfl⟩) | (first | (go_at_call 69; refine (l01Finite_any _ _).mono ?_; rintro e w' ⟨rfl, q, rfl⟩) | (go_at_call 88; refine (l01Sqrt_any _ _).mono ?_; rintro e w' ⟨s', m', rfl, rfl⟩)))
      go_loopw [6, 24] (fun v i wr => ∃ (c : Nat) (Z : Nat → Nat), c ≤ n ∧ i = .int .i64 (c : Int) ∧ wr.ownsRow w.heap.size 31 1 v c (rowOf Z c) ∧ Like Z R c ∧ Below w.heap.size w wr) (fun _ i _ => n - (intOf i).toNat)
      case atStart => exact ⟨0, fun _ => 0, Nat.zero_le _, rfl, own_empty (w.drewN _) _, fun _ h => absurd h (Nat.not_lt_zero _), Below.alloc (Below.drewN (Below.refl _ _) _) (Nat.le_refl _) _⟩
      case round =>
        obtain ⟨c, Z, hc, rfl, hownk, hL, hBk⟩ := hrel
        have hsz := hBk.size
        by_cases hltc : c < n
        · have c0 := HX.out c hltc
          have c1 := (hBk.cell (p := ⟨xb, xo + c, none⟩) (World.block_lt_of_cell? w _ c0)).trans c0
          clear c0
          have hd : fbin .quo .f32 (X c) D = R c := by rw [HR.out]; rfl
          obtain ⟨U, hU⟩ : ∃ U, U = R c := ⟨_, rfl⟩
          rw [← hU] at hd
          have HU := Lib.hid hU
          clear hU
          go_wp2_with (first | ((with_reducible refine wpL_fbin ?_); refine ⟨_, _, _, rfl, rfl, rfl, fun s n => ?_⟩) | (at_builtin; refine wpL_push hi hz0 hz1 hz2 rfl rfl rfl rfl (by exact own_drew hownk _) (by omega) (by exact hsz) ?_; intro v' w1 hown' hB'))
          go_roundw
          case rel => exact ⟨c + 1, _, by omega, by go_num, hown', like_push hL (by rw [← HU.out]), Below.trans (Below.drewN hBk _) hB'⟩
          case measure => simp [intOf]; omega
        · have hck : c = n := by omega
          subst hck
          go_wp2_with fail
          refine (l07Give_any _ _ c Z _ (by exact hownk) (by omega)).mono ?_
          rintro e w' ⟨rfl, q2, rfl⟩
          have hfz : finL Z c = true := by rw [finL_like hL]; exact HFR.out
          rw [hfz]
          go_wp2
          go_ret2
          rw [HM.out, ← HRR.out]
          exact lstYes hL hownk (by omega) (Below.drewN hBk _)
    · exfalso
      obtain rfl : n = 0 := by omega
      have e0 : isP 0 = false := by decide +kernel
      have e1 : isP 0 = true := HB.out
      rw [e0] at e1
      cases e1
set_option maxRecDepth 100000 in
set_option maxHeartbeats 3200000 in
theorem specNof_any (xa : Option Addr) (n cx : Nat) (X : Nat → Nat) (w : World) (hX : Rd w xa n X) (hn : n ≤ 1048576) (ok : Bool) (ho : Hid (ok = (okLst X n && nrmB X n))) (m : Nat) (hm : Hid (m = if ok = true then n else 0)) :
    Calls Try.prog 15 #[.slice xa n cx] w (LstRet (nrmR X n) m ok w) := by
  cases hk : okLst X n
  · have HT := Lib.hid (fun w hX => specLst_any xa n cx X w hX hn false (Lib.hid hk.symm))
    have HN := Lib.hid (fun w' (hb : Below w.heap.size w w') => show LstRet (nrmR X n) m ok w (.returned (.tuple #[.slice none 0 0, .bool false])) w' by
      have e : ok = false := by rw [ho.out, hk]; rfl
      rw [hm.out, e, if_neg (by simp)]; exact lstNo hb)
    clear hk
    go_enter Try.func15, Try.ntmps15
    go_wp2_with (go_at_call 48; refine (HT.out _ (by exact hX)).mono ?_; rintro e w' ⟨rfl, q, rfl⟩)
    go_ret2
    refine HN.out _ ?_
    (repeat (first | with_reducible exact Below.refl _ _ | with_reducible refine Below.drewN ?_ _ | with_reducible refine Below.setCell ?_ (by simp; try omega) _ | with_reducible refine Below.alloc ?_ (by simp; try omega) _))
  · have HT := Lib.hid (fun w hX => specLst_any xa n cx X w hX hn true (Lib.hid hk.symm))
    have HC := Lib.hid (fun w hX => l07Normal_any xa n cx X w hX hn (okLst_at hk).1 ok (Lib.hid (by rw [ho.out, hk, Bool.true_and])) m hm)
    clear hk
    cases ok
    · go_enter Try.func15, Try.ntmps15
      go_wp2_with (go_at_call 48; refine (HT.out _ (by exact hX)).mono ?_; rintro e w' ⟨rfl, q, rfl⟩)
      refine (HC.out _ (by exact hX)).mono ?_
      rintro e w' ⟨v, Y, rfl, h1, h2, h3, h4⟩
      go_wp2
      go_ret2
      exact ⟨v, Y, rfl, h1, h2, h3, Below.trans (Below.drewN (Below.refl _ w) q) h4⟩
    · go_enter Try.func15, Try.ntmps15
      go_wp2_with (go_at_call 48; refine (HT.out _ (by exact hX)).mono ?_; rintro e w' ⟨rfl, q, rfl⟩)
      refine (HC.out _ (by exact hX)).mono ?_
      rintro e w' ⟨v, Y, rfl, h1, h2, h3, h4⟩
      go_wp2
      go_ret2
      exact ⟨v, Y, rfl, h1, h2, h3, Below.trans (Below.drewN (Below.refl _ w) q) h4⟩
set_option maxRecDepth 100000 in
set_option maxHeartbeats 3200000 in
theorem implNof_any (xa : Option Addr) (n cx : Nat) (X : Nat → Nat) (w : World) (hX : Rd w xa n X) (hn : n ≤ 1048576) (ok : Bool) (ho : Hid (ok = (okLst X n && nrmB X n))) (m : Nat) (hm : Hid (m = if ok = true then n else 0)) :
    Calls Try.prog 17 #[.slice xa n cx] w (LstRet (nrmR X n) m ok w) := by
  cases hk : okLst X n
  · have HT := Lib.hid (fun w hX => implLst_any xa n cx X w hX hn false (Lib.hid hk.symm))
    have HN := Lib.hid (fun w' (hb : Below w.heap.size w w') => show LstRet (nrmR X n) m ok w (.returned (.tuple #[.slice none 0 0, .bool false])) w' by
      have e : ok = false := by rw [ho.out, hk]; rfl
      rw [hm.out, e, if_neg (by simp)]; exact lstNo hb)
    clear hk
    go_enter Try.func17, Try.ntmps17
    go_wp2_with (go_at_call 50; refine (HT.out _ (by exact hX)).mono ?_; rintro e w' ⟨rfl, q, rfl⟩)
    go_ret2
    refine HN.out _ ?_
    (repeat (first | with_reducible exact Below.refl _ _ | with_reducible refine Below.drewN ?_ _ | with_reducible refine Below.setCell ?_ (by simp; try omega) _ | with_reducible refine Below.alloc ?_ (by simp; try omega) _))
  · have HT := Lib.hid (fun w hX => implLst_any xa n cx X w hX hn true (Lib.hid hk.symm))
    have HS := Lib.hid (fun w hX => sumSq_any xa n cx X w hX hn)
    obtain ⟨S, hS⟩ : ∃ S, S = dotW X X n := ⟨_, rfl⟩
    rw [← hS] at HS
    have hip : ∀ s, isP (pick .f32 S s) = isP S := fun s => by unfold isP; rw [isFin_pick, order_pick_l]
    cases hp : isP S
    · have HN := Lib.hid (fun w' (hb : Below w.heap.size w w') => show LstRet (nrmR X n) m ok w (.returned (.tuple #[.slice none 0 0, .bool false])) w' by
        have e : ok = false := by rw [ho.out, nrmB, ← hS, hp, Bool.and_false]
        rw [hm.out, e, if_neg (by simp)]; exact lstNo hb)
      clear hk hS
      go_enter Try.func17, Try.ntmps17
      go_wp2_with (first | (go_at_call 50; refine (HT.out _ (by exact hX)).mono ?_; rintro e w' ⟨rfl, q, rfl⟩) | (go_at_call 51; refine (HS.out _ (by exact hX)).mono ?_; rintro e w' ⟨s1, q1, rfl, rfl⟩) | (first | (go_at_call 52; refine (isPositive_any _ _).mono ?_; rintro e w' ⟨rfl, q, rfl⟩)))
      go_ret2
      refine HN.out _ ?_
      (repeat (first | with_reducible exact Below.refl _ _ | with_reducible refine Below.drewN ?_ _ | with_reducible refine Below.setCell ?_ (by simp; try omega) _ | with_reducible refine Below.alloc ?_ (by simp; try omega) _))
    · have hE : ok = true := by rw [ho.out, nrmB, ← hS, hp, hk]; rfl
      have HM := Lib.hid (show m = n by rw [hm.out, hE, if_pos rfl])
      obtain ⟨D, hD⟩ : ∃ D, D = rootT S := ⟨_, rfl⟩
      have HRR := Lib.hid (show divR X D = nrmR X n by rw [hD, hS, nrmR])
      have hrt : rootT S = D := hD.symm
      have hrp := rootT_pick
      subst hE
      clear hk hS hD
      go_enter Try.func17, Try.ntmps17
      go_wp2_with (first | (go_at_call 50; refine (HT.out _ (by exact hX)).mono ?_; rintro e w' ⟨rfl, q, rfl⟩) | (go_at_call 51; refine (HS.out _ (by exact hX)).mono ?_; rintro e w' ⟨s1, q1, rfl, rfl⟩) | (first | (go_at_call 52; refine (isPositive_any _ _).mono ?_; rintro e w' ⟨rfl, q, rfl⟩) | (go_at_call 54; refine (RootNumber_any _ _).mono ?_; rintro e w' ⟨s', m', rfl, rfl⟩)))
      refine (div_any _ _ _ X D _ _ (by exact hX) hn).mono ?_
      rintro e w3 ⟨v, Z, rfl, hown, hL, hB⟩
      go_wp2
      go_ret2
      rw [HM.out, ← HRR.out]
      refine lstYes hL.like hown hn ?_
      exact Below.trans (Below.drewN (Below.refl _ w) _) hB
/-- What is told of NormalOf. -/
def RetNormalOf (R0 : Nat → Nat) (m0 : Nat) (r1 : Bool) (w : World) (e : Ending) (w' : World) : Prop := ∃ (v0 : Value) (Y0 : Nat → Nat), e = .returned (.tuple #[v0, .bool r1]) ∧ w'.ownsRow w.heap.size 31 1 v0 m0 (rowOf Y0 m0) ∧ Like Y0 R0 m0 ∧ m0 ≤ 1048576 ∧ Below w.heap.size w w'
theorem bothNormalOf (N : Nat) (X : Nat → Nat) (hN : N ≤ 1048576) :
    ∃ (R : Nat → Nat) (m : Nat) (ok : Bool), (∀ (xa : Option Addr) (c : Nat) (w : World), Rd w xa N X → Calls Try.prog 15 #[.slice xa N c] w (RetNormalOf R m ok w)) ∧
      ∀ (xa : Option Addr) (c : Nat) (w : World), Rd w xa N X → Calls Try.prog 17 #[.slice xa N c] w (RetNormalOf R m ok w) :=
  ⟨_, _, _, fun xa c w hX => specNof_any xa N c X w hX hN _ (Lib.hid rfl) _ (Lib.hid rfl), fun xa c w hX => implNof_any xa N c X w hX hN _ (Lib.hid rfl) _ (Lib.hid rfl)⟩
set_option maxRecDepth 100000 in
set_option maxHeartbeats 6400000 in
theorem lawNormalOf_in (W : World) (x0 : Option Addr) (n0 c0 : Nat) (X0 : Nat → Nat) (hX0 : Rd W x0 n0 X0) (h0 : n0 ≤ 1048576) (R0 : Nat → Nat) (m0 : Nat) (r1 : Bool) (HS : Hid (∀ (x0 : Option Addr) (c0 : Nat) (w : World), Rd w x0 n0 X0 → Calls Try.prog 15 #[.slice x0 n0 c0] w (RetNormalOf R0 m0 r1 w))) (HI : Hid (∀ (x0 : Option Addr) (c0 : Nat) (w : World), Rd w x0 n0 X0 → Calls Try.prog 17 #[.slice x0 n0 c0] w (RetNormalOf R0 m0 r1 w))) :
    Calls Try.prog 3 #[.slice x0 n0 c0] W fun e w' => e = .returned (.bool true) ∧ Below W.heap.size W w' := by
  have hcv := fun (R : Nat) (s t : Nat) => show canon .f64 (pick .f64 (fconv .f32 (pick .f32 R s) .f64) t) = canon .f64 (fconv .f32 R .f64) by rw [canon_pick, fconv_pick]
  have hcw := fun (R : Nat) (s t : Nat) => show canon .f64 (pick .f64 R s) = canon .f64 (pick .f64 R t) by rw [canon_pick, canon_pick]
  have HCV := Lib.hid hcv
  have HCW := Lib.hid hcw
  clear hcv hcw
  have hnb1 : (r1 != r1) = false := by simp
  have HB := Blw.refl W
  go_enter Try.func3, Try.ntmps3
  go_wp2_with fail
  refine (toF_any _ _ _ X0 _ (by exact hX0.below (Blw.out (by exact HB))) h0).mono ?_
  rintro e0 w0 ⟨rfl, O0, B0⟩
  replace HB := Blw.next (by exact HB) B0
  have C0 := O0
  clear O0 B0
  go_wp2_with fail
  refine (HS.out _ _ _ (rd_own (by exact C0))).mono ?_
  rintro e0 w1 ⟨vw0, Yw0, rfl, Ow0, Lw0, mw0, B0⟩
  clear C0
  replace HB := Blw.next (by exact HB) B0
  clear B0
  have Z0 := hX0.below HB.out
  obtain ⟨xw0, cw0, rfl, _, _, Rw0⟩ := rd_of_own Ow0
  clear Ow0
  have HL := Blw.refl w1
  have E0 := (Blw.out (by exact HL)).size
  go_wp2_with fail
  refine (toF_any _ _ _ X0 _ (by exact Z0.below (Blw.out (by exact HL))) h0).mono ?_
  rintro e0 w0 ⟨rfl, O0, B0⟩
  replace HL := Blw.next (by exact HL) B0
  have D0 := O0
  clear O0 B0
  have Qg0 := own_lt (by exact D0)
  have Eg := (Blw.out (by exact HL)).size
  go_wp2_with fail
  refine (HI.out _ _ _ (rd_own (by exact D0))).mono ?_
  rintro e0 w2 ⟨vg0, Yg0, rfl, Og0, Lg0, mg0, B0⟩
  replace D0 := own_below (by exact D0) B0
  replace HL := Blw.next (by exact HL) B0
  clear B0
  have O_0 := Og0
  obtain ⟨xg0, cg0, rfl, _, _, Rg0⟩ := rd_of_own O_0
  clear O_0
  go_wp2_with fail
  refine (eqF_any _ _ _ _ _ Yg0 Yw0 _ (by exact Rg0) (by exact Rw0.below (Blw.out (by exact HL))) mw0 (fun i hi => (Lg0 i hi).trans (Lw0 i hi).symm)).mono ?_
  rintro e0 w0 ⟨rfl, q, rfl⟩
  go_wp2_with fail
  refine (toF_any _ _ _ X0 _ (by exact Z0.below (Blw.out (by exact HL))) h0).mono ?_
  rintro e0 w0 ⟨rfl, O0, B0⟩
  replace D0 := own_below (by exact D0) B0
  replace Og0 := own_below (by exact Og0) B0
  replace HL := Blw.next (by exact HL) B0
  have K0 := O0
  clear O0 B0
  go_wp2_with fail
  refine (eqF_any _ _ _ _ _ X0 X0 _ (by exact rd_own (by exact D0)) (by exact rd_own (by exact K0)) h0 (fun _ _ => rfl)).mono ?_
  rintro e0 w0 ⟨rfl, q, rfl⟩
  clear K0
  go_wp2_with fail
  refine (markX_any _ _ n0 _ X0 _ _ (by exact D0) h0 (by omega) (by omega)).mono ?_
  rintro e0 w0 ⟨rfl, N0⟩
  replace Og0 := own_only (by exact Og0) (by exact Qg0) N0
  replace HL := Blw.only (by exact HL) E0 N0
  clear N0 D0
  have hk1 : (0 : Int) ≤ 1 + (n0 : Int) := by omega
  replace Rg0 := rd_own' (by exact Og0)
  go_wp2_with fail
  refine (eqF_any _ _ _ _ _ Yg0 Yw0 _ (by exact Rg0) (by exact Rw0.below (Blw.out (by exact HL))) mw0 (fun i hi => (Lg0 i hi).trans (Lw0 i hi).symm)).mono ?_
  rintro e0 w0 ⟨rfl, q, rfl⟩
  clear Rg0
  go_wp2_with fail
  refine (markF_any _ _ m0 Yg0 _ _ (by exact Og0) mg0 (by omega) (by omega)).mono ?_
  rintro e0 w0 ⟨rfl, Ok0, B0⟩
  replace HL := Blw.nextB (by exact HL) (B0.mono Eg)
  clear B0 Og0
  have hm1 : (0 : Int) ≤ 1 + (m0 : Int) := by omega
  go_wp2_with fail
  refine (heldF_any _ _ m0 _ _ (by exact Ok0) mg0 (by omega) (by omega)).mono ?_
  rintro e0 w0 ⟨rfl, rfl⟩
  go_wp2_with fail
  refine (toF_any _ _ _ X0 _ (by exact Z0.below (Blw.out (by exact HL))) h0).mono ?_
  rintro e0 w0 ⟨rfl, O0, B0⟩
  replace Ok0 := own_below (by exact Ok0) B0
  replace HL := Blw.next (by exact HL) B0
  have C0 := O0
  clear O0 B0
  go_wp2_with fail
  refine (HI.out _ _ _ (rd_own (by exact C0))).mono ?_
  rintro e0 w3 ⟨vh0, Yh0, rfl, Oh0, Lh0, mh0, B0⟩
  replace Ok0 := own_below (by exact Ok0) B0
  clear C0
  replace HL := Blw.next (by exact HL) B0
  clear B0
  obtain ⟨xh0, ch0, rfl, _, _, Rh0⟩ := rd_of_own Oh0
  clear Oh0
  go_wp2_with fail
  refine (eqF_any _ _ _ _ _ Yh0 Yw0 _ (by exact Rh0) (by exact Rw0.below (Blw.out (by exact HL))) mw0 (fun i hi => (Lh0 i hi).trans (Lw0 i hi).symm)).mono ?_
  rintro e0 w0 ⟨rfl, q, rfl⟩
  clear Rh0
  go_wp2_with fail
  refine (heldF_any _ _ m0 _ _ (by exact Ok0) mg0 (by omega) (by omega)).mono ?_
  rintro e0 w0 ⟨rfl, rfl⟩
  go_wp2
  go_ret
  exact ⟨rfl, (Blw.out (by exact HB)).trans ((Blw.out (by exact HL)).mono (Blw.out (by exact HB)).size)⟩
set_option maxRecDepth 100000 in
set_option maxHeartbeats 1600000 in
theorem lawNormalOf_any (W : World) (x0 : Option Addr) (n0 c0 : Nat) (X0 : Nat → Nat) (hX0 : Rd W x0 n0 X0) :
    Calls Try.prog 3 #[.slice x0 n0 c0] W fun e w' => e = .returned (.bool true) ∧ Below W.heap.size W w' := by
  by_cases h0 : n0 ≤ 1048576
  · skip
    obtain ⟨R0, m0, r1, hs, hi⟩ := bothNormalOf n0 X0 h0
    exact lawNormalOf_in W x0 n0 c0 X0 hX0 h0 R0 m0 r1 (Lib.hid hs) (Lib.hid hi)
  · have h' : (1048576 : Int) < (n0 : Int) := by omega
    go_enter Try.func3, Try.ntmps3
    go_wp2
    go_ret
    exact ⟨rfl, (Blw.refl W).out⟩
set_option maxRecDepth 100000 in
theorem FnExactNormalOf_lifted (os : Os) (started : os.Started) (H : Type) (enc : TypeId × Value → H) :
    ReturnsInHanded {} Try.checked os 3 .any (Rows.fnExactNormalOfSpec.pre6 enc Try.prog Try.f3 Rows.fnExactNormalOfRow.domain false) (Rows.fnExactNormalOfSpec.post enc Try.prog Try.f3 false true false false) := by
  refine returnsInHanded_of_change (C := Try.checked) ownKnob_none started (by kernel_rfl) Try.func3
    (ChangeSpec.witness6 (enc := enc) (C := Try.checked) false ⟨#[], #[.slice none 0 0], []⟩ 8 (by kernel_rfl) (by kernel_rfl) (by kernel_rfl) (by kernel_rfl)) ?_
  intro W base args ds gs before hval0 hW _ _
  have hval : ∀ (j : Nat) t v, Try.f3.params[j]? = some t → args[j]? = some v → Value.okWide Try.prog W .any base t v := hval0
  have hW' := hW
  obtain ⟨p, q, hA0, hV, rfl, _, _⟩ := hW
  have hA : DataW.TrodAll enc Try.prog W 0 (fun _ => true) true Try.f3.params.toList args.toList ds p := hA0
  rw [Try.params3] at hA hval
  obtain ⟨v0, vs0, d0, ds0, p0, q0, hargs, rfl, rfl, h0, r0⟩ := trodAll_cons hA
  obtain ⟨rfl, rfl, rfl⟩ := trodAll_nil r0
  obtain rfl : args = #[v0] := by cases args; simp_all
  obtain ⟨rfl, rfl⟩ := trodVars_none hV
  obtain ⟨x0, n0, c0, rfl⟩ := okWide_slice Try.underlying22 (hval 0 22 v0 rfl rfl)
  have k0 := h0
  obtain ⟨_, _, a0, w0, _⟩ := open_f32s Try.underlying22 Try.underlying31 cellsF h0
  have b0 : ∀ x ∈ p0, x.block < W.heap.size := fun x hx => by have := hW'.lt x (by simp [hx]); simpa using this
  clear hA0 hval0
  refine (lawNormalOf_any W x0 n0 c0 a0 w0).mono fun e W' ⟨he, hb⟩ => ?_
  subst he
  have hA2 := trodAll_cons_mk (enc := enc) (w := W') (base := 0) (spare := fun b => decide (b < W.heap.size)) (held := true) (Below.trod laidOut (by kernel_rfl) (of_decide_eq_true (by kernel_rfl)) k0 hb b0) trodAll_mk0
  exact ⟨_, rfl, _, _, _, [], _, [], hW', trodAll_cons_mk (shut_bool Try.underlying4 _) trodAll_mk0, hA2, rfl, hb.frame _, fun h => by cases h⟩
theorem FnExactNormalOf_holds : Rows.FnExactNormalOfSaid :=
  OpenClaim.holds_of_wide 3 Try.f3 rfl rfl rfl rfl rfl rfl rfl ⟨rfl, rfl, rfl, rfl, rfl⟩ rfl rfl rfl rfl rfl (by kernel_rfl) Try.func3 (by kernel_rfl)
    (of_decide_eq_true (by kernel_rfl)) (by unfold Func.isWrapper; first | (rw [if_pos (by decide +kernel)]; kernel_rfl) | (rw [if_neg (by decide +kernel)]; exact ⟨rfl, rfl⟩))
    (fun os started H enc _ => FnExactNormalOf_lifted os started H enc)
end Go.Proofs.Ytehlflldnihamaa
