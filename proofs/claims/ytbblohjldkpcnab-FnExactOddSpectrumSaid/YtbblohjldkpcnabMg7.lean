
import Derived.Test.YtbblohjldkpcnabSame
import Derived.Test.YtbblohjldkpcnabGiv
import Derived.Test.YtbblohjldkpcnabDiv
import Derived.Test.YtbblohjldkpcnabAlk
import Derived.Test.YtbblohjldkpcnabNrm
import Derived.Test.YtbblohjldkpcnabLiC
import Derived.Test.YtbblohjldkpcnabLaw
namespace Go.Proofs.Ytbblohjldkpcnab
open Go Go.ChangeShapes Go.WideShapes Go.ChangeAt Go.RowKit
/- Of any list the program tells the numbers divided by the root of the sum of their squares just where the model does, and the same; the list is not changed: for all arguments. -/

/-- Whether there is a normal list, and which. -/
def nrmB (X : Nat → Nat) (n : Nat) : Bool := isP (dotW X X n)
def nrmR (X : Nat → Nat) (n : Nat) : Nat → Nat := divR X (rootT (dotW X X n))
theorem nrm_bd {X : Nat → Nat} {n j : Nat} (hp : nrmB X n = true) (hx : finL X n = true) (hj : j < n) : Bd .f32 (nrmR X n j) 2 := norm_bd hp hj (finL_at hx j hj)
theorem nrm_fin {X : Nat → Nat} {n : Nat} (hp : nrmB X n = true) (hx : finL X n = true) : finL (nrmR X n) n = true := finL_yes fun _ hj => bd_finN (nrm_bd hp hx hj)
set_option maxRecDepth 100000 in
set_option maxHeartbeats 3200000 in
theorem l07Normal_any (xa : Option Addr) (n cx : Nat) (X : Nat → Nat) (w : World) (hX : Rd w xa n X) (hn : n ≤ 1048576) (hfx : finL X n = true) (ok : Bool) (ho : Hid (ok = nrmB X n)) (m : Nat) (hm : Hid (m = if ok = true then n else 0)) :
    Calls Try.prog 128 #[.slice xa n cx] w (LstRet (nrmR X n) m ok w) := by
  obtain ⟨i0, hi, hz0, hz1, hz2⟩ := info_parts infoF
  have HP := Lib.hid (fun w hX => l05Prod_any xa xa n n cx cx X X w hX hX hn (Nat.le_refl _))
  obtain ⟨S, hS⟩ : ∃ S, S = dotW X X n := ⟨_, rfl⟩
  rw [← hS] at HP
  have ho1 := order_pick_l .f32
  have hip := isFin_pick .f32
  cases hp : isP S
  · have HN := Lib.hid (fun w' (hb : Below w.heap.size w w') => show LstRet (nrmR X n) m ok w (.returned (.tuple #[.slice none 0 0, .bool false])) w' by
      have e : ok = false := by rw [ho.out, nrmB, ← hS, hp]
      rw [hm.out, e, if_neg (by simp)]; exact lstNo hb)
    cases hf : isFin .f32 S
    · clear hS hp
      go_enter Try.func128, Try.ntmps128
      go_wp2_with (first | (go_at_call 129; refine (HP.out _ (by exact hX)).mono ?_; rintro e w' ⟨s1, q1, rfl, rfl⟩) | (first | (go_at_call 82; refine (l01Finite_any _ _).mono ?_; rintro e w' ⟨rfl, q, rfl⟩)))
      go_ret2
      refine HN.out _ ?_
      (repeat (first | with_reducible exact Below.refl _ _ | with_reducible refine Below.drewN ?_ _ | with_reducible refine Below.setCell ?_ (by simp; try omega) _ | with_reducible refine Below.alloc ?_ (by simp; try omega) _))
    · have hz' : (FloatKind.f32.format.order S 0 == some .gt) = false := by
        unfold isP at hp
        rw [hf, Bool.true_and] at hp
        exact hp
      clear hS hp
      go_enter Try.func128, Try.ntmps128
      go_wp2_with (first | (go_at_call 129; refine (HP.out _ (by exact hX)).mono ?_; rintro e w' ⟨s1, q1, rfl, rfl⟩) | (first | (go_at_call 82; refine (l01Finite_any _ _).mono ?_; rintro e w' ⟨rfl, q, rfl⟩)))
      go_ret2
      refine HN.out _ ?_
      (repeat (first | with_reducible exact Below.refl _ _ | with_reducible refine Below.drewN ?_ _ | with_reducible refine Below.setCell ?_ (by simp; try omega) _ | with_reducible refine Below.alloc ?_ (by simp; try omega) _))
  · have hf : isFin .f32 S = true := by unfold isP at hp; rw [Bool.and_eq_true] at hp; exact hp.1
    have hz' : (FloatKind.f32.format.order S 0 == some .gt) = true := by unfold isP at hp; rw [Bool.and_eq_true] at hp; exact hp.2
    have hE : ok = true := by rw [ho.out, nrmB, ← hS, hp]
    have HM := Lib.hid (show m = n by rw [hm.out, hE, if_pos rfl])
    have HB := Lib.hid (show isP (dotW X X n) = true by rw [← hS, hp])
    obtain ⟨D, hD⟩ : ∃ D, D = rootT S := ⟨_, rfl⟩
    obtain ⟨R, hR⟩ : ∃ R, R = divR X D := ⟨_, rfl⟩
    have HR := Lib.hid hR
    have HRR := Lib.hid (show R = nrmR X n by rw [hR, hD, hS, nrmR])
    have HFR := Lib.hid (show finL R n = true by rw [HRR.out]; exact nrm_fin (by rw [nrmB, ← hS, hp]) hfx)
    have hrt : rootT S = D := hD.symm
    have hrp := rootT_pick
    have hq := fbin_pick_r .quo .f32
    subst hE
    have hX' := hX
    obtain ⟨xb, xo, hxa, hcx⟩ := hX'
    clear hS hp hD hR
    by_cases h0 : 0 < n
    · have e := hxa h0
      subst e
      have HX := Lib.hid hcx
      clear hcx hxa
      go_enter Try.func128, Try.ntmps128
      go_wp2_with (first | (go_at_call 129; refine (HP.out _ (by exact hX)).mono ?_; rintro e w' ⟨s1, q1, rfl, rfl⟩) | (first | (go_at_call 82; refine (l01Finite_any _ _).mono ?_; rintro e w' ⟨rfl, q, rfl⟩) | (go_at_call 153; refine (l01Sqrt_any _ _).mono ?_; rintro e w' ⟨s', m', rfl, rfl⟩)))
      go_loopw [6, 24] (fun v i wr => ∃ (c : Nat) (Z : Nat → Nat), c ≤ n ∧ i = .int .i64 (c : Int) ∧ wr.ownsRow w.heap.size 43 1 v c (rowOf Z c) ∧ Like Z R c ∧ Below w.heap.size w wr) (fun _ i _ => n - (intOf i).toNat)
      case atStart => exact ⟨0, fun _ => 0, Nat.zero_le _, rfl, own_empty (w.drewN _) _, fun _ h => absurd h (Nat.not_lt_zero _), Below.alloc (Below.drewN (Below.refl _ _) _) (Nat.le_refl _) _⟩
      case round =>
        obtain ⟨c, Z, hc, rfl, hownk, hL, hBk⟩ := hrel
        have hsz := hBk.size
        by_cases hltc : c < n
        · have c0 := HX.out c hltc
          have c1 := (hBk.cell (p := ⟨xb, xo + c, none⟩) (World.block_lt_of_cell? w _ c0)).trans c0
          clear c0
          have hd : fbin .quo .f32 (X c) D = R c := by rw [HR.out]; rfl
          obtain ⟨U, hU⟩ : ∃ U, U = R c := ⟨_, rfl⟩
          rw [← hU] at hd
          have HU := Lib.hid hU
          clear hU
          go_wp2_with (first | ((with_reducible refine wpL_fbin ?_); refine ⟨_, _, _, rfl, rfl, rfl, fun s n => ?_⟩) | (at_builtin; refine wpL_push hi hz0 hz1 hz2 rfl rfl rfl rfl (by exact own_drew hownk _) (by omega) (by exact hsz) ?_; intro v' w1 hown' hB'))
          go_roundw
          case rel => exact ⟨c + 1, _, by omega, by go_num, hown', like_push hL (by rw [← HU.out]), Below.trans (Below.drewN hBk _) hB'⟩
          case measure => simp [intOf]; omega
        · have hck : c = n := by omega
          subst hck
          go_wp2_with fail
          refine (l07Give_any _ _ c Z _ (by exact hownk) (by omega)).mono ?_
          rintro e w' ⟨rfl, q2, rfl⟩
          have hfz : finL Z c = true := by rw [finL_like hL]; exact HFR.out
          rw [hfz]
          go_wp2
          go_ret2
          rw [HM.out, ← HRR.out]
          exact lstYes hL hownk (by omega) (Below.drewN hBk _)
    · exfalso
      obtain rfl : n = 0 := by omega
      have e0 : isP 0 = false := by decide +kernel
      have e1 : isP 0 = true := HB.out
      rw [e0] at e1
      cases e1
set_option maxRecDepth 100000 in
set_option maxHeartbeats 3200000 in
theorem implNof_any (xa : Option Addr) (n cx : Nat) (X : Nat → Nat) (w : World) (hX : Rd w xa n X) (hn : n ≤ 1048576) (ok : Bool) (ho : Hid (ok = (okLst X n && nrmB X n))) (m : Nat) (hm : Hid (m = if ok = true then n else 0)) :
    Calls Try.prog 172 #[.slice xa n cx] w (LstRet (nrmR X n) m ok w) := by
  cases hk : okLst X n
  · have HT := Lib.hid (fun w hX => implLst_any xa n cx X w hX hn false (Lib.hid hk.symm))
    have HN := Lib.hid (fun w' (hb : Below w.heap.size w w') => show LstRet (nrmR X n) m ok w (.returned (.tuple #[.slice none 0 0, .bool false])) w' by
      have e : ok = false := by rw [ho.out, hk]; rfl
      rw [hm.out, e, if_neg (by simp)]; exact lstNo hb)
    clear hk
    go_enter Try.func172, Try.ntmps172
    go_wp2_with (go_at_call 79; refine (HT.out _ (by exact hX)).mono ?_; rintro e w' ⟨rfl, q, rfl⟩)
    go_ret2
    refine HN.out _ ?_
    (repeat (first | with_reducible exact Below.refl _ _ | with_reducible refine Below.drewN ?_ _ | with_reducible refine Below.setCell ?_ (by simp; try omega) _ | with_reducible refine Below.alloc ?_ (by simp; try omega) _))
  · have HT := Lib.hid (fun w hX => implLst_any xa n cx X w hX hn true (Lib.hid hk.symm))
    have HS := Lib.hid (fun w hX => sumSq_any xa n cx X w hX hn)
    obtain ⟨S, hS⟩ : ∃ S, S = dotW X X n := ⟨_, rfl⟩
    rw [← hS] at HS
    have hip : ∀ s, isP (pick .f32 S s) = isP S := fun s => by unfold isP; rw [isFin_pick, order_pick_l]
    cases hp : isP S
    · have HN := Lib.hid (fun w' (hb : Below w.heap.size w w') => show LstRet (nrmR X n) m ok w (.returned (.tuple #[.slice none 0 0, .bool false])) w' by
        have e : ok = false := by rw [ho.out, nrmB, ← hS, hp, Bool.and_false]
        rw [hm.out, e, if_neg (by simp)]; exact lstNo hb)
      clear hk hS
      go_enter Try.func172, Try.ntmps172
      go_wp2_with (first | (go_at_call 79; refine (HT.out _ (by exact hX)).mono ?_; rintro e w' ⟨rfl, q, rfl⟩) | (go_at_call 190; refine (HS.out _ (by exact hX)).mono ?_; rintro e w' ⟨s1, q1, rfl, rfl⟩) | (first | (go_at_call 106; refine (isPositive_any _ _).mono ?_; rintro e w' ⟨rfl, q, rfl⟩)))
      go_ret2
      refine HN.out _ ?_
      (repeat (first | with_reducible exact Below.refl _ _ | with_reducible refine Below.drewN ?_ _ | with_reducible refine Below.setCell ?_ (by simp; try omega) _ | with_reducible refine Below.alloc ?_ (by simp; try omega) _))
    · have hE : ok = true := by rw [ho.out, nrmB, ← hS, hp, hk]; rfl
      have HM := Lib.hid (show m = n by rw [hm.out, hE, if_pos rfl])
      obtain ⟨D, hD⟩ : ∃ D, D = rootT S := ⟨_, rfl⟩
      have HRR := Lib.hid (show divR X D = nrmR X n by rw [hD, hS, nrmR])
      have hrt : rootT S = D := hD.symm
      have hrp := rootT_pick
      subst hE
      clear hk hS hD
      go_enter Try.func172, Try.ntmps172
      go_wp2_with (first | (go_at_call 79; refine (HT.out _ (by exact hX)).mono ?_; rintro e w' ⟨rfl, q, rfl⟩) | (go_at_call 190; refine (HS.out _ (by exact hX)).mono ?_; rintro e w' ⟨s1, q1, rfl, rfl⟩) | (first | (go_at_call 106; refine (isPositive_any _ _).mono ?_; rintro e w' ⟨rfl, q, rfl⟩) | (go_at_call 111; refine (RootNumber_any _ _).mono ?_; rintro e w' ⟨s', m', rfl, rfl⟩)))
      refine (div_any _ _ _ X D _ _ (by exact hX) hn).mono ?_
      rintro e w3 ⟨v, Z, rfl, hown, hL, hB⟩
      go_wp2
      go_ret2
      rw [HM.out, ← HRR.out]
      refine lstYes hL.like hown hn ?_
      exact Below.trans (Below.drewN (Below.refl _ w) _) hB
/- Of any two lists the program tells how alike they are just where the model does, and the same; the lists are not changed: for all arguments. -/

theorem dotW_like2 {V r U t : Nat → Nat} : ∀ n, Like V r n → Like U t n → dotW V U n = dotW r t n := by
  intro n
  induction n with
  | zero => intro _ _; rfl
  | succ n ih =>
    intro h g
    show fbin .add .f32 (dotW V U n) (fbin .mul .f32 (V n) (U n)) = fbin .add .f32 (dotW r t n) (fbin .mul .f32 (r n) (t n))
    rw [ih (fun j hj => h j (by omega)) (fun j hj => g j (by omega)), fbin_congr (h n (Nat.lt_succ_self n)) (g n (Nat.lt_succ_self n))]
/-- How alike they are. -/
def lkD (X Y : Nat → Nat) (n : Nat) : Nat := dotW (nrmR X n) (nrmR Y n) n
theorem lkD_fin {X Y : Nat → Nat} {n : Nat} (hx : okLst X n = true) (hy : okLst Y n = true) (px : nrmB X n = true) (py : nrmB Y n = true) : isFin .f32 (lkD X Y n) = true := by
  have h1 := okLst_at hx
  have h2 := okLst_at hy
  exact bk_fin (dot_bk n (by omega) fun j hj => ⟨nrm_bd px h1.1 hj, nrm_bd py h2.1 hj⟩)
/-- A number told, and whether. -/
def FlbRet (r : Nat) (ok : Bool) (w : World) (e : Ending) (w' : World) : Prop := ∃ s, e = .returned (.tuple #[.float .f32 (pick .f32 r s), .bool ok]) ∧ Below w.heap.size w w'
theorem flbNo {w w' : World} (hb : Below w.heap.size w w') : FlbRet 0 false w (.returned (.tuple #[.float .f32 0, .bool false])) w' := ⟨0, by rw [pick_nul], hb⟩
set_option maxRecDepth 100000 in
set_option maxHeartbeats 3200000 in
theorem l07Like_any (xa : Option Addr) (n cx : Nat) (X : Nat → Nat) (ya : Option Addr) (cy : Nat) (Y : Nat → Nat) (w : World) (hX : Rd w xa n X) (hY : Rd w ya n Y) (hx : okLst X n = true) (hy : okLst Y n = true) (p q ok : Bool) (hp : Hid (p = nrmB X n)) (hq : Hid (q = nrmB Y n)) (ho : Hid (ok = (p && q))) (R : Nat) (hR : Hid (R = if ok = true then lkD X Y n else 0)) :
    Calls Try.prog 67 #[.slice xa n cx, .slice ya n cy] w (FlbRet R ok w) := by
  have hn : n ≤ 1048576 := by have := okLst_at hx; omega
  have HA := Lib.hid (fun w hX => l07Normal_any xa n cx X w hX hn (okLst_at hx).1 p hp _ (Lib.hid rfl))
  have HB := Lib.hid (fun w hY => l07Normal_any ya n cy Y w hY hn (okLst_at hy).1 q hq _ (Lib.hid rfl))
  have HN := Lib.hid (fun (h : ok = false) w' (hb : Below w.heap.size w w') => show FlbRet R ok w (.returned (.tuple #[.float .f32 0, .bool false])) w' by
    rw [hR.out, h, if_neg (by simp)]; exact flbNo hb)
  cases p
  · have HN' := Lib.hid (HN.out (by rw [ho.out]; rfl))
    cases q
    · go_enter Try.func67, Try.ntmps67
      go_wp2_with fail
      refine (HA.out _ (by exact hX)).mono ?_
      rintro e w1 ⟨v1, Z1, rfl, O1, L1, m1, B1⟩
      go_wp2_with fail
      refine (HB.out _ (by exact hY.below B1)).mono ?_
      rintro e w2 ⟨v2, Z2, rfl, O2, L2, m2, B2⟩
      go_wp2
      go_ret2
      exact HN'.out _ (B1.trans (B2.mono B1.size))
    · go_enter Try.func67, Try.ntmps67
      go_wp2_with fail
      refine (HA.out _ (by exact hX)).mono ?_
      rintro e w1 ⟨v1, Z1, rfl, O1, L1, m1, B1⟩
      go_wp2_with fail
      refine (HB.out _ (by exact hY.below B1)).mono ?_
      rintro e w2 ⟨v2, Z2, rfl, O2, L2, m2, B2⟩
      go_wp2
      go_ret2
      exact HN'.out _ (B1.trans (B2.mono B1.size))
  · cases q
    · have HN' := Lib.hid (HN.out (by rw [ho.out]; rfl))
      go_enter Try.func67, Try.ntmps67
      go_wp2_with fail
      refine (HA.out _ (by exact hX)).mono ?_
      rintro e w1 ⟨v1, Z1, rfl, O1, L1, m1, B1⟩
      go_wp2_with fail
      refine (HB.out _ (by exact hY.below B1)).mono ?_
      rintro e w2 ⟨v2, Z2, rfl, O2, L2, m2, B2⟩
      go_wp2
      go_ret2
      exact HN'.out _ (B1.trans (B2.mono B1.size))
    · have hok : ok = true := by rw [ho.out]; rfl
      obtain ⟨D, hD⟩ : ∃ D, D = lkD X Y n := ⟨_, rfl⟩
      have HD := Lib.hid hD
      have hf : isFin .f32 D = true := by rw [hD]; exact lkD_fin hx hy hp.out.symm hq.out.symm
      have HY := Lib.hid (fun s w' (hb : Below w.heap.size w w') => show FlbRet R ok w (.returned (.tuple #[.float .f32 (pick .f32 (numQ D) s), .bool (isFin .f32 D)])) w' from ⟨s, by
        rw [hR.out, hok, if_pos rfl, ← hD, numQ, hf, if_pos rfl], hb⟩)
      have HQ := Lib.hid (fun s w => numS_any D s w)
      clear hf hD
      rw [if_pos rfl] at HA HB
      go_enter Try.func67, Try.ntmps67
      go_wp2_with fail
      refine (HA.out _ (by exact hX)).mono ?_
      rintro e w1 ⟨v1, Z1, rfl, O1, L1, m1, B1⟩
      go_wp2_with fail
      refine (HB.out _ (by exact hY.below B1)).mono ?_
      rintro e w2 ⟨v2, Z2, rfl, O2, L2, m2, B2⟩
      replace O1 := own_below O1 B2
      have B12 := B1.trans (B2.mono B1.size)
      obtain ⟨xz, cz, rfl, _, _, R1⟩ := rd_of_own O1
      obtain ⟨yz, dz, rfl, _, _, R2⟩ := rd_of_own O2
      have HP := Lib.hid (fun w h1 h2 => l05Prod_any xz yz n n cz dz Z1 Z2 w h1 h2 hn (Nat.le_refl _))
      rw [dotW_like2 n L1 L2, show dotW (nrmR X n) (nrmR Y n) n = D from HD.out.symm] at HP
      clear O1 O2 L1 L2 B1 B2
      go_wp2_with fail
      refine (HP.out _ (by exact R1) (by exact R2)).mono ?_
      rintro e w3 ⟨s1, q1, rfl, rfl⟩
      go_wp2_with fail
      refine (HQ.out _ _).mono ?_
      rintro e w4 ⟨s2, q2, rfl, rfl⟩
      go_wp2
      go_ret2
      refine HY.out _ _ ?_
      exact Below.drewN B12 _
set_option maxRecDepth 100000 in
set_option maxHeartbeats 3200000 in
theorem implLik_any (xa : Option Addr) (n cx : Nat) (X : Nat → Nat) (ya : Option Addr) (m cy : Nat) (Y : Nat → Nat) (w : World) (hX : Rd w xa n X) (hY : Rd w ya m Y) (hn : n ≤ 1048576) (hm : m ≤ 1048576) (ok : Bool) (ho : Hid (ok = (okTwo X n Y m && (nrmB X n && nrmB Y m)))) (R : Nat) (hR : Hid (R = if ok = true then lkD X Y n else 0)) :
    Calls Try.prog 130 #[.slice xa n cx, .slice ya m cy] w (FlbRet R ok w) := by
  obtain ⟨p, hp⟩ : ∃ p, p = (okLst X n && nrmB X n) := ⟨_, rfl⟩
  obtain ⟨q, hq⟩ : ∃ q, q = (okLst Y m && nrmB Y m) := ⟨_, rfl⟩
  have HA := Lib.hid (fun w hX => implNof_any xa n cx X w hX hn p (Lib.hid hp) _ (Lib.hid rfl))
  have HB := Lib.hid (fun w hY => implNof_any ya m cy Y w hY hm q (Lib.hid hq) _ (Lib.hid rfl))
  have HN := Lib.hid (fun (h : ok = false) w' (hb : Below w.heap.size w w') => show FlbRet R ok w (.returned (.tuple #[.float .f32 0, .bool false])) w' by
    rw [hR.out, h, if_neg (by simp)]; exact flbNo hb)
  cases p
  · have HN' := Lib.hid (HN.out (by
      rw [ho.out, okTwo]
      revert hp
      cases okLst X n <;> cases nrmB X n <;> simp))
    clear hp hq
    cases q
    · go_enter Try.func130, Try.ntmps130
      go_wp2_with fail
      refine (HA.out _ (by exact hX)).mono ?_
      rintro e w1 ⟨v1, Z1, rfl, O1, L1, m1, B1⟩
      go_wp2_with fail
      refine (HB.out _ (by exact hY.below B1)).mono ?_
      rintro e w2 ⟨v2, Z2, rfl, O2, L2, m2, B2⟩
      go_wp2
      go_ret2
      exact HN'.out _ (B1.trans (B2.mono B1.size))
    · go_enter Try.func130, Try.ntmps130
      go_wp2_with fail
      refine (HA.out _ (by exact hX)).mono ?_
      rintro e w1 ⟨v1, Z1, rfl, O1, L1, m1, B1⟩
      go_wp2_with fail
      refine (HB.out _ (by exact hY.below B1)).mono ?_
      rintro e w2 ⟨v2, Z2, rfl, O2, L2, m2, B2⟩
      go_wp2
      go_ret2
      exact HN'.out _ (B1.trans (B2.mono B1.size))
  · cases q
    · have HN' := Lib.hid (HN.out (by
        rw [ho.out, okTwo]
        revert hq
        cases okLst Y m <;> cases nrmB Y m <;> simp))
      clear hp hq
      go_enter Try.func130, Try.ntmps130
      go_wp2_with fail
      refine (HA.out _ (by exact hX)).mono ?_
      rintro e w1 ⟨v1, Z1, rfl, O1, L1, m1, B1⟩
      go_wp2_with fail
      refine (HB.out _ (by exact hY.below B1)).mono ?_
      rintro e w2 ⟨v2, Z2, rfl, O2, L2, m2, B2⟩
      go_wp2
      go_ret2
      exact HN'.out _ (B1.trans (B2.mono B1.size))
    · have hx : okLst X n = true ∧ nrmB X n = true := by simpa using hp.symm
      have hy : okLst Y m = true ∧ nrmB Y m = true := by simpa using hq.symm
      clear hp hq
      rw [if_pos rfl] at HA HB
      by_cases hnm : n = m
      · subst hnm
        have hok : ok = true := by rw [ho.out, okTwo, hx.1, hx.2, hy.1, hy.2]; simp
        obtain ⟨D, hD⟩ : ∃ D, D = lkD X Y n := ⟨_, rfl⟩
        have HD := Lib.hid hD
        have h256 : n ≤ 256 := by have := okLst_at hx.1; omega
        have HY := Lib.hid (fun s w' (hb : Below w.heap.size w w') => show FlbRet R ok w (.returned (.tuple #[.float .f32 (pick .f32 D s), .bool true])) w' from ⟨s, by
          rw [hR.out, hok, if_pos rfl, ← hD], hb⟩)
        clear hD hx hy
        go_enter Try.func130, Try.ntmps130
        go_wp2_with fail
        refine (HA.out _ (by exact hX)).mono ?_
        rintro e w1 ⟨v1, Z1, rfl, O1, L1, m1, B1⟩
        go_wp2_with fail
        refine (HB.out _ (by exact hY.below B1)).mono ?_
        rintro e w2 ⟨v2, Z2, rfl, O2, L2, m2, B2⟩
        replace O1 := own_below O1 B2
        have B12 := B1.trans (B2.mono B1.size)
        obtain ⟨xz, cz, rfl, _, _, R1⟩ := rd_of_own O1
        obtain ⟨yz, dz, rfl, _, _, R2⟩ := rd_of_own O2
        have HP := Lib.hid (fun w h1 h2 => DotNumbers_any xz yz n cz dz Z1 Z2 w h1 h2 h256)
        rw [dotW_like2 n L1 L2, show dotW (nrmR X n) (nrmR Y n) n = D from HD.out.symm] at HP
        clear O1 O2 L1 L2 B1 B2
        go_wp2_with fail
        refine (HP.out _ (by exact R1) (by exact R2)).mono ?_
        rintro e w3 ⟨s1, q1, rfl, rfl⟩
        go_wp2
        go_ret2
        refine HY.out _ _ ?_
        exact Below.drewN B12 _
      · have HN' := Lib.hid (HN.out (by
          have : decide ((n : Int) = (m : Int)) = false := decide_eq_false (by omega)
          rw [ho.out, okTwo, this]; simp))
        clear hx hy
        go_enter Try.func130, Try.ntmps130
        go_wp2_with fail
        refine (HA.out _ (by exact hX)).mono ?_
        rintro e w1 ⟨v1, Z1, rfl, O1, L1, m1, B1⟩
        go_wp2_with fail
        refine (HB.out _ (by exact hY.below B1)).mono ?_
        rintro e w2 ⟨v2, Z2, rfl, O2, L2, m2, B2⟩
        have B12 := B1.trans (B2.mono B1.size)
        obtain ⟨xz, cz, rfl, _, _, R1⟩ := rd_of_own O1
        obtain ⟨yz, dz, rfl, _, _, R2⟩ := rd_of_own O2
        go_wp2_with fail
        refine (DotNumbers_no xz yz n m cz dz _ (.inr hnm) hn).mono ?_
        rintro e w3 ⟨s1, q1, rfl, rfl⟩
        rw [pick_zero]
        go_wp2
        go_ret2
        refine HN'.out _ ?_
        exact Below.drewN B12 _
end Go.Proofs.Ytbblohjldkpcnab
