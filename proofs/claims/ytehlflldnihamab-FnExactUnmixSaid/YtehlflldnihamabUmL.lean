/- Of any list, library and shares the program tells better shares just where the model does, and the same; they are not changed: for all arguments. -/
import Derived.Test.YtehlflldnihamabSame
import Derived.Test.YtehlflldnihamabUmI
namespace Go.Proofs.Ytehlflldnihamab
open Go Go.ChangeShapes Go.WideShapes Go.ChangeAt Go.RowKit

set_option maxRecDepth 100000 in
set_option maxHeartbeats 1600000 in
theorem implUmo_odd (la : Option Addr) (n cl : Nat) (L : Nat → Nat) (xa : Option Addr) (K cap : Nat) (N : Nat → Nat) (X : Nat → Nat → Nat) (sa : Option Addr) (k cs : Nat) (S : Nat → Nat) (w : World) (hL : Rd w la n L) (hX : RdR w xa K N X) (hS : Rd w sa k S) (h : K + totN N K ≤ 1048576) (hk0 : k ≤ 1048576) (hk : okCan L n K N X = true) (hgs : gL S k = true) (hkK : k ≠ K) (R : Nat → Nat) :
    Calls Try.prog 33 #[.slice la n cl, .slice xa K cap, .slice sa k cs] w (LstRet R 0 false w) := by
  obtain ⟨hs0, h6, hl0, hn0⟩ := okCan_at hk
  obtain ⟨hK1, hK8, hall⟩ := okSpc_at hs0
  have hn128 : 1 ≤ n ∧ n ≤ 128 := by have := okLst_at hl0; omega
  have HLB := Lib.hid (fun w hL hX => implLib_any la n cl L xa K cap N X w hL hX (by omega) h true (Lib.hid (by
    unfold okCan at hk
    simp only [Bool.and_eq_true] at hk
    rw [okLib, hk.1.1, hk.2]; rfl)))
  have HGL := Lib.hid (fun w hS => areAtLeastZero_any sa k cs S w hS hk0)
  rw [hgs] at HGL
  have d6 : decide ((6 : Int) < (K : Int)) = false := decide_eq_false (by omega)
  obtain ⟨xb, xo, hxa, _⟩ := id hX
  have e := hxa (by omega)
  subst e
  obtain ⟨rb, ro, rc, hlay⟩ := RdR.lay hX (n := n) (fun k hk => by rw [(hall k hk).2, hn0]) (by omega)
  have HX := Lib.hid hlay
  have HMX := Lib.hid (fun (Z : Nat → Nat) (za : Option Addr) (cz : Nat) w' (hb : Below w.heap.size w w') hr => implMix_any (some ⟨xb, xo, none⟩) K cap N X za k cz Z w' (hX.below hb) hr h hk0 false (Lib.hid (by rw [okMix, decide_eq_false (show ¬ ((k : Int) = (K : Int)) by omega), Bool.and_false]; rfl)) 0 (Lib.hid (by simp)))
  have HSq := Lib.hid (fun w' (hb : Below w.heap.size w w') => sumSq_any (some ⟨rb 0, ro 0, none⟩) n (rc 0) (X 0) w' ⟨rb 0, ro 0, fun _ => rfl, (hlay w' hb 0 (by omega)).2⟩ (by omega))
  have hK1' : (0 : Int) < (K : Int) := by omega
  clear hk hs0 hl0 hn0 hall hlay hxa hgs
  by_cases hk1 : 1 ≤ k
  · go_enter Try.func33, Try.ntmps33
    go_wp2_with fail
    refine (HLB.out _ (by exact hL) (by exact hX)).mono ?_
    rintro e w1 ⟨rfl, B1⟩
    go_wp2_with fail
    refine (HGL.out _ (by exact hS.below B1)).mono ?_
    rintro e w' ⟨rfl, q, rfl⟩
    go_wp2_with fail
    refine (clone_any _ _ _ S _ (by exact Rd.drew (hS.below B1) q) hk1 hk0).mono ?_
    rintro e w2 ⟨g, cp, rfl, hown, B2⟩
    have hB2 : Below w.heap.size w w2 := Below.trans (Below.drewN B1 q) (B2.mono B1.size)
    have hc0 := (HX.out w2 hB2 0 (by omega)).1
    rw [Nat.add_zero] at hc0
    have HM := Lib.hid (HMX.out S (some ⟨g, 0, none⟩) cp w2 hB2 (rd_own hown))
    clear hown B2 B1 hL hX hS hkK
    go_wp2
    go_loopw [34] (fun i wr => i = .int .i64 (0 : Int) ∧ wr = w2) (fun i _ => 0)
    case atStart => exact ⟨rfl, rfl⟩
    case round =>
      obtain ⟨rfl, rfl⟩ := hrel
      go_wp2_with fail
      refine HM.out.mono ?_
      rintro e w3 ⟨v1, Y1, rfl, O1, L1, m1, B3⟩
      have hB3 := hB2.trans (B3.mono hB2.size)
      have HQ := Lib.hid (HSq.out w3 hB3)
      go_wp2_with (go_at_call 78; refine HQ.out.mono ?_; rintro e w' ⟨s1, q1, rfl, rfl⟩)
      go_ret2
      refine lstNo ?_
      exact Below.drewN hB3 _
  · obtain rfl : k = 0 := by omega
    go_enter Try.func33, Try.ntmps33
    go_wp2_with fail
    refine (HLB.out _ (by exact hL) (by exact hX)).mono ?_
    rintro e w1 ⟨rfl, B1⟩
    go_wp2_with fail
    refine (HGL.out _ (by exact hS.below B1)).mono ?_
    rintro e w' ⟨rfl, q, rfl⟩
    go_wp2_with fail
    refine (clone0_any _ _ _).mono ?_
    rintro e w2 ⟨za, cp, rfl, B2⟩
    have hB2 : Below w.heap.size w w2 := Below.trans (Below.drewN B1 q) (B2.mono B1.size)
    have hc0 := (HX.out w2 hB2 0 (by omega)).1
    rw [Nat.add_zero] at hc0
    have HM := Lib.hid (HMX.out S za cp w2 hB2 (Rd.nil _ _ _))
    clear B2 B1 hL hX hS hkK
    go_wp2
    go_loopw [34] (fun i wr => i = .int .i64 (0 : Int) ∧ wr = w2) (fun i _ => 0)
    case atStart => exact ⟨rfl, rfl⟩
    case round =>
      obtain ⟨rfl, rfl⟩ := hrel
      go_wp2_with fail
      refine HM.out.mono ?_
      rintro e w3 ⟨v1, Y1, rfl, O1, L1, m1, B3⟩
      have hB3 := hB2.trans (B3.mono hB2.size)
      have HQ := Lib.hid (HSq.out w3 hB3)
      go_wp2_with (go_at_call 78; refine HQ.out.mono ?_; rintro e w' ⟨s1, q1, rfl, rfl⟩)
      go_ret2
      refine lstNo ?_
      exact Below.drewN hB3 _
set_option maxRecDepth 100000 in
set_option maxHeartbeats 1600000 in
theorem implUmo_any (la : Option Addr) (n cl : Nat) (L : Nat → Nat) (xa : Option Addr) (K cap : Nat) (N : Nat → Nat) (X : Nat → Nat → Nat) (sa : Option Addr) (k cs : Nat) (S : Nat → Nat) (w : World) (hL : Rd w la n L) (hX : RdR w xa K N X) (hS : Rd w sa k S) (hn : n ≤ 1048576) (h : K + totN N K ≤ 1048576) (hk0 : k ≤ 1048576) (ok : Bool) (ho : Hid (ok = (okUmo L n K N X k S && onOk L X n K S))) (m : Nat) (hm : Hid (m = if ok = true then K else 0)) :
    Calls Try.prog 33 #[.slice la n cl, .slice xa K cap, .slice sa k cs] w (LstRet (onT L X n K S K) m ok w) := by
  cases hk : okUmo L n K N X k S
  · have e : ok = false := by rw [ho.out, hk]; rfl
    have e2 : m = 0 := by rw [hm.out, e, if_neg (by simp)]
    subst e
    subst e2
    clear ho hm
    have HLB := Lib.hid (fun w hL hX => implLib_any la n cl L xa K cap N X w hL hX hn h _ (Lib.hid rfl))
    have HGL := Lib.hid (fun w hS => areAtLeastZero_any sa k cs S w hS hk0)
    cases c1 : okLib L n K N X
    · rw [c1] at HLB
      clear hk c1
      go_enter Try.func33, Try.ntmps33
      go_wp2_with fail
      refine (HLB.out _ (by exact hL) (by exact hX)).mono ?_
      rintro e w1 ⟨rfl, B1⟩
      go_wp2
      go_ret2
      exact lstNo B1
    · rw [c1] at HLB
      by_cases h6 : K ≤ 6
      · have d6 : decide ((6 : Int) < (K : Int)) = false := decide_eq_false (by omega)
        have hcan : okCan L n K N X = true := by
          unfold okLib at c1
          rw [Bool.and_eq_true] at c1
          rw [okCan, c1.1, c1.2, decide_eq_true h6]; rfl
        cases c3 : gL S k
        · rw [c3] at HGL
          clear hk c1 c3 hcan
          go_enter Try.func33, Try.ntmps33
          go_wp2_with fail
          refine (HLB.out _ (by exact hL) (by exact hX)).mono ?_
          rintro e w1 ⟨rfl, B1⟩
          go_wp2_with fail
          refine (HGL.out _ (by exact hS.below B1)).mono ?_
          rintro e w' ⟨rfl, q, rfl⟩
          go_wp2
          go_ret2
          exact lstNo (Below.drewN B1 _)
        · have hkK : k ≠ K := fun e => by
            rw [okUmo, hcan, c3, decide_eq_true (by omega)] at hk
            cases hk
          exact implUmo_odd la n cl L xa K cap N X sa k cs S w hL hX hS h hk0 hcan c3 hkK _
      · have d6 : decide ((6 : Int) < (K : Int)) = true := decide_eq_true (by omega)
        clear hk c1
        go_enter Try.func33, Try.ntmps33
        go_wp2_with fail
        refine (HLB.out _ (by exact hL) (by exact hX)).mono ?_
        rintro e w1 ⟨rfl, B1⟩
        go_wp2
        go_ret2
        exact lstNo B1
  · have hk' := hk
    unfold okUmo at hk'
    simp only [Bool.and_eq_true, decide_eq_true_eq] at hk'
    obtain ⟨⟨h1, h2⟩, h3⟩ := hk'
    obtain rfl : k = K := by omega
    exact implUmo_yes la n cl L xa k cap N X sa cs S w hL hX hS h h1 h3 ok (Lib.hid (by rw [ho.out, hk, Bool.true_and])) m hm
/-- What is told of UnmixOnce. -/
def RetUnmixOnce (R0 : Nat → Nat) (m0 : Nat) (r1 : Bool) (w : World) (e : Ending) (w' : World) : Prop := ∃ (v0 : Value) (Y0 : Nat → Nat), e = .returned (.tuple #[v0, .bool r1]) ∧ w'.ownsRow w.heap.size 43 1 v0 m0 (rowOf Y0 m0) ∧ Like Y0 R0 m0 ∧ m0 ≤ 1048576 ∧ Below w.heap.size w w'
theorem bothUnmixOnce (n : Nat) (L : Nat → Nat) (hn : n ≤ 1048576) (K : Nat) (N : Nat → Nat) (X : Nat → Nat → Nat) (h : K + totN N K ≤ 1048576) (k : Nat) (S : Nat → Nat) (hk : k ≤ 1048576) :
    ∃ (R : Nat → Nat) (m : Nat) (ok : Bool), (∀ (la : Option Addr) (cl : Nat) (xa : Option Addr) (c : Nat) (sa : Option Addr) (cs : Nat) (w : World), Rd w la n L → RdR w xa K N X → Rd w sa k S → Calls Try.prog 32 #[.slice la n cl, .slice xa K c, .slice sa k cs] w (RetUnmixOnce R m ok w)) ∧
      ∀ (la : Option Addr) (cl : Nat) (xa : Option Addr) (c : Nat) (sa : Option Addr) (cs : Nat) (w : World), Rd w la n L → RdR w xa K N X → Rd w sa k S → Calls Try.prog 33 #[.slice la n cl, .slice xa K c, .slice sa k cs] w (RetUnmixOnce R m ok w) :=
  ⟨_, _, _, fun la cl xa c sa cs w hL hX hS => specUmo_any la n cl L xa K c N X sa k cs S w hL hX hS hn h hk _ (Lib.hid rfl) _ (Lib.hid rfl), fun la cl xa c sa cs w hL hX hS => implUmo_any la n cl L xa K c N X sa k cs S w hL hX hS hn h hk _ (Lib.hid rfl) _ (Lib.hid rfl)⟩
set_option maxRecDepth 100000 in
set_option maxHeartbeats 6400000 in
theorem lawUnmixOnce_in (W : World) (x0 : Option Addr) (n0 c0 : Nat) (X0 : Nat → Nat) (hX0 : Rd W x0 n0 X0) (x1 : Option Addr) (n1 c1 : Nat) (N1 : Nat → Nat) (X1 : Nat → Nat → Nat) (hX1 : RdR W x1 n1 N1 X1) (_hm1 : n1 ≤ maxLen) (_hN1 : ∀ j, j < n1 → N1 j ≤ maxLen) (x2 : Option Addr) (n2 c2 : Nat) (X2 : Nat → Nat) (hX2 : Rd W x2 n2 X2) (h0 : n0 ≤ 1048576) (h1 : n1 + totN N1 n1 ≤ 1048576) (h2 : n2 ≤ 1048576) (R0 : Nat → Nat) (m0 : Nat) (r1 : Bool) (HS : Hid (∀ (x0 : Option Addr) (c0 : Nat) (x1 : Option Addr) (c1 : Nat) (x2 : Option Addr) (c2 : Nat) (w : World), Rd w x0 n0 X0 → RdR w x1 n1 N1 X1 → Rd w x2 n2 X2 → Calls Try.prog 32 #[.slice x0 n0 c0, .slice x1 n1 c1, .slice x2 n2 c2] w (RetUnmixOnce R0 m0 r1 w))) (HI : Hid (∀ (x0 : Option Addr) (c0 : Nat) (x1 : Option Addr) (c1 : Nat) (x2 : Option Addr) (c2 : Nat) (w : World), Rd w x0 n0 X0 → RdR w x1 n1 N1 X1 → Rd w x2 n2 X2 → Calls Try.prog 33 #[.slice x0 n0 c0, .slice x1 n1 c1, .slice x2 n2 c2] w (RetUnmixOnce R0 m0 r1 w))) :
    Calls Try.prog 6 #[.slice x0 n0 c0, .slice x1 n1 c1, .slice x2 n2 c2] W fun e w' => e = .returned (.bool true) ∧ Below W.heap.size W w' := by
  have hcv := fun (R : Nat) (s t : Nat) => show canon .f64 (pick .f64 (fconv .f32 (pick .f32 R s) .f64) t) = canon .f64 (fconv .f32 R .f64) by rw [canon_pick, fconv_pick]
  have hcw := fun (R : Nat) (s t : Nat) => show canon .f64 (pick .f64 R s) = canon .f64 (pick .f64 R t) by rw [canon_pick, canon_pick]
  have HCV := Lib.hid hcv
  have HCW := Lib.hid hcw
  clear hcv hcw
  have hnb1 : (r1 != r1) = false := by simp
  have HB := Blw.refl W
  have hz1 : (0 : Int) ≤ 1048576 - (n1 : Int) - (totN N1 n1 : Int) := by omega
  go_enter Try.func6, Try.ntmps6
  go_wp2_with fail
  refine (szFF_yes _ _ _ N1 X1 _ (by exact hX1) h1).mono ?_
  rintro e0 w0 ⟨rfl, rfl⟩
  go_wp2_with fail
  refine (toF_any _ _ _ X0 _ (by exact hX0.below (Blw.out (by exact HB))) h0).mono ?_
  rintro e0 w0 ⟨rfl, O0, B0⟩
  replace HB := Blw.next (by exact HB) B0
  have C0 := O0
  clear O0 B0
  go_wp2_with fail
  refine (toFF_any _ _ _ N1 X1 _ (by exact hX1.below (Blw.out (by exact HB))) h1).mono ?_
  rintro e0 w0 ⟨_, _, rfl, O0, B0⟩
  replace C0 := own_below (by exact C0) B0
  replace HB := Blw.next (by exact HB) B0
  have C1 := O0
  clear O0 B0
  go_wp2_with fail
  refine (toF_any _ _ _ X2 _ (by exact hX2.below (Blw.out (by exact HB))) h2).mono ?_
  rintro e0 w0 ⟨rfl, O0, B0⟩
  replace C0 := own_below (by exact C0) B0
  replace C1 := OwnRR.below (by exact C1) B0
  replace HB := Blw.next (by exact HB) B0
  have C2 := O0
  clear O0 B0
  go_wp2_with fail
  refine (HS.out _ _ _ _ _ _ _ (rd_own (by exact C0)) (OwnRR.rd (by exact C1)) (rd_own (by exact C2))).mono ?_
  rintro e0 w1 ⟨vw0, Yw0, rfl, Ow0, Lw0, mw0, B0⟩
  clear C0
  clear C1
  clear C2
  replace HB := Blw.next (by exact HB) B0
  clear B0
  have Z0 := hX0.below HB.out
  have Z1 := hX1.below HB.out
  have Z2 := hX2.below HB.out
  obtain ⟨xw0, cw0, rfl, _, _, Rw0⟩ := rd_of_own Ow0
  clear Ow0
  have HL := Blw.refl w1
  have E0 := (Blw.out (by exact HL)).size
  go_wp2_with fail
  refine (toF_any _ _ _ X0 _ (by exact Z0.below (Blw.out (by exact HL))) h0).mono ?_
  rintro e0 w0 ⟨rfl, O0, B0⟩
  replace HL := Blw.next (by exact HL) B0
  have D0 := O0
  clear O0 B0
  have E1 := (Blw.out (by exact HL)).size
  have Q0_1 := own_lt (by exact D0)
  go_wp2_with fail
  refine (toFF_any _ _ _ N1 X1 _ (by exact Z1.below (Blw.out (by exact HL))) h1).mono ?_
  rintro e0 w0 ⟨_, _, rfl, O0, B0⟩
  replace D0 := own_below (by exact D0) B0
  replace HL := Blw.next (by exact HL) B0
  have D1 := O0
  clear O0 B0
  have E2 := (Blw.out (by exact HL)).size
  have Q0_2 := own_lt (by exact D0)
  have Q1_2 := (fun j hj => OwnRR.lt (by exact D1) (i := j) hj)
  go_wp2_with fail
  refine (toF_any _ _ _ X2 _ (by exact Z2.below (Blw.out (by exact HL))) h2).mono ?_
  rintro e0 w0 ⟨rfl, O0, B0⟩
  replace D0 := own_below (by exact D0) B0
  replace D1 := OwnRR.below (by exact D1) B0
  replace HL := Blw.next (by exact HL) B0
  have D2 := O0
  clear O0 B0
  have Qg0 := own_lt (by exact D0)
  have Qg1 := (fun j hj => OwnRR.lt (by exact D1) (i := j) hj)
  have Qg2 := own_lt (by exact D2)
  have Eg := (Blw.out (by exact HL)).size
  go_wp2_with fail
  refine (HI.out _ _ _ _ _ _ _ (rd_own (by exact D0)) (OwnRR.rd (by exact D1)) (rd_own (by exact D2))).mono ?_
  rintro e0 w2 ⟨vg0, Yg0, rfl, Og0, Lg0, mg0, B0⟩
  replace D0 := own_below (by exact D0) B0
  replace D1 := OwnRR.below (by exact D1) B0
  replace D2 := own_below (by exact D2) B0
  replace HL := Blw.next (by exact HL) B0
  clear B0
  have O_0 := Og0
  obtain ⟨xg0, cg0, rfl, _, _, Rg0⟩ := rd_of_own O_0
  clear O_0
  go_wp2_with fail
  refine (eqF_any _ _ _ _ _ Yg0 Yw0 _ (by exact Rg0) (by exact Rw0.below (Blw.out (by exact HL))) mw0 (fun i hi => (Lg0 i hi).trans (Lw0 i hi).symm)).mono ?_
  rintro e0 w0 ⟨rfl, q, rfl⟩
  go_wp2_with fail
  refine (toF_any _ _ _ X0 _ (by exact Z0.below (Blw.out (by exact HL))) h0).mono ?_
  rintro e0 w0 ⟨rfl, O0, B0⟩
  replace D0 := own_below (by exact D0) B0
  replace D1 := OwnRR.below (by exact D1) B0
  replace D2 := own_below (by exact D2) B0
  replace Og0 := own_below (by exact Og0) B0
  replace HL := Blw.next (by exact HL) B0
  have K0 := O0
  clear O0 B0
  go_wp2_with fail
  refine (eqF_any _ _ _ _ _ X0 X0 _ (by exact rd_own (by exact D0)) (by exact rd_own (by exact K0)) h0 (fun _ _ => rfl)).mono ?_
  rintro e0 w0 ⟨rfl, q, rfl⟩
  clear K0
  go_wp2_with fail
  refine (toFF_any _ _ _ N1 X1 _ (by exact Z1.below (Blw.out (by exact HL))) h1).mono ?_
  rintro e0 w0 ⟨_, _, rfl, O0, B0⟩
  replace D0 := own_below (by exact D0) B0
  replace D1 := OwnRR.below (by exact D1) B0
  replace D2 := own_below (by exact D2) B0
  replace Og0 := own_below (by exact Og0) B0
  replace HL := Blw.next (by exact HL) B0
  have K1 := O0
  clear O0 B0
  go_wp2_with fail
  refine (eqFF_any _ _ _ _ _ N1 X1 _ (by exact OwnRR.rd (by exact D1)) (by exact OwnRR.rd (by exact K1)) h1).mono ?_
  rintro e0 w0 ⟨rfl, q, rfl⟩
  clear K1
  go_wp2_with fail
  refine (toF_any _ _ _ X2 _ (by exact Z2.below (Blw.out (by exact HL))) h2).mono ?_
  rintro e0 w0 ⟨rfl, O0, B0⟩
  replace D0 := own_below (by exact D0) B0
  replace D1 := OwnRR.below (by exact D1) B0
  replace D2 := own_below (by exact D2) B0
  replace Og0 := own_below (by exact Og0) B0
  replace HL := Blw.next (by exact HL) B0
  have K2 := O0
  clear O0 B0
  go_wp2_with fail
  refine (eqF_any _ _ _ _ _ X2 X2 _ (by exact rd_own (by exact D2)) (by exact rd_own (by exact K2)) h2 (fun _ _ => rfl)).mono ?_
  rintro e0 w0 ⟨rfl, q, rfl⟩
  clear K2
  go_wp2_with fail
  refine (markX_any _ _ n0 _ X0 _ _ (by exact D0) h0 (by omega) (by omega)).mono ?_
  rintro e0 w0 ⟨rfl, NM⟩
  replace D1 := OwnRR.only (by exact D1) (by exact Q0_1) NM
  replace D2 := own_only (by exact D2) (by exact Q0_2) NM
  replace Og0 := own_only (by exact Og0) (by exact Qg0) NM
  replace HL := Blw.only (by exact HL) E0 NM
  clear NM D0
  go_wp2_with fail
  have EG1 := Nat.le_trans E1 (OwnRR.ge (by exact D1))
  refine (markFF_any _ _ _ n1 N1 X1 _ _ (by exact D1) h1 (by omega) (by omega)).mono ?_
  rintro e0 w0 ⟨rfl, NM⟩
  replace D2 := own_btw (by exact D2) (Nat.le_refl _) (NM _ (by exact Q1_2))
  replace Og0 := own_btw (by exact Og0) (Nat.le_refl _) (NM _ (by exact Qg1))
  replace HL := Blw.btw (by exact HL) EG1 (NM _ (by exact Qg1))
  clear NM D1
  go_wp2_with fail
  refine (markX_any _ _ n2 _ X2 _ _ (by exact D2) h2 (by omega) (by omega)).mono ?_
  rintro e0 w0 ⟨rfl, NM⟩
  replace Og0 := own_only (by exact Og0) (by exact Qg2) NM
  replace HL := Blw.only (by exact HL) E2 NM
  clear NM D2
  have hk1 : (0 : Int) ≤ 1 + (n0 : Int) + (totN N1 n1 : Int) + (n2 : Int) := by omega
  replace Rg0 := rd_own' (by exact Og0)
  go_wp2_with fail
  refine (eqF_any _ _ _ _ _ Yg0 Yw0 _ (by exact Rg0) (by exact Rw0.below (Blw.out (by exact HL))) mw0 (fun i hi => (Lg0 i hi).trans (Lw0 i hi).symm)).mono ?_
  rintro e0 w0 ⟨rfl, q, rfl⟩
  clear Rg0
  go_wp2_with fail
  refine (markF_any _ _ m0 Yg0 _ _ (by exact Og0) mg0 (by omega) (by omega)).mono ?_
  rintro e0 w0 ⟨rfl, Ok0, B0⟩
  replace HL := Blw.nextB (by exact HL) (B0.mono Eg)
  clear B0 Og0
  have hm1 : (0 : Int) ≤ 1 + (m0 : Int) := by omega
  go_wp2_with fail
  refine (heldF_any _ _ m0 _ _ (by exact Ok0) mg0 (by omega) (by omega)).mono ?_
  rintro e0 w0 ⟨rfl, rfl⟩
  go_wp2_with fail
  refine (toF_any _ _ _ X0 _ (by exact Z0.below (Blw.out (by exact HL))) h0).mono ?_
  rintro e0 w0 ⟨rfl, O0, B0⟩
  replace Ok0 := own_below (by exact Ok0) B0
  replace HL := Blw.next (by exact HL) B0
  have C0 := O0
  clear O0 B0
  go_wp2_with fail
  refine (toFF_any _ _ _ N1 X1 _ (by exact Z1.below (Blw.out (by exact HL))) h1).mono ?_
  rintro e0 w0 ⟨_, _, rfl, O0, B0⟩
  replace C0 := own_below (by exact C0) B0
  replace Ok0 := own_below (by exact Ok0) B0
  replace HL := Blw.next (by exact HL) B0
  have C1 := O0
  clear O0 B0
  go_wp2_with fail
  refine (toF_any _ _ _ X2 _ (by exact Z2.below (Blw.out (by exact HL))) h2).mono ?_
  rintro e0 w0 ⟨rfl, O0, B0⟩
  replace C0 := own_below (by exact C0) B0
  replace C1 := OwnRR.below (by exact C1) B0
  replace Ok0 := own_below (by exact Ok0) B0
  replace HL := Blw.next (by exact HL) B0
  have C2 := O0
  clear O0 B0
  go_wp2_with fail
  refine (HI.out _ _ _ _ _ _ _ (rd_own (by exact C0)) (OwnRR.rd (by exact C1)) (rd_own (by exact C2))).mono ?_
  rintro e0 w3 ⟨vh0, Yh0, rfl, Oh0, Lh0, mh0, B0⟩
  replace Ok0 := own_below (by exact Ok0) B0
  clear C0
  clear C1
  clear C2
  replace HL := Blw.next (by exact HL) B0
  clear B0
  obtain ⟨xh0, ch0, rfl, _, _, Rh0⟩ := rd_of_own Oh0
  clear Oh0
  go_wp2_with fail
  refine (eqF_any _ _ _ _ _ Yh0 Yw0 _ (by exact Rh0) (by exact Rw0.below (Blw.out (by exact HL))) mw0 (fun i hi => (Lh0 i hi).trans (Lw0 i hi).symm)).mono ?_
  rintro e0 w0 ⟨rfl, q, rfl⟩
  clear Rh0
  go_wp2_with fail
  refine (heldF_any _ _ m0 _ _ (by exact Ok0) mg0 (by omega) (by omega)).mono ?_
  rintro e0 w0 ⟨rfl, rfl⟩
  go_wp2
  go_ret
  exact ⟨rfl, (Blw.out (by exact HB)).trans ((Blw.out (by exact HL)).mono (Blw.out (by exact HB)).size)⟩
set_option maxRecDepth 100000 in
set_option maxHeartbeats 1600000 in
theorem lawUnmixOnce_any (W : World) (x0 : Option Addr) (n0 c0 : Nat) (X0 : Nat → Nat) (hX0 : Rd W x0 n0 X0) (x1 : Option Addr) (n1 c1 : Nat) (N1 : Nat → Nat) (X1 : Nat → Nat → Nat) (hX1 : RdR W x1 n1 N1 X1) (_hm1 : n1 ≤ maxLen) (_hN1 : ∀ j, j < n1 → N1 j ≤ maxLen) (x2 : Option Addr) (n2 c2 : Nat) (X2 : Nat → Nat) (hX2 : Rd W x2 n2 X2) :
    Calls Try.prog 6 #[.slice x0 n0 c0, .slice x1 n1 c1, .slice x2 n2 c2] W fun e w' => e = .returned (.bool true) ∧ Below W.heap.size W w' := by
  by_cases h0 : n0 ≤ 1048576
  · skip
    by_cases h2 : n2 ≤ 1048576
    · skip
      by_cases h1 : n1 + totN N1 n1 ≤ 1048576
      · skip
        obtain ⟨R0, m0, r1, hs, hi⟩ := bothUnmixOnce n0 X0 h0 n1 N1 X1 h1 n2 X2 h2
        exact lawUnmixOnce_in W x0 n0 c0 X0 hX0 x1 n1 c1 N1 X1 hX1 _hm1 _hN1 x2 n2 c2 X2 hX2 h0 h1 h2 R0 m0 r1 (Lib.hid hs) (Lib.hid hi)
      · go_enter Try.func6, Try.ntmps6
        go_wp2_with (go_at_call 15; refine (szFF_no _ _ _ N1 X1 _ (by exact hX1) _hm1 _hN1 (by omega)).mono ?_; rintro e0 w0 ⟨rfl, rfl⟩)
        go_ret
        exact ⟨rfl, (Blw.refl _).out⟩
    · have h' : (1048576 : Int) < (n2 : Int) := by omega
      go_enter Try.func6, Try.ntmps6
      go_wp2
      go_ret
      exact ⟨rfl, (Blw.refl W).out⟩
  · have h' : (1048576 : Int) < (n0 : Int) := by omega
    go_enter Try.func6, Try.ntmps6
    go_wp2
    go_ret
    exact ⟨rfl, (Blw.refl W).out⟩
set_option maxRecDepth 100000 in
theorem FnExactUnmixOnce_lifted (os : Os) (started : os.Started) (H : Type) (enc : TypeId × Value → H) :
    ReturnsInHanded {} Try.checked os 6 .any (Rows.fnExactUnmixOnceSpec.pre6 enc Try.prog Try.f6 Rows.fnExactUnmixOnceRow.domain false) (Rows.fnExactUnmixOnceSpec.post enc Try.prog Try.f6 false true false false) := by
  refine returnsInHanded_of_change (C := Try.checked) ownKnob_none started (by kernel_rfl) Try.func6
    (ChangeSpec.witness6 (enc := enc) (C := Try.checked) false ⟨#[], #[.slice none 0 0, .slice none 0 0, .slice none 0 0], []⟩ 8 (by kernel_rfl) (by kernel_rfl) (by kernel_rfl) (by kernel_rfl)) ?_
  intro W base args ds gs before hval0 hW _ _
  have hval : ∀ (j : Nat) t v, Try.f6.params[j]? = some t → args[j]? = some v → Value.okWide Try.prog W .any base t v := hval0
  have hW' := hW
  obtain ⟨p, q, hA0, hV, rfl, _, _⟩ := hW
  have hA : DataW.TrodAll enc Try.prog W 0 (fun _ => true) true Try.f6.params.toList args.toList ds p := hA0
  rw [Try.params6] at hA hval
  obtain ⟨v0, v1, v2, d0, d1, d2, p0, p1, p2, rfl, rfl, rfl, h0, h1, h2⟩ := trodAll_three hA
  obtain ⟨rfl, rfl⟩ := trodVars_none hV
  obtain ⟨x0, n0, c0, rfl⟩ := okWide_slice Try.underlying24 (hval 0 24 v0 rfl rfl)
  have k0 := h0
  obtain ⟨_, _, a0, w0, _⟩ := open_f32s Try.underlying24 Try.underlying43 cellsF h0
  have b0 : ∀ x ∈ p0, x.block < W.heap.size := fun x hx => by have := hW'.lt x (by simp [hx]); simpa using this
  obtain ⟨x1, n1, c1, rfl⟩ := okWide_slice Try.underlying22 (hval 1 22 v1 rfl rfl)
  have k1 := h1
  obtain ⟨lc1, cm1, N1, X1, w1, g1, _⟩ := open_ffs h1
  have b1 : ∀ x ∈ p1, x.block < W.heap.size := fun x hx => by have := hW'.lt x (by simp [hx]); simpa using this
  obtain ⟨x2, n2, c2, rfl⟩ := okWide_slice Try.underlying24 (hval 2 24 v2 rfl rfl)
  have k2 := h2
  obtain ⟨_, _, a2, w2, _⟩ := open_f32s Try.underlying24 Try.underlying43 cellsF h2
  have b2 : ∀ x ∈ p2, x.block < W.heap.size := fun x hx => by have := hW'.lt x (by simp [hx]); simpa using this
  clear hA0 hval0
  refine (lawUnmixOnce_any W x0 n0 c0 a0 w0 x1 n1 c1 N1 X1 w1 (Nat.le_trans lc1 cm1) g1 x2 n2 c2 a2 w2).mono fun e W' ⟨he, hb⟩ => ?_
  subst he
  have hA2 := trodAll_mk3 (enc := enc) (w := W') (base := 0) (spare := fun b => decide (b < W.heap.size)) (held := true) (Below.trod laidOut (by kernel_rfl) (of_decide_eq_true (by kernel_rfl)) k0 hb b0) (Below.trod laidOut (by kernel_rfl) (of_decide_eq_true (by kernel_rfl)) k1 hb b1) (Below.trod laidOut (by kernel_rfl) (of_decide_eq_true (by kernel_rfl)) k2 hb b2)
  exact ⟨_, rfl, _, _, _, [], _, [], hW', trodAll_cons_mk (shut_bool Try.underlying4 _) trodAll_mk0, hA2, rfl, hb.frame _, fun h => by cases h⟩
theorem FnExactUnmixOnce_holds : Rows.FnExactUnmixOnceSaid :=
  OpenClaim.holds_of_wide 6 Try.f6 rfl rfl rfl rfl rfl rfl rfl ⟨rfl, rfl, rfl, rfl, rfl⟩ rfl rfl rfl rfl rfl (by kernel_rfl) Try.func6 (by kernel_rfl)
    (of_decide_eq_true (by kernel_rfl)) (by unfold Func.isWrapper; first | (rw [if_pos (by decide +kernel)]; kernel_rfl) | (rw [if_neg (by decide +kernel)]; exact ⟨rfl, rfl⟩))
    (fun os started H enc _ => FnExactUnmixOnce_lifted os started H enc)
end Go.Proofs.Ytehlflldnihamab
