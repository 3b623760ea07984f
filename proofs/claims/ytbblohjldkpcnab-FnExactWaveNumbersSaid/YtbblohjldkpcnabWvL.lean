
/- Of any steps and energy the program tells the same wave numbers as the model does; its answer owns its memory and the steps are not changed: for all arguments. -/
import Derived.Test.YtbblohjldkpcnabWvs
import Derived.Test.YtbblohjldkpcnabWvi
import Derived.Test.YtbblohjldkpcnabMin
import Derived.Test.YtbblohjldkpcnabJnP
import Derived.Deep.Cut
import Derived.Deep.DeepCutAuto
namespace Go.Proofs.Ytbblohjldkpcnab
open Go Go.ChangeShapes Go.WideShapes Go.ChangeAt Go.RowKit
set_option linter.all false

/-- What is told, at one length. -/
def RetU (p : Nat) (R I : Nat → Nat) (ok : Bool) (w : World) (e : Ending) (w' : World) : Prop := ∃ v A B, e = .returned (.tuple #[v, .bool ok]) ∧ w'.ownsRow w.heap.size 106 1 v p (rowC A B p) ∧ Like A R p ∧ Like B I p ∧ Below w.heap.size w w'
theorem RetW.u {E m : Nat} {Y : Nat → Nat} {ok : Bool} {w w' : World} {e : Ending} (h : RetW E Y m ok w e w') : RetU (if ok = true then m else 0) (fun i => wvR E (Y i)) (fun i => wvI E (Y i)) ok w e w' := by
  rcases h with ⟨rfl, rfl, hb⟩ | ⟨rfl, v, A, B, rfl, o, la, lb, hb⟩
  · exact ⟨_, fun _ => 0, fun _ => 0, rfl, World.ownsRow_nil _ _ _ _, fun _ h => absurd h (Nat.not_lt_zero _), fun _ h => absurd h (Nat.not_lt_zero _), hb⟩
  · exact ⟨v, A, B, rfl, o, la, lb, hb⟩
theorem rdC_own' {w : World} {B e n cap : Nat} {xa : Option Addr} {X Y : Nat → Nat} (h : w.ownsRow B e 1 (.slice xa n cap) n (rowC X Y n)) : RdC w xa n X Y := by
  obtain ⟨xa', cap', hv, _, _, hr⟩ := rdC_of_own h
  cases hv
  exact hr
theorem own_rest {w w' : World} {B e n n1 m1 : Nat} {v : Value} {a1 b1 : Option Addr} {xs : List Value} (h : w.ownsRow B e 1 v n xs) (f1 : Far n1 a1 B) (f2 : Far m1 b1 B) (r : RestM n1 a1 m1 b1 w w') : w'.ownsRow B e 1 v n xs := by
  refine ⟨h.1, ?_⟩
  rcases h.2 with h2 | ⟨g, cap, cur, e1, e2, e3, e4⟩
  · exact .inl h2
  · have hg : g < w.heap.size := (Array.getElem?_eq_some_iff.1 e3).1
    refine .inr ⟨g, cap, cur, e1, e2, ?_, e4⟩
    rw [r.2.2.2.2 g hg (fun k hk e => ?_) (fun k hk e => ?_)]
    · exact e3
    · have := f1.ne k hk e
      rcases f1 with f | ⟨k', f3, f4⟩
      · exact absurd f hk
      · rw [f3] at e; cases e; omega
    · rcases f2 with f | ⟨k', f3, f4⟩
      · exact absurd f hk
      · rw [f3] at e; cases e; omega
set_option maxRecDepth 100000 in
set_option maxHeartbeats 3200000 in
theorem specWn_any (xa ya : Option Addr) (n m cx cy E : Nat) (X Y : Nat → Nat) (w : World) (hX : Rd w xa n X) (hY : Rd w ya m Y) (hn : n ≤ 1048576) (hm : m ≤ 1048576)
    (hE : E < 4294967296) (hw : ∀ i, i < m → Y i < 4294967296) (ok : Bool) (hok : ok = (stepsOk X n Y m && isFin .f32 E && wvAll E Y m)) :
    Calls Try.prog 52 #[.agg #[.slice xa n cx, .slice ya m cy], .float .f32 E] w (RetW E Y m ok w) := by
  have HK := Lib.hid hok
  clear hok
  cases hst : stepsOk X n Y m
  · have HN := Lib.hid (show ok = false by rw [HK.out, hst]; rfl)
    go_enter Try.func52, Try.ntmps52
    go_wp2_with fail
    refine (l02Is_any w.heap.size xa ya n m cx cy X Y _ (by simp [go_sem]) (by simp [go_sem]) (by exact hX.alloc _) (by exact hY.alloc _) hn hm).mono ?_
    rw [hst]
    rintro e0 w1 ⟨rfl, q, rfl⟩
    go_wp2
    go_ret2
    exact .inl ⟨HN.out, rfl, Below.drewN ((Below.refl _ _).alloc (Nat.le_refl _) _) q⟩
  cases hfE : isFin .f32 E
  · have HN := Lib.hid (show ok = false by rw [HK.out, hst, hfE]; rfl)
    go_enter Try.func52, Try.ntmps52
    go_wp2_with fail
    refine (l02Is_any w.heap.size xa ya n m cx cy X Y _ (by simp [go_sem]) (by simp [go_sem]) (by exact hX.alloc _) (by exact hY.alloc _) hn hm).mono ?_
    rw [hst]
    rintro e0 w1 ⟨rfl, q, rfl⟩
    go_wp2_with fail
    refine (l01Finite_any _ _).mono ?_
    rw [hfE]
    rintro e w' ⟨rfl, q2, rfl⟩
    go_wp2
    go_ret2
    exact .inl ⟨HN.out, rfl, Below.drewN ((Below.refl _ _).alloc (Nat.le_refl _) _) _⟩
  have hfY := (ok_fin hst).2.1
  have HK' := Lib.hid (show ok = wvAll E Y m by rw [HK.out, hst, hfE]; rfl)
  have HW := Lib.hid hw
  have HE := Lib.hid hE
  clear hw hE
  go_enter Try.func52, Try.ntmps52
  go_wp2_with fail
  refine (l02Is_any w.heap.size xa ya n m cx cy X Y _ (by simp [go_sem]) (by simp [go_sem]) (by exact hX.alloc _) (by exact hY.alloc _) hn hm).mono ?_
  rw [hst]
  rintro e0 w1 ⟨rfl, q, rfl⟩
  go_wp2_with fail
  refine (l01Finite_any _ _).mono ?_
  rw [hfE]
  rintro e w' ⟨rfl, q2, rfl⟩
  go_wp2_with fail
  refine (specWaves_any w.heap.size xa ya n m cx cy E Y _ (by simp [go_sem]) (by simp [go_sem]) (by exact hY.alloc _) hm HE.out hfE HW.out hfY ok HK'.out).mono ?_
  have HA : Below w.heap.size w ((w.alloc (Obj.cells #[Value.slice xa n cx, Value.slice ya m cy] 62)).drewN (q + q2)) := Below.drewN ((Below.refl _ _).alloc (Nat.le_refl _) _) _
  rintro e1 w3 (⟨h1, rfl, hb⟩ | ⟨h1, v, A, B, rfl, o, la, lb, hb⟩)
  · go_wp2
    go_ret2
    exact .inl ⟨h1, rfl, HA.trans (hb.mono HA.size)⟩
  · obtain ⟨va, vc, rfl, _, _, _⟩ := rdC_of_own o
    have O := Lib.hid o
    clear o
    go_wp2
    go_ret2
    exact .inr ⟨h1, _, A, B, rfl, own_mono0 O.out HA.size, la, lb, HA.trans (hb.mono HA.size)⟩
set_option maxRecDepth 100000 in
set_option maxHeartbeats 12800000 in
theorem lawWave_in (W : World) (xa ya : Option Addr) (n cx m cy E : Nat) (X Y : Nat → Nat) (hX : Rd W xa n X) (hY : Rd W ya m Y) (hs : (n : Int) + m ≤ 1048576)
    (p : Nat) (R I : Nat → Nat) (ok : Bool) (hp : p ≤ 1048576)
    (HS : Hid (∀ xa ya cx cy w, Rd w xa n X → Rd w ya m Y → Calls Try.prog 52 #[.agg #[.slice xa n cx, .slice ya m cy], .float .f32 E] w (RetU p R I ok w)))
    (HI : Hid (∀ xa ya cx cy w, Rd w xa n X → Rd w ya m Y → Calls Try.prog 53 #[.agg #[.slice xa n cx, .slice ya m cy], .float .f32 E] w (RetU p R I ok w))) :
    Calls Try.prog 12 #[.agg #[.slice xa n cx, .slice ya m cy], .float .f32 E] W fun e w' => e = .returned (.bool true) ∧ Below W.heap.size W w' := by
  have h1 : n ≤ 1048576 := by omega
  have h2 : m ≤ 1048576 := by omega
  have hbb : (ok != ok) = false := by simp
  have hq0 : (0 : Int) ≤ 1 + (p : Int) := by omega
  have hq1 : (0 : Int) ≤ 1 + (n : Int) + (m : Int) := by omega
  obtain ⟨A1, hA1⟩ : ∃ A1, A1 = W.alloc (.cells #[.slice xa n cx, .slice ya m cy] 60) := ⟨_, rfl⟩
  have HA : Below W.heap.size W A1 := by rw [hA1]; exact (Below.refl _ _).alloc (Nat.le_refl _) _
  have RX := hX.below HA
  have RY := hY.below HA
  have HP : Box2 A1 W.heap.size (.slice xa n cx) (.slice ya m cy) := by rw [hA1]; exact box2_alloc ..
  have HPa := HP.1
  have HPb := HP.2
  clear hX hY
  go_enter Try.func12, Try.ntmps12
  go_wp2_with fail
  rw [← hA1]
  clear hA1
  have HB := Blw.refl A1
  go_wp2_with fail
  refine (szSteps_yes _ _ n m cx cy _ _ hs (by omega)).mono ?_
  rintro e0 w0 ⟨rfl, B0⟩
  replace RX := Rd.below (by exact RX) B0
  replace RY := Rd.below (by exact RY) B0
  clear HPa HPb
  replace HP := Box2.below (by exact HP) B0
  have HPa := HP.1
  have HPb := HP.2
  replace HB := Blw.next (by exact HB) B0
  clear B0
  go_wp2_with fail
  refine (toSteps_any _ _ _ _ _ _ X Y _ (by exact RX) (by exact RY) h1 h2).mono ?_
  rintro e0 w0 ⟨g0, g1, rfl, O0, O1, _, B0⟩
  have T1 := rd_own O0
  have T2 := rd_own O1
  clear O0 O1
  replace RX := Rd.below (by exact RX) B0
  replace RY := Rd.below (by exact RY) B0
  clear HPa HPb
  replace HP := Box2.below (by exact HP) B0
  have HPa := HP.1
  have HPb := HP.2
  replace HB := Blw.next (by exact HB) B0
  clear B0
  go_wp2_with fail
  refine (HS.out _ _ _ _ _ (by exact T1) (by exact T2)).mono ?_
  rintro e0 w0 ⟨v0, A0, I0, rfl, V0, La, Lb, B0⟩
  clear T1 T2
  replace RX := Rd.below (by exact RX) B0
  replace RY := Rd.below (by exact RY) B0
  clear HPa HPb
  replace HP := Box2.below (by exact HP) B0
  have HPa := HP.1
  have HPb := HP.2
  replace HB := Blw.next (by exact HB) B0
  clear B0
  obtain ⟨a0, c0, rfl, _, _, V1⟩ := rdC_of_own V0
  clear V0
  go_wp2_with fail
  generalize w0 = wA at *
  replace HA := HA.trans ((Blw.out (by exact HB)).mono HA.size)
  clear HB
  have HB := Blw.refl wA
  refine (toSteps_any _ _ _ _ _ _ X Y _ (by exact RX) (by exact RY) h1 h2).mono ?_
  rintro e0 w0 ⟨g0, g1, rfl, O0, O1, hgg, B0⟩
  clear HPa HPb
  replace HB := Blw.next (by exact HB) B0
  have M0 : Mine w0 wA.heap.size n (some ⟨g0, 0, none⟩) n X := .inr ⟨g0, rfl, O0⟩
  have M1 : Mine w0 wA.heap.size m (some ⟨g1, 0, none⟩) m Y := .inr ⟨g1, rfl, O1⟩
  have apx : Apart n m (some ⟨g0, 0, none⟩) (some ⟨g1, 0, none⟩) := .inr (.inr ⟨g0, g1, rfl, rfl, by omega⟩)
  clear O0 O1 B0 hgg
  have BA := (Below.refl _ w0).alloc (Nat.le_refl _) (.cells #[.slice (some ⟨g0, 0, none⟩) n n, .slice (some ⟨g1, 0, none⟩) m m] 62)
  replace M0 := Mine.below (by exact M0) BA
  replace M1 := Mine.below (by exact M1) BA
  replace HB := Blw.next (by exact HB) BA
  have Q := box2_alloc w0 (.slice (some ⟨g0, 0, none⟩) n n) (.slice (some ⟨g1, 0, none⟩) m m) 62
  have Qa := Q.1
  have Qb := Q.2
  clear BA
  go_wp2_with fail
  generalize hqb : w0.heap.size = qb at *
  generalize w0.alloc (Obj.cells #[.slice (some ⟨g0, 0, none⟩) n n, .slice (some ⟨g1, 0, none⟩) m m] 62) = wB at *
  clear hqb
  have F0 := M0.far
  have F1 := M1.far
  have hAB := HB.out.size
  refine (HI.out _ _ _ _ _ (by exact M0.rd) (by exact M1.rd)).mono ?_
  rintro e0 wC ⟨v1, A2, I2, rfl, G0, Lc, Ld, B0⟩
  replace HB := Blw.next (by exact HB) B0
  replace M0 := M0.below B0
  replace M1 := M1.below B0
  replace Q := Q.below B0
  clear B0 Qa Qb
  obtain ⟨a1, c1, rfl, _, _, G1⟩ := rdC_of_own G0
  have HC := Blw.refl wC
  have V2 := V1.below HB.out
  have HE1 := Lib.hid (fun i (hi : i < p) => (Lc i hi).trans (La i hi).symm)
  have HE2 := Lib.hid (fun i (hi : i < p) => (Ld i hi).trans (Lb i hi).symm)
  clear Lc Ld
  go_wp2_with fail
  refine (eqC_any _ _ p _ _ A2 I2 A0 I0 _ (by exact G1) (by exact V2) hp HE1.out HE2.out).mono ?_
  rintro e0 w0 ⟨rfl, q, hq⟩
  replace HC : Blw wC w0 := by rw [hq]; exact HC.next (Below.drewN (Below.refl _ _) q)
  clear hq V2 G1
  have Q' := Q.below HC.out
  have Qa := Q'.1
  have Qb := Q'.2
  have HP' := (HP.below HB.out).below HC.out
  have HPa := HP'.1
  have HPb := HP'.2
  go_upto_region 10 with (fail)
  go_cut [49] (fun s wx => s = .bool false ∧ Blw wC wx)
  case first =>
    have RX1 := (RX.below HB.out).below HC.out
    have RY1 := (RY.below HB.out).below HC.out
    have T1 := (M0.below HC.out).rd
    have T2 := (M1.below HC.out).rd
    have Q0 := Q'
    clear HP' Q' HB
    have HB := HC
    clear HC
    go_region_with (first
      | (go_at_call 45; refine (toSteps_any _ _ _ _ _ _ X Y _ (by exact RX1) (by exact RY1) h1 h2).mono ?_; rintro e0 w5 ⟨g4, g5, rfl, O4, O5, _, B5⟩; have T5 := rd_own O4; have T6 := rd_own O5; have T1' := Rd.below (by exact T1) B5; have T2' := Rd.below (by exact T2) B5; have QQ := Box2.below (by exact Q0) B5; have Qa' := QQ.1; have Qb' := QQ.2; clear QQ Qa Qb; replace HB := Blw.next (by exact HB) B5)
      | (go_at_call 47; refine (eqSteps_any _ _ _ _ _ _ _ _ _ _ X Y _ (by exact T1') (by exact T2') (by exact T5) (by exact T6) h1 h2).mono ?_; rintro e0 w6 ⟨rfl, B6⟩; replace HB := Blw.next (by exact HB) B6))
    all_goals (go_wp2_with fail; go_meet; exact ⟨rfl, by exact HB⟩)
  case rest =>
    clear HC HPa HPb HP' Qa Qb Q'
    obtain ⟨rfl, HC⟩ := hcut
    have Q' := Q.below HC.out
    have Qa := Q'.1
    have Qb := Q'.2
    go_wp2_with fail
    refine (markMs_any wA.heap.size n n m m _ _ X Y 1 _ (by exact M0.below HC.out) (by exact M1.below HC.out) apx h1 h2 (by omega) (by omega)).mono ?_
    rintro e0 wD ⟨rfl, _, _, r⟩
    have HBD := (HB.next HC.out).nextB (restM_below (M0.below HC.out) (M1.below HC.out) (Nat.le_refl _) (Nat.le_refl _) (HB.next HC.out).out.size r)
    have G0D := own_rest (own_below G0 HC.out) F0 F1 r
    have VD := V1.below HBD.out
    have G1D := rdC_own' G0D
    clear r HC HB Q Qa Qb Q' M0 M1 G0 apx
    go_wp2_with fail
    refine (eqC_any _ _ p _ _ A2 I2 A0 I0 _ (by exact G1D) (by exact VD) hp HE1.out HE2.out).mono ?_
    rintro e0 w0 ⟨rfl, q2, rfl⟩
    replace HBD := HBD.next (Below.drewN (Below.refl _ _) q2)
    clear VD G1D
    go_wp2_with fail
    refine (markC_any wB.heap.size _ p A2 I2 1 _ (by exact own_drew G0D q2) hp (by omega) (by omega)).mono ?_
    rintro e0 wE ⟨rfl, K0, Bm⟩
    have HBE := HBD.nextB (Bm.mono hAB)
    clear HBD G0D Bm
    go_wp2_with fail
    refine (heldC_any wB.heap.size _ p 1 _ (by exact K0) hp (by omega) (by omega)).mono ?_
    rintro e0 w0 ⟨rfl, rfl⟩
    have HE := Blw.refl wE
    have HPE := HP.below HBE.out
    have HPa := HPE.1
    have HPb := HPE.2
    have RXE := RX.below HBE.out
    have RYE := RY.below HBE.out
    go_wp2_with fail
    refine (toSteps_any _ _ _ _ _ _ X Y _ (by exact RXE) (by exact RYE) h1 h2).mono ?_
    rintro e0 w0 ⟨g4, g5, rfl, O4, O5, _, B0⟩
    replace HE := Blw.next (by exact HE) B0
    clear B0 HPa HPb HPE RXE RYE
    go_wp2_with fail
    refine (HI.out _ _ _ _ _ (by exact rd_own O4) (by exact rd_own O5)).mono ?_
    rintro e0 w0 ⟨v2, A3, I3, rfl, H0, Le, Lf, B0⟩
    replace HE := Blw.next (by exact HE) B0
    clear B0 O4 O5
    obtain ⟨a2, c2, rfl, _, _, H1⟩ := rdC_of_own H0
    clear H0
    have VE := V1.below (HBE.next HE.out).out
    have HE3 := Lib.hid (fun i (hi : i < p) => (Le i hi).trans (La i hi).symm)
    have HE4 := Lib.hid (fun i (hi : i < p) => (Lf i hi).trans (Lb i hi).symm)
    clear Le Lf
    go_wp2_with fail
    refine (eqC_any _ _ p _ _ A3 I3 A0 I0 _ (by exact H1) (by exact VE) hp HE3.out HE4.out).mono ?_
    rintro e0 w1 ⟨rfl, q3, rfl⟩
    replace HE := HE.next (Below.drewN (Below.refl _ _) q3)
    clear H1 VE
    go_wp2_with fail
    refine (heldC_any wB.heap.size _ p 1 _ (by exact own_below K0 HE.out) hp (by omega) (by omega)).mono ?_
    rintro e0 w1 ⟨rfl, rfl⟩
    go_wp2
    go_ret
    exact ⟨rfl, HA.trans ((HBE.next HE.out).out.mono HA.size)⟩
end Go.Proofs.Ytbblohjldkpcnab
