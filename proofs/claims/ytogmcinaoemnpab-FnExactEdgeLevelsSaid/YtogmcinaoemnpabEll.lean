
/- Of any number of levels and edges the program tells the same levels as the model does; its answer owns its memory and the edges are not changed: for all arguments. -/
import Derived.Test.YtogmcinaoemnpabEls
import Derived.Test.YtogmcinaoemnpabElk
import Derived.Test.YtogmcinaoemnpabLiC
import Derived.Test.YtogmcinaoemnpabLaw
namespace Go.Proofs.Ytogmcinaoemnpab
set_option linter.all false
open Go Go.ChangeShapes Go.WideShapes Go.ChangeAt Go.RowKit

/-- What is told of EdgeLevels. -/
def RetEdgeLevels (R0 : Nat → Nat) (m0 : Nat) (r1 : Bool) (w : World) (e : Ending) (w' : World) : Prop := ∃ (v0 : Value) (Y0 : Nat → Nat), e = .returned (.tuple #[v0, .bool r1]) ∧ w'.ownsRow w.heap.size 36 1 v0 m0 (rowOf Y0 m0) ∧ Like Y0 R0 m0 ∧ m0 ≤ 1048576 ∧ Below w.heap.size w w'
theorem elNo {R : Nat → Nat} {w w' : World} (hb : Below w.heap.size w w') : RetEdgeLevels R 0 false w (.returned (.tuple #[.slice none 0 0, .bool false])) w' :=
  ⟨_, fun _ => 0, rfl, World.ownsRow_nil _ _ _ _, fun _ h => absurd h (Nat.not_lt_zero _), Nat.zero_le _, hb⟩
set_option maxRecDepth 100000 in
set_option maxHeartbeats 1600000 in
theorem specEl_no (L : Int) (hw : (Lit.int .i64 L).wf = true) (xa : Option Addr) (n cap : Nat) (X : Nat → Ed) (w : World) (hX : RdE w xa n X) (hn : n ≤ 1048576) (R : Nat → Nat) (hk : okEds L X n = false) :
    Calls Try.prog 27 #[.int .i64 L, .slice xa n cap] w (RetEdgeLevels R 0 false w) := by
  have HA := Lib.hid (specEds_any L hw xa n cap X w hX hn false (Lib.hid hk.symm))
  clear hk
  go_enter Try.func27, Try.ntmps27
  go_wp2_with (go_at_call 55; refine HA.out.mono ?_; rintro e w1 ⟨rfl, q, rfl⟩)
  go_ret2
  exact elNo (Below.drewN (Below.refl _ _) _)
set_option maxRecDepth 100000 in
set_option maxHeartbeats 1600000 in
theorem implEl_no (L : Int) (hw : (Lit.int .i64 L).wf = true) (xa : Option Addr) (n cap : Nat) (X : Nat → Ed) (w : World) (hX : RdE w xa n X) (hn : n ≤ 1048576) (R : Nat → Nat) (hk : okEds L X n = false) :
    Calls Try.prog 29 #[.int .i64 L, .slice xa n cap] w (RetEdgeLevels R 0 false w) := by
  have HA := Lib.hid (implAE_any L hw xa n cap X w hX hn false (Lib.hid hk.symm))
  clear hk
  go_enter Try.func29, Try.ntmps29
  go_wp2_with (go_at_call 58; refine HA.out.mono ?_; rintro e w1 ⟨rfl, B1⟩)
  go_ret2
  exact elNo B1
theorem bothEdgeLevels (L : Int) (hw : (Lit.int .i64 L).wf = true) (n : Nat) (X : Nat → Ed) (hn : n ≤ 1048576) :
    ∃ (R : Nat → Nat) (c : Nat) (ok : Bool), (∀ (xa : Addr) (cx : Nat) (w : World), RdE w (some xa) n X → Calls Try.prog 27 #[.int .i64 L, .slice (some xa) n cx] w (RetEdgeLevels R c ok w)) ∧
      ∀ (xa : Addr) (cx : Nat) (w : World), RdE w (some xa) n X → Calls Try.prog 29 #[.int .i64 L, .slice (some xa) n cx] w (RetEdgeLevels R c ok w) := by
  cases hk : okEds L X n
  · exact ⟨fun _ => 0, 0, false, fun xa cx w hX => specEl_no L hw _ n cx X w hX hn _ hk, fun xa cx w hX => implEl_no L hw _ n cx X w hX hn _ hk⟩
  · have h1 : inB L 1 12 = true := by
      unfold okEds at hk
      simp only [Bool.and_eq_true] at hk
      exact hk.1.1
    have h2 := inB_rng h1
    obtain ⟨l, rfl⟩ : ∃ l : Nat, L = l := ⟨L.toNat, by omega⟩
    obtain ⟨ok, hok⟩ : ∃ ok, ok = (elAll X n (l - 1) && finL (elSt X n (l - 1)).2 l) := ⟨_, rfl⟩
    obtain ⟨p, hp⟩ : ∃ p, p = if ok = true then l else 0 := ⟨_, rfl⟩
    have hpl : p ≤ 1048576 := by rw [hp]; split <;> omega
    have conv : ∀ {R : Nat → Nat} {w : World} {e : Ending} {w' : World}, OutRet R p ok w e w' → RetEdgeLevels R p ok w e w' := fun ⟨v, Z, he, ho, hL, hB⟩ => ⟨v, Z, he, ho, hL, hpl, hB⟩
    exact ⟨_, p, ok, fun xa cx w hX => (specEl_yes l _ n cx X w hX hk ok p (Lib.hid hok) (Lib.hid hp)).mono fun e w' h => conv h, fun xa cx w hX => (implEl_yes l _ n cx X w hX hk ok p (Lib.hid hok) (Lib.hid hp)).mono fun e w' h => conv h⟩
set_option maxRecDepth 100000 in
set_option maxHeartbeats 6400000 in
theorem lawEdgeLevels_in (W : World) (a0 : Int) (_wf0 : (Lit.int .i64 a0).wf = true) (x1 : Option Addr) (n1 c1 : Nat) (X1 : Nat → Ed) (hX1 : RdE W x1 n1 X1) (_hm1 : n1 ≤ maxLen) (h1 : n1 ≤ 1048576) (R0 : Nat → Nat) (m0 : Nat) (r1 : Bool) (HS : Hid (∀ (x1 : Addr) (c1 : Nat) (w : World), RdE w (some x1) n1 X1 → Calls Try.prog 27 #[.int .i64 a0, .slice (some x1) n1 c1] w (RetEdgeLevels R0 m0 r1 w))) (HI : Hid (∀ (x1 : Addr) (c1 : Nat) (w : World), RdE w (some x1) n1 X1 → Calls Try.prog 29 #[.int .i64 a0, .slice (some x1) n1 c1] w (RetEdgeLevels R0 m0 r1 w))) :
    Calls Try.prog 7 #[.int .i64 a0, .slice x1 n1 c1] W fun e w' => e = .returned (.bool true) ∧ Below W.heap.size W w' := by
  have hcv := fun (R : Nat) (s t : Nat) => show canon .f64 (pick .f64 (fconv .f32 (pick .f32 R s) .f64) t) = canon .f64 (fconv .f32 R .f64) by rw [canon_pick, fconv_pick]
  have hcw := fun (R : Nat) (s t : Nat) => show canon .f64 (pick .f64 R s) = canon .f64 (pick .f64 R t) by rw [canon_pick, canon_pick]
  have HCV := Lib.hid hcv
  have HCW := Lib.hid hcw
  clear hcv hcw
  have hnb1 : (r1 != r1) = false := by simp
  have HB := Blw.refl W
  have hz1 : (0 : Int) ≤ 1048576 - (n1 : Int) := by omega
  go_enter Try.func7, Try.ntmps7
  go_wp2_with (go_at_call 26; go_in)
  refine (toE_any _ _ _ X1 _ (by exact hX1.below (Blw.out (by exact HB))) h1).mono ?_
  rintro e0 w0 ⟨rfl, O0, B0⟩
  replace HB := Blw.next (by exact HB) B0
  have C1 := O0
  clear O0 B0
  go_wp2_with fail
  refine (HS.out _ _ _ (rdE_own (by exact C1))).mono ?_
  rintro e0 w1 ⟨vw0, Yw0, rfl, Ow0, Lw0, mw0, B0⟩
  clear C1
  replace HB := Blw.next (by exact HB) B0
  clear B0
  have Z1 := hX1.below HB.out
  obtain ⟨xw0, cw0, rfl, _, _, Rw0⟩ := rd_of_own Ow0
  clear Ow0
  have HL := Blw.refl w1
  have E1 := (Blw.out (by exact HL)).size
  go_wp2_with fail
  refine (toE_any _ _ _ X1 _ (by exact Z1.below (Blw.out (by exact HL))) h1).mono ?_
  rintro e0 w0 ⟨rfl, O0, B0⟩
  replace HL := Blw.next (by exact HL) B0
  have D1 := O0
  clear O0 B0
  have Qg1 := ownS_lt (by exact D1)
  have Eg := (Blw.out (by exact HL)).size
  go_wp2_with fail
  refine (HI.out _ _ _ (rdE_own (by exact D1))).mono ?_
  rintro e0 w2 ⟨vg0, Yg0, rfl, Og0, Lg0, mg0, B0⟩
  replace D1 := ownS_below (by exact D1) B0
  replace HL := Blw.next (by exact HL) B0
  clear B0
  have O_0 := Og0
  obtain ⟨xg0, cg0, rfl, _, _, Rg0⟩ := rd_of_own O_0
  clear O_0
  go_wp2_with fail
  refine (eqF_any _ _ _ _ _ Yg0 Yw0 _ (by exact Rg0) (by exact Rw0.below (Blw.out (by exact HL))) mw0 (fun i hi => (Lg0 i hi).trans (Lw0 i hi).symm)).mono ?_
  rintro e0 w0 ⟨rfl, q, rfl⟩
  go_wp2_with fail
  refine (toE_any _ _ _ X1 _ (by exact Z1.below (Blw.out (by exact HL))) h1).mono ?_
  rintro e0 w0 ⟨rfl, O0, B0⟩
  replace D1 := ownS_below (by exact D1) B0
  replace Og0 := own_below (by exact Og0) B0
  replace HL := Blw.next (by exact HL) B0
  have K1 := O0
  clear O0 B0
  go_wp2_with fail
  refine (eqE_any _ _ _ _ _ X1 _ (by exact rdE_own (by exact D1)) (by exact rdE_own (by exact K1)) h1).mono ?_
  rintro e0 w0 ⟨rfl, B0⟩
  replace D1 := ownS_below (by exact D1) B0
  replace Og0 := own_below (by exact Og0) B0
  replace HL := Blw.next (by exact HL) B0
  clear B0
  clear K1
  go_wp2_with fail
  refine (markE_any _ n1 _ X1 _ _ (by exact D1) h1 (by omega) (by omega)).mono ?_
  rintro e0 w0 ⟨rfl, NM⟩
  replace Og0 := own_only (by exact Og0) (by exact Qg1) NM
  replace HL := Blw.only (by exact HL) E1 NM
  clear NM D1
  have hk1 : (0 : Int) ≤ 1 + 3 * (n1 : Int) := by omega
  replace Rg0 := rd_own' (by exact Og0)
  go_wp2_with fail
  refine (eqF_any _ _ _ _ _ Yg0 Yw0 _ (by exact Rg0) (by exact Rw0.below (Blw.out (by exact HL))) mw0 (fun i hi => (Lg0 i hi).trans (Lw0 i hi).symm)).mono ?_
  rintro e0 w0 ⟨rfl, q, rfl⟩
  clear Rg0
  go_wp2_with fail
  refine (markF_any _ _ m0 Yg0 _ _ (by exact Og0) mg0 (by omega) (by omega)).mono ?_
  rintro e0 w0 ⟨rfl, Ok0, B0⟩
  replace HL := Blw.nextB (by exact HL) (B0.mono Eg)
  clear B0 Og0
  have hm1 : (0 : Int) ≤ 1 + (m0 : Int) := by omega
  go_wp2_with fail
  refine (heldF_any _ _ m0 _ _ (by exact Ok0) mg0 (by omega) (by omega)).mono ?_
  rintro e0 w0 ⟨rfl, rfl⟩
  go_wp2_with fail
  refine (toE_any _ _ _ X1 _ (by exact Z1.below (Blw.out (by exact HL))) h1).mono ?_
  rintro e0 w0 ⟨rfl, O0, B0⟩
  replace Ok0 := own_below (by exact Ok0) B0
  replace HL := Blw.next (by exact HL) B0
  have C1 := O0
  clear O0 B0
  go_wp2_with fail
  refine (HI.out _ _ _ (rdE_own (by exact C1))).mono ?_
  rintro e0 w3 ⟨vh0, Yh0, rfl, Oh0, Lh0, mh0, B0⟩
  replace Ok0 := own_below (by exact Ok0) B0
  clear C1
  replace HL := Blw.next (by exact HL) B0
  clear B0
  obtain ⟨xh0, ch0, rfl, _, _, Rh0⟩ := rd_of_own Oh0
  clear Oh0
  go_wp2_with fail
  refine (eqF_any _ _ _ _ _ Yh0 Yw0 _ (by exact Rh0) (by exact Rw0.below (Blw.out (by exact HL))) mw0 (fun i hi => (Lh0 i hi).trans (Lw0 i hi).symm)).mono ?_
  rintro e0 w0 ⟨rfl, q, rfl⟩
  clear Rh0
  go_wp2_with fail
  refine (heldF_any _ _ m0 _ _ (by exact Ok0) mg0 (by omega) (by omega)).mono ?_
  rintro e0 w0 ⟨rfl, rfl⟩
  go_wp2
  go_ret
  exact ⟨rfl, (Blw.out (by exact HB)).trans ((Blw.out (by exact HL)).mono (Blw.out (by exact HB)).size)⟩
set_option maxRecDepth 100000 in
set_option maxHeartbeats 1600000 in
theorem lawEdgeLevels_any (W : World) (a0 : Int) (_wf0 : (Lit.int .i64 a0).wf = true) (x1 : Option Addr) (n1 c1 : Nat) (X1 : Nat → Ed) (hX1 : RdE W x1 n1 X1) (_hm1 : n1 ≤ maxLen) :
    Calls Try.prog 7 #[.int .i64 a0, .slice x1 n1 c1] W fun e w' => e = .returned (.bool true) ∧ Below W.heap.size W w' := by
  by_cases h1 : n1 ≤ 1048576
  · skip
    obtain ⟨R0, m0, r1, hs, hi⟩ := bothEdgeLevels a0 _wf0 n1 X1 h1
    exact lawEdgeLevels_in W a0 _wf0 x1 n1 c1 X1 hX1 _hm1 h1 R0 m0 r1 (Lib.hid hs) (Lib.hid hi)
  · have h' : (1048576 : Int) - (n1 : Int) < 0 := by omega
    unfold maxLen at _hm1
    go_enter Try.func7, Try.ntmps7
    go_wp2_with (go_at_call 26; go_in)
    go_ret
    exact ⟨rfl, (Blw.refl W).out⟩
end Go.Proofs.Ytogmcinaoemnpab
