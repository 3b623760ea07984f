
/- Of any number of levels and edges the program tells the same worst ring as the model does; the edges are not changed: for all arguments. -/
import Derived.Test.YtogmcinaoemnpabWrs
import Derived.Test.YtogmcinaoemnpabElk
import Derived.Test.YtogmcinaoemnpabLiC
import Derived.Test.YtogmcinaoemnpabLaw
namespace Go.Proofs.Ytogmcinaoemnpab
set_option linter.all false
open Go Go.ChangeShapes Go.WideShapes Go.ChangeAt Go.RowKit

/-- What is told of WorstRing. -/
def RetWorstRing (r0 : Nat) (r1 : Bool) (w : World) (e : Ending) (w' : World) : Prop := ∃ (s0 : Nat), e = .returned (.tuple #[.float .f32 (pick .f32 r0 s0), .bool r1]) ∧ Below w.heap.size w w'
set_option maxRecDepth 100000 in
set_option maxHeartbeats 1600000 in
theorem specElNo (L : Int) (hw : (Lit.int .i64 L).wf = true) (xa : Option Addr) (n cap : Nat) (X : Nat → Ed) (w : World) (hX : RdE w xa n X) (hn : n ≤ 1048576) (hk : okEds L X n = false) :
    Calls Try.prog 27 #[.int .i64 L, .slice xa n cap] w (OutRet (fun _ => 0) 0 false w) := by
  have HA := Lib.hid (specEds_any L hw xa n cap X w hX hn false (Lib.hid hk.symm))
  clear hk
  go_enter Try.func27, Try.ntmps27
  go_wp2_with (go_at_call 55; refine HA.out.mono ?_; rintro e w1 ⟨rfl, q, rfl⟩)
  go_ret2
  exact OutRet.no (Below.drewN (Below.refl _ _) _)
set_option maxRecDepth 100000 in
set_option maxHeartbeats 1600000 in
theorem implElNo (L : Int) (hw : (Lit.int .i64 L).wf = true) (xa : Option Addr) (n cap : Nat) (X : Nat → Ed) (w : World) (hX : RdE w xa n X) (hn : n ≤ 1048576) (hk : okEds L X n = false) :
    Calls Try.prog 29 #[.int .i64 L, .slice xa n cap] w (OutRet (fun _ => 0) 0 false w) := by
  have HA := Lib.hid (implAE_any L hw xa n cap X w hX hn false (Lib.hid hk.symm))
  clear hk
  go_enter Try.func29, Try.ntmps29
  go_wp2_with (go_at_call 58; refine HA.out.mono ?_; rintro e w1 ⟨rfl, B1⟩)
  go_ret2
  exact OutRet.no B1
set_option maxRecDepth 100000 in
set_option maxHeartbeats 1600000 in
theorem specWr_no (L : Int) (hw : (Lit.int .i64 L).wf = true) (xa : Option Addr) (n cap : Nat) (X : Nat → Ed) (w : World) (hX : RdE w xa n X) (hn : n ≤ 1048576) (hk : okEds L X n = false) :
    Calls Try.prog 33 #[.int .i64 L, .slice xa n cap] w (RetWorstRing 0 false w) := by
  have HEL := Lib.hid (specElNo L hw xa n cap X w hX hn hk)
  clear hk
  go_enter Try.func33, Try.ntmps33
  go_wp2_with (go_at_call 27; refine HEL.out.mono ?_; rintro e w1 ⟨v, Z, rfl, hown, hLk, hB1⟩)
  go_ret2
  exact ⟨0, by rw [pick_nul]; rfl, hB1⟩
set_option maxRecDepth 100000 in
set_option maxHeartbeats 1600000 in
theorem specWr_bad (L : Nat) (xa : Option Addr) (n cap : Nat) (X : Nat → Ed) (w : World) (hX : RdE w xa n X) (hk : okEds (L : Int) X n = true) (hok : (elAll X n (L - 1) && finL (elSt X n (L - 1)).2 L) = false) :
    Calls Try.prog 33 #[.int .i64 (L : Int), .slice xa n cap] w (RetWorstRing 0 false w) := by
  have HEL := Lib.hid (specEl_yes L xa n cap X w hX hk false 0 (Lib.hid hok.symm) (Lib.hid rfl))
  clear hk hok
  go_enter Try.func33, Try.ntmps33
  go_wp2_with (go_at_call 27; refine HEL.out.mono ?_; rintro e w1 ⟨v, Z, rfl, hown, hLk, hB1⟩)
  go_ret2
  exact ⟨0, by rw [pick_nul]; rfl, hB1⟩
set_option maxRecDepth 100000 in
set_option maxHeartbeats 1600000 in
theorem implWr_no (L : Int) (hw : (Lit.int .i64 L).wf = true) (xa : Option Addr) (n cap : Nat) (X : Nat → Ed) (w : World) (hX : RdE w xa n X) (hn : n ≤ 1048576) (hk : okEds L X n = false) :
    Calls Try.prog 34 #[.int .i64 L, .slice xa n cap] w (RetWorstRing 0 false w) := by
  have HEL := Lib.hid (implElNo L hw xa n cap X w hX hn hk)
  clear hk
  go_enter Try.func34, Try.ntmps34
  go_wp2_with (go_at_call 29; refine HEL.out.mono ?_; rintro e w1 ⟨v, Z, rfl, hown, hLk, hB1⟩)
  go_ret2
  exact ⟨0, by rw [pick_nul]; rfl, hB1⟩
set_option maxRecDepth 100000 in
set_option maxHeartbeats 1600000 in
theorem implWr_bad (L : Nat) (xa : Option Addr) (n cap : Nat) (X : Nat → Ed) (w : World) (hX : RdE w xa n X) (hk : okEds (L : Int) X n = true) (hok : (elAll X n (L - 1) && finL (elSt X n (L - 1)).2 L) = false) :
    Calls Try.prog 34 #[.int .i64 (L : Int), .slice xa n cap] w (RetWorstRing 0 false w) := by
  have HEL := Lib.hid (implEl_yes L xa n cap X w hX hk false 0 (Lib.hid hok.symm) (Lib.hid rfl))
  clear hk hok
  go_enter Try.func34, Try.ntmps34
  go_wp2_with (go_at_call 29; refine HEL.out.mono ?_; rintro e w1 ⟨v, Z, rfl, hown, hLk, hB1⟩)
  go_ret2
  exact ⟨0, by rw [pick_nul]; rfl, hB1⟩
theorem okEds_fin {L : Nat} {X : Nat → Ed} {n : Nat} (h : okEds (L : Int) X n = true) : ∀ i, i < n → isFin .f32 (X i).p = true := by
  unfold okEds at h
  simp only [Bool.and_eq_true, decide_eq_true_eq, List.all_eq_true, List.mem_range] at h
  obtain ⟨⟨h1, h2⟩, h3⟩ := h
  intro i hi
  have h5 := h3 i hi
  unfold okEd at h5
  simp only [Bool.and_eq_true] at h5
  exact h5.2.2
theorem bothWorstRing (L : Int) (hw : (Lit.int .i64 L).wf = true) (n : Nat) (X : Nat → Ed) (hn : n ≤ 1048576) :
    ∃ (r : Nat) (ok : Bool), (∀ (xa : Addr) (cx : Nat) (w : World), RdE w (some xa) n X → Calls Try.prog 33 #[.int .i64 L, .slice (some xa) n cx] w (RetWorstRing r ok w)) ∧
      ∀ (xa : Addr) (cx : Nat) (w : World), RdE w (some xa) n X → Calls Try.prog 34 #[.int .i64 L, .slice (some xa) n cx] w (RetWorstRing r ok w) := by
  cases hk : okEds L X n
  · exact ⟨0, false, fun xa cx w hX => specWr_no L hw _ n cx X w hX hn hk, fun xa cx w hX => implWr_no L hw _ n cx X w hX hn hk⟩
  · have h1 : inB L 1 12 = true := by
      unfold okEds at hk
      simp only [Bool.and_eq_true] at hk
      exact hk.1.1
    have h2 := inB_rng h1
    obtain ⟨l, rfl⟩ : ∃ l : Nat, L = l := ⟨L.toNat, by omega⟩
    cases hok : (elAll X n (l - 1) && finL (elSt X n (l - 1)).2 l)
    · exact ⟨0, false, fun xa cx w hX => specWr_bad l _ n cx X w hX hk hok, fun xa cx w hX => implWr_bad l _ n cx X w hX hk hok⟩
    · exact ⟨_, _, fun xa cx w hX => (specWr_yes l _ n cx X w hX hk (okEds_fin hk) hok).mono fun e w' ⟨⟨s, he⟩, hB⟩ => ⟨s, he, hB⟩, fun xa cx w hX => (implWr_yes l _ n cx X w hX hk (okEds_fin hk) hok).mono fun e w' ⟨⟨s, he⟩, hB⟩ => ⟨s, he, hB⟩⟩
set_option maxRecDepth 100000 in
set_option maxHeartbeats 6400000 in
theorem lawWorstRing_in (W : World) (a0 : Int) (_wf0 : (Lit.int .i64 a0).wf = true) (x1 : Option Addr) (n1 c1 : Nat) (X1 : Nat → Ed) (hX1 : RdE W x1 n1 X1) (_hm1 : n1 ≤ maxLen) (h1 : n1 ≤ 1048576) (r0 : Nat) (r1 : Bool) (HS : Hid (∀ (x1 : Addr) (c1 : Nat) (w : World), RdE w (some x1) n1 X1 → Calls Try.prog 33 #[.int .i64 a0, .slice (some x1) n1 c1] w (RetWorstRing r0 r1 w))) (HI : Hid (∀ (x1 : Addr) (c1 : Nat) (w : World), RdE w (some x1) n1 X1 → Calls Try.prog 34 #[.int .i64 a0, .slice (some x1) n1 c1] w (RetWorstRing r0 r1 w))) :
    Calls Try.prog 8 #[.int .i64 a0, .slice x1 n1 c1] W fun e w' => e = .returned (.bool true) ∧ Below W.heap.size W w' := by
  have hcv := fun (R : Nat) (s t : Nat) => show canon .f64 (pick .f64 (fconv .f32 (pick .f32 R s) .f64) t) = canon .f64 (fconv .f32 R .f64) by rw [canon_pick, fconv_pick]
  have hcw := fun (R : Nat) (s t : Nat) => show canon .f64 (pick .f64 R s) = canon .f64 (pick .f64 R t) by rw [canon_pick, canon_pick]
  have HCV := Lib.hid hcv
  have HCW := Lib.hid hcw
  clear hcv hcw
  have hnb1 : (r1 != r1) = false := by simp
  have HB := Blw.refl W
  have hz1 : (0 : Int) ≤ 1048576 - (n1 : Int) := by omega
  go_enter Try.func8, Try.ntmps8
  go_wp2_with (go_at_call 26; go_in)
  refine (toE_any _ _ _ X1 _ (by exact hX1.below (Blw.out (by exact HB))) h1).mono ?_
  rintro e0 w0 ⟨rfl, O0, B0⟩
  replace HB := Blw.next (by exact HB) B0
  have C1 := O0
  clear O0 B0
  go_wp2_with fail
  refine (HS.out _ _ _ (rdE_own (by exact C1))).mono ?_
  rintro e0 w1 ⟨sw0, rfl, B0⟩
  clear C1
  replace HB := Blw.next (by exact HB) B0
  clear B0
  have Z1 := hX1.below HB.out
  have HL := Blw.refl w1
  have E1 := (Blw.out (by exact HL)).size
  go_wp2_with fail
  refine (toE_any _ _ _ X1 _ (by exact Z1.below (Blw.out (by exact HL))) h1).mono ?_
  rintro e0 w0 ⟨rfl, O0, B0⟩
  replace HL := Blw.next (by exact HL) B0
  have D1 := O0
  clear O0 B0
  have Qg1 := ownS_lt (by exact D1)
  have Eg := (Blw.out (by exact HL)).size
  go_wp2_with fail
  refine (HI.out _ _ _ (rdE_own (by exact D1))).mono ?_
  rintro e0 w2 ⟨sg0, rfl, B0⟩
  replace D1 := ownS_below (by exact D1) B0
  replace HL := Blw.next (by exact HL) B0
  clear B0
  go_wp2_with (first | ((with_reducible refine wpL_fconv ?_); refine ⟨_, _, _, rfl, Option.isSome_iff_exists.2 ⟨_, Try.underlying36⟩, Try.underlying54, FloatKind.noConfusion, convOk_widen _, fun s n => ?_⟩) | ((with_reducible refine wpL_fconv_g ?_); refine ⟨rfl, _, _, _, rfl, Option.isSome_iff_exists.2 ⟨_, Try.underlying36⟩, Try.underlying54, FloatKind.noConfusion, convOk_widen _, fun s n => ?_⟩))
  refine (sameFloat_any _ _ _ ((HCV.out _ _ _).trans (HCV.out _ _ _).symm)).mono ?_
  rintro e0 w0 ⟨rfl, q, rfl⟩
  go_wp2_with fail
  refine (toE_any _ _ _ X1 _ (by exact Z1.below (Blw.out (by exact HL))) h1).mono ?_
  rintro e0 w0 ⟨rfl, O0, B0⟩
  replace D1 := ownS_below (by exact D1) B0
  replace HL := Blw.next (by exact HL) B0
  have K1 := O0
  clear O0 B0
  go_wp2_with fail
  refine (eqE_any _ _ _ _ _ X1 _ (by exact rdE_own (by exact D1)) (by exact rdE_own (by exact K1)) h1).mono ?_
  rintro e0 w0 ⟨rfl, B0⟩
  replace D1 := ownS_below (by exact D1) B0
  replace HL := Blw.next (by exact HL) B0
  clear B0
  clear K1
  go_wp2
  go_ret
  exact ⟨rfl, (Blw.out (by exact HB)).trans ((Blw.out (by exact HL)).mono (Blw.out (by exact HB)).size)⟩
set_option maxRecDepth 100000 in
set_option maxHeartbeats 1600000 in
theorem lawWorstRing_any (W : World) (a0 : Int) (_wf0 : (Lit.int .i64 a0).wf = true) (x1 : Option Addr) (n1 c1 : Nat) (X1 : Nat → Ed) (hX1 : RdE W x1 n1 X1) (_hm1 : n1 ≤ maxLen) :
    Calls Try.prog 8 #[.int .i64 a0, .slice x1 n1 c1] W fun e w' => e = .returned (.bool true) ∧ Below W.heap.size W w' := by
  by_cases h1 : n1 ≤ 1048576
  · skip
    obtain ⟨r0, r1, hs, hi⟩ := bothWorstRing a0 _wf0 n1 X1 h1
    exact lawWorstRing_in W a0 _wf0 x1 n1 c1 X1 hX1 _hm1 h1 r0 r1 (Lib.hid hs) (Lib.hid hi)
  · have h' : (1048576 : Int) - (n1 : Int) < 0 := by omega
    unfold maxLen at _hm1
    go_enter Try.func8, Try.ntmps8
    go_wp2_with (go_at_call 26; go_in)
    go_ret
    exact ⟨rfl, (Blw.refl W).out⟩
end Go.Proofs.Ytogmcinaoemnpab
