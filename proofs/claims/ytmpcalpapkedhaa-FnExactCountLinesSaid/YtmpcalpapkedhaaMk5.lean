
import Derived.Test.YtmpcalpapkedhaaMk4
import Derived.Test.YtmpcalpapkedhaaMk2
import Derived.Test.YtmpcalpapkedhaaRl
namespace Go.Proofs.Ytmpcalpapkedhaa
open Go Go.ChangeShapes Go.WideShapes Go.ChangeAt Go.RowKit
/- The list of lines that tells a list best: what it comes to. -/
set_option linter.all false

noncomputable def criD (r : Nat) (a b : Int) : Nat := fbin .add .f32 (fbin .mul .f32 (floatOfInt .f32 a) (logT (fbin .quo .f32 r (floatOfInt .f32 a)))) (fbin .mul .f32 (floatOfInt .f32 b) (logT (floatOfInt .f32 a)))
noncomputable def criC (r : Nat) (a b : Int) : Nat := if okCri r a b = true then numQ (criD r a b) else 0
noncomputable def criP (r : Nat) (a b : Int) : Bool := okCri r a b && isFin .f32 (criD r a b)
theorem numQ_pick (D s : Nat) : pick .f32 (numQ D) s = numQ D := by
  unfold numQ
  split
  · rename_i h; exact pick_num (num_fin h) s
  · exact pick_nul s
theorem criC_pick (r : Nat) (a b : Int) (s : Nat) : pick .f32 (criC r a b) s = criC r a b := by
  unfold criC
  split
  · exact numQ_pick _ _
  · exact pick_nul s
/-- What is told of a criterion, exactly. -/
def RetCr (C : Nat) (P : Bool) (w : World) (e : Ending) (w' : World) : Prop := e = .returned (.tuple #[.float .f32 C, .bool P]) ∧ Below w.heap.size w w'
theorem NRet.cr {r : Nat} {a b : Int} {R : Nat} {ok : Bool} {w w' : World} {e : Ending} (hR : criC r a b = R) (hok : criP r a b = ok) (h : NRet R ok w e w') : RetCr (criC r a b) (criP r a b) w e w' := by
  obtain ⟨s, rfl, hb⟩ := h
  refine ⟨?_, hb⟩
  rw [hok, ← hR, criC_pick]
theorem specCr_any (r : Nat) (a b : Int) (w : World) : Calls Try.prog 141 #[.float .f32 r, .int .i64 a, .int .i64 b] w (RetCr (criC r a b) (criP r a b) w) := by
  cases hk : okCri r a b
  · exact (specCri_no r a b w hk).mono fun e w' h => h.cr (by unfold criC; rw [hk]; rfl) (by unfold criP; rw [hk]; rfl)
  · exact (specCri_yes r a b w hk _ _ _ _ _ _ (Lib.hid rfl) (Lib.hid rfl) (Lib.hid rfl) (Lib.hid rfl) (Lib.hid rfl) (Lib.hid rfl)).mono fun e w' h => h.cr (by unfold criC; rw [hk]; rfl) (by unfold criP; rw [hk]; rfl)
theorem implCr_any (r : Nat) (a b : Int) (w : World) : Calls Try.prog 143 #[.float .f32 r, .int .i64 a, .int .i64 b] w (RetCr (criC r a b) (criP r a b) w) := by
  cases hk : okCri r a b
  · exact (implCri_no r a b w hk).mono fun e w' h => h.cr (by unfold criC; rw [hk]; rfl) (by unfold criP; rw [hk]; rfl)
  · exact (implCri_yes r a b w hk _ _ _ _ _ _ (Lib.hid rfl) (Lib.hid rfl) (Lib.hid rfl) (Lib.hid rfl) (Lib.hid rfl) (Lib.hid rfl)).mono fun e w' h => h.cr (by unfold criC; rw [hk]; rfl) (by unfold criP; rw [hk]; rfl)
/-- What names stand for: what each list of lines leaves, whether it does, this and a little, its criterion, and whether there is one. -/
structure Cl (N : Nat → Nat) (X : Nat → Nat → Ln) (M : Nat) (Y : Nat → Nat) (a b : Nat) (R : Nat → Nat) (O : Nat → Bool) (E C : Nat → Nat) (P : Nat → Bool) : Prop where
  hR : ∀ i, R i = rsV (X i) (N i) Y M a b
  hO : ∀ i, O i = rsB (X i) (N i) Y M a b
  hE : ∀ i, E i = fbin .add .f32 (R i) 897988541
  hC : ∀ i, C i = criC (E i) (M : Int) (3 * (N i : Int))
  hP : ∀ i, P i = criP (E i) (M : Int) (3 * (N i : Int))
theorem cl_all (N : Nat → Nat) (X : Nat → Nat → Ln) (M : Nat) (Y : Nat → Nat) (a b : Nat) : ∃ R O E C P, Cl N X M Y a b R O E C P := ⟨_, _, _, _, _, ⟨fun _ => rfl, fun _ => rfl, fun _ => rfl, fun _ => rfl, fun _ => rfl⟩⟩
section
variable {N : Nat → Nat} {X : Nat → Nat → Ln} {M : Nat} {Y : Nat → Nat} {a b : Nat} {R : Nat → Nat} {O : Nat → Bool} {E C : Nat → Nat} {P : Nat → Bool}
theorem Cl.list (h : Cl N X M Y a b R O E C P) {i : Nat} (hi : O i = true) : okLst Y M = true ∧ N i ≤ 12 := by
  rw [h.hO] at hi
  unfold rsB rsK fitOk at hi
  simp only [Bool.and_eq_true, decide_eq_true_eq] at hi
  exact ⟨hi.1.1.1.1.2, hi.1.1.1.1.1.2⟩
theorem Cl.num (h : Cl N X M Y a b R O E C P) (i s : Nat) : pick .f32 (E i) s = E i := by
  refine pick_num ?_ s
  rw [h.hE, h.hR]
  refine nan_add ?_ (by decide +kernel)
  unfold rsV numQ
  split
  · split
    · rename_i h; exact num_fin h
    · decide +kernel
  · decide +kernel
end
def allK (O P : Nat → Bool) (k : Nat) : Bool := (List.range k).all fun i => O i && P i
theorem allK_no {O P : Nat → Bool} {k K : Nat} (hk : k < K) (h : (O k && P k) = false) : allK O P K = false := by
  unfold allK
  rw [List.all_eq_false]
  exact ⟨k, List.mem_range.2 hk, by simp [h]⟩
theorem allK_yes {O P : Nat → Bool} {K : Nat} (h : ∀ k, k < K → (O k && P k) = true) : allK O P K = true := by
  unfold allK
  rw [List.all_eq_true]
  exact fun k hk => h k (List.mem_range.1 hk)
def clOk (K : Nat) (O P : Nat → Bool) : Bool := decide (1 ≤ K) && (decide (K ≤ 8) && allK O P K)
/-- The best list so far, and its criterion. -/
def clS (C : Nat → Nat) : Nat → Nat × Nat
  | 0 => (0, 0)
  | k + 1 => if (k == 0 || (FloatKind.f32.format.order (C k) (clS C k).2 == some .lt)) = true then (k, C k) else clS C k
/-- What is told of them. -/
def RetCL (r : Nat) (x : Nat) (ok : Bool) (w : World) (e : Ending) (w' : World) : Prop := e = .returned (.tuple #[.int .i64 (r : Int), .float .f32 x, .bool ok]) ∧ Below w.heap.size w w'

/- The list of lines that tells a list best: as the model chooses it. -/
set_option linter.all false

theorem clS_take {C : Nat → Nat} {k : Nat} (h : (k == 0 || (FloatKind.f32.format.order (C k) (clS C k).2 == some .lt)) = true) : clS C (k + 1) = (k, C k) := by rw [clS, if_pos h]
theorem clS_leave {C : Nat → Nat} {k : Nat} (h : (k == 0 || (FloatKind.f32.format.order (C k) (clS C k).2 == some .lt)) = false) : clS C (k + 1) = clS C k := by rw [clS, if_neg (by rw [h]; simp)]
set_option maxRecDepth 100000 in
set_option maxHeartbeats 6400000 in
theorem specCL_any (xa ya : Option Addr) (K cx M cy : Nat) (N : Nat → Nat) (X : Nat → Nat → Ln) (Y : Nat → Nat) (a b : Nat) (w : World) (hX : RdL w xa K N X) (hY : Rd w ya M Y) (hN : ∀ i, i < K → N i ≤ 1048576) (hM : M ≤ 1048576) (hKm : K ≤ 1048576)
    (R : Nat → Nat) (O : Nat → Bool) (E C : Nat → Nat) (P : Nat → Bool) (hc : Cl N X M Y a b R O E C P) (ok : Bool) (hok : Hid (ok = clOk K O P)) (r x : Nat) (hr : Hid (r = if ok = true then (clS C K).1 else 0)) (hx : Hid (x = if ok = true then (clS C K).2 else 0)) :
    Calls Try.prog 64 #[.slice xa K cx, .slice ya M cy, .float .f32 a, .float .f32 b] w (RetCL r x ok w) := by
  have HNO := Lib.hid (show ok = false → (.returned (.tuple #[.int .i64 0, .float .f32 0, .bool false]) : Ending) = .returned (.tuple #[.int .i64 (r : Int), .float .f32 x, .bool ok]) from fun h => by
    rw [hr.out, hx.out, h]; rfl)
  by_cases h1 : 1 ≤ K
  case neg =>
    have HN := Lib.hid (HNO.out (by rw [hok.out, clOk, decide_eq_false h1]; rfl))
    have h1' : (K : Int) < 1 := by omega
    clear HNO hok hr hx hc
    go_enter Try.func64, Try.ntmps64
    go_wp2
    go_ret3
    exact ⟨HN.out, Below.refl _ _⟩
  by_cases h8 : K ≤ 8
  case neg =>
    have HN := Lib.hid (HNO.out (by rw [hok.out, clOk, decide_eq_false h8]; simp))
    have h1' : ¬ (K : Int) < 1 := by omega
    have h8' : (K : Int) > 8 := by omega
    clear HNO hok hr hx hc
    go_enter Try.func64, Try.ntmps64
    go_wp2
    go_ret3
    exact ⟨HN.out, Below.refl _ _⟩
  have h1' : ¬ (K : Int) < 1 := by omega
  have h8' : ¬ (K : Int) > 8 := by omega
  have HL := Lib.hid (fun w hY => specLst_any ya M cy Y w hY hM _ (Lib.hid rfl))
  cases hl : okLst Y M
  · have HN := Lib.hid (HNO.out (by
      rw [hok.out, clOk, allK_no (k := 0) (by omega) (by
        cases ho : O 0
        · rfl
        · have := (hc.list ho).1
          rw [hl] at this; cases this)]
      simp))
    rw [hl] at HL
    clear HNO hok hr hx hc
    go_enter Try.func64, Try.ntmps64
    go_wp2_with (go_at_call 139; refine (HL.out _ (by exact hY)).mono ?_; rintro e w' ⟨rfl, q, rfl⟩)
    go_ret3
    exact ⟨HN.out, Below.drewN (Below.refl _ _) _⟩
  rw [hl] at HL
  obtain ⟨xb, xo, hxa, hcx⟩ := hX
  have HX := Lib.hid hcx
  have HC := Lib.hid hc
  have HNm := Lib.hid hN
  have HY := Lib.hid hY
  have HK8 := Lib.hid (And.intro h1 h8)
  clear hcx hc hN
  go_enter Try.func64, Try.ntmps64
  go_wp2_with (go_at_call 139; refine (HL.out _ (by exact hY)).mono ?_; rintro e w' ⟨rfl, q, rfl⟩)
  clear HL hY h1' h8' h1 h8
  go_loopw [11, 12, 33] (fun bb ll i wr => ∃ k : Nat, k ≤ K ∧ i = .int .i64 (k : Int) ∧ bb = .int .i64 ((clS C k).1 : Int) ∧ ll = .float .f32 (clS C k).2 ∧ Hid (∀ j, j < k → (O j && P j) = true) ∧ Below w.heap.size w wr) (fun _ _ i _ => K - (intOf i).toNat)
  case atStart => exact ⟨0, Nat.zero_le _, rfl, rfl, rfl, Lib.hid fun j hj => absurd hj (Nat.not_lt_zero _), Below.drewN (Below.refl _ _) _⟩
  case round =>
    obtain ⟨k, hk, rfl, rfl, rfl, HF, hBk⟩ := hrel
    by_cases hlt : k < K
    · have e := hxa (by omega)
      subst e
      obtain ⟨ra, rc, hr1, _, rr⟩ := HX.out k hlt
      have c1 := (hBk.cell (p := ⟨xb, xo + k, none⟩) (World.block_lt_of_cell? w _ hr1)).trans hr1
      have HRest := Lib.hid (specRestOf_any ra ya (N k) rc M cy (X k) Y a b wr (rr.below hBk) (HY.out.below hBk) (HNm.out k hlt) hM (R k) (O k) (Lib.hid (HC.out.hR k)) (Lib.hid (HC.out.hO k)))
      have hkK : (k : Int) < (K : Int) := by omega
      clear rr hr1
      cases ho : O k
      · have HN := Lib.hid (HNO.out (by rw [hok.out, clOk, allK_no hlt (by rw [ho]; rfl)]; simp))
        rw [ho] at HRest
        go_wp2_with (go_at_call 140; refine HRest.out.mono ?_; rintro e w' ⟨rfl, B1⟩)
        go_ret3
        exact ⟨HN.out, hBk.trans (B1.mono hBk.size)⟩
      · rw [ho] at HRest
        have h12 := (HC.out.list ho).2
        have hw3 : IntKind.i64.wrap (3 * (N k : Int)) = 3 * (N k : Int) := by rw [IntKind.wrap_i64]; omega
        have hE1 := (HC.out.hE k).symm
        have hpk := HC.out.num k
        have HCr := Lib.hid (fun w => specCr_any (E k) (M : Int) (3 * (N k : Int)) w)
        rw [← HC.out.hC k, ← HC.out.hP k] at HCr
        go_wp2_with fail
        refine HRest.out.mono ?_
        rintro e w1 ⟨rfl, B1⟩
        have c2 := (B1.cell (p := ⟨xb, xo + k, none⟩) (World.block_lt_of_cell? wr _ c1)).trans c1
        have hB1 := hBk.trans (B1.mono hBk.size)
        clear B1 hBk c1 HRest
        cases hp : P k
        · have HN := Lib.hid (HNO.out (by rw [hok.out, clOk, allK_no hlt (by rw [ho, hp]; rfl)]; simp))
          rw [hp] at HCr
          go_wp2_with (first | ((with_reducible refine wpL_fbin ?_); refine ⟨_, _, _, rfl, rfl, rfl, fun s n => ?_⟩) | (go_at_call 141; refine (HCr.out _).mono ?_; rintro e w' ⟨rfl, B2⟩))
          go_ret3
          exact ⟨HN.out, (Below.drewN hB1 _).trans (B2.mono hB1.size)⟩
        · rw [hp] at HCr
          have HF' := Lib.hid (show ∀ j, j < k + 1 → (O j && P j) = true from fun j hj => by
            by_cases hj' : j < k
            · exact HF.out j hj'
            · rw [show j = k by omega, ho, hp]; rfl)
          go_wp2_with (first | ((with_reducible refine wpL_fbin ?_); refine ⟨_, _, _, rfl, rfl, rfl, fun s n => ?_⟩))
          refine (HCr.out _).mono ?_
          rintro e w2 ⟨rfl, B2⟩
          have hB2 := (Below.drewN hB1 _).trans (B2.mono hB1.size)
          clear B2 hB1 hpk hE1 hw3
          by_cases h0 : k = 0
          · subst h0
            have hs : clS C 1 = (0, C 0) := clS_take (by rfl)
            go_wp2
            go_roundw
            case rel => exact ⟨1, by omega, by go_num, by rw [hs]; rfl, by rw [hs], HF', hB2⟩
            case measure => simp [intOf]; omega
          · have h0' : ¬ (k : Int) = 0 := by omega
            obtain ⟨L, hL⟩ : ∃ L, (clS C k).2 = L := ⟨_, rfl⟩
            obtain ⟨B, hB⟩ : ∃ B, (clS C k).1 = B := ⟨_, rfl⟩
            cases ht : (FloatKind.f32.format.order (C k) (clS C k).2 == some .lt)
            · have hs : clS C (k + 1) = clS C k := clS_leave (by rw [ht]; simp [h0])
              rw [hL] at ht ⊢
              rw [hB] at ⊢
              have HS := Lib.hid (show clS C (k + 1) = (B, L) by rw [hs, ← hL, ← hB])
              clear hs hL hB
              go_wp2
              go_roundw
              case rel => exact ⟨k + 1, by omega, by go_num, by rw [HS.out], by rw [HS.out], HF', hB2⟩
              case measure => simp [intOf]; omega
            · have hs : clS C (k + 1) = (k, C k) := clS_take (by rw [ht]; simp)
              rw [hL] at ht ⊢
              rw [hB] at ⊢
              have HS := Lib.hid hs
              clear hs hL hB
              go_wp2
              go_roundw
              case rel => exact ⟨k + 1, by omega, by go_num, by rw [HS.out], by rw [HS.out], HF', hB2⟩
              case measure => simp [intOf]; omega
    · have hkn : k = K := by omega
      subst hkn
      have hokT : ok = true := by rw [hok.out, clOk, allK_yes HF.out, decide_eq_true HK8.out.1, decide_eq_true HK8.out.2]; rfl
      have HR1 := Lib.hid (show (.returned (.tuple #[.int .i64 ((clS C k).1 : Int), .float .f32 (clS C k).2, .bool true]) : Ending) = .returned (.tuple #[.int .i64 (r : Int), .float .f32 x, .bool ok]) by
        rw [hr.out, hx.out, hokT]; rfl)
      clear hokT
      obtain ⟨L, hL⟩ : ∃ L, (clS C k).2 = L := ⟨_, rfl⟩
      obtain ⟨B, hB⟩ : ∃ B, (clS C k).1 = B := ⟨_, rfl⟩
      rw [hL, hB] at HR1 ⊢
      clear hL hB
      go_wp2
      go_ret3
      exact ⟨HR1.out, hBk⟩

/- The list of lines that tells a list best: as the program chooses it. -/
set_option linter.all false

set_option maxRecDepth 100000 in
set_option maxHeartbeats 6400000 in
theorem implCL_any (xa ya : Option Addr) (K cx M cy : Nat) (N : Nat → Nat) (X : Nat → Nat → Ln) (Y : Nat → Nat) (a b : Nat) (w : World) (hX : RdL w xa K N X) (hY : Rd w ya M Y) (hN : ∀ i, i < K → N i ≤ 1048576) (hM : M ≤ 1048576) (hKm : K ≤ 1048576)
    (R : Nat → Nat) (O : Nat → Bool) (E C : Nat → Nat) (P : Nat → Bool) (hc : Cl N X M Y a b R O E C P) (ok : Bool) (hok : Hid (ok = clOk K O P)) (r x : Nat) (hr : Hid (r = if ok = true then (clS C K).1 else 0)) (hx : Hid (x = if ok = true then (clS C K).2 else 0)) :
    Calls Try.prog 66 #[.slice xa K cx, .slice ya M cy, .float .f32 a, .float .f32 b] w (RetCL r x ok w) := by
  have HNO := Lib.hid (show ok = false → (.returned (.tuple #[.int .i64 0, .float .f32 0, .bool false]) : Ending) = .returned (.tuple #[.int .i64 (r : Int), .float .f32 x, .bool ok]) from fun h => by
    rw [hr.out, hx.out, h]; rfl)
  by_cases h1 : 1 ≤ K
  case neg =>
    have HN := Lib.hid (HNO.out (by rw [hok.out, clOk, decide_eq_false h1]; rfl))
    have h1' : (K : Int) < 1 := by omega
    clear HNO hok hr hx hc
    go_enter Try.func66, Try.ntmps66
    go_wp2
    go_ret3
    exact ⟨HN.out, Below.refl _ _⟩
  by_cases h8 : K ≤ 8
  case neg =>
    have HN := Lib.hid (HNO.out (by rw [hok.out, clOk, decide_eq_false h8]; simp))
    have h1' : ¬ (K : Int) < 1 := by omega
    have h8' : (K : Int) > 8 := by omega
    clear HNO hok hr hx hc
    go_enter Try.func66, Try.ntmps66
    go_wp2
    go_ret3
    exact ⟨HN.out, Below.refl _ _⟩
  have h1' : ¬ (K : Int) < 1 := by omega
  have h8' : ¬ (K : Int) > 8 := by omega
  obtain ⟨xb, xo, hxa, hcx⟩ := hX
  have HX := Lib.hid hcx
  have HC := Lib.hid hc
  have HNm := Lib.hid hN
  have HY := Lib.hid hY
  have HK8 := Lib.hid (And.intro h1 h8)
  clear hcx hc hN
  go_enter Try.func66, Try.ntmps66
  go_wp2
  clear hY h1' h8' h1 h8
  go_loopw [11, 12, 28] (fun bb ll i wr => ∃ k : Nat, k ≤ K ∧ i = .int .i64 (k : Int) ∧ bb = .int .i64 ((clS C k).1 : Int) ∧ ll = .float .f32 (clS C k).2 ∧ Hid (∀ j, j < k → (O j && P j) = true) ∧ Below w.heap.size w wr) (fun _ _ i _ => K - (intOf i).toNat)
  case atStart => exact ⟨0, Nat.zero_le _, rfl, rfl, rfl, Lib.hid fun j hj => absurd hj (Nat.not_lt_zero _), Below.refl _ _⟩
  case round =>
    obtain ⟨k, hk, rfl, rfl, rfl, HF, hBk⟩ := hrel
    by_cases hlt : k < K
    · have e := hxa (by omega)
      subst e
      obtain ⟨ra, rc, hr1, _, rr⟩ := HX.out k hlt
      have c1 := (hBk.cell (p := ⟨xb, xo + k, none⟩) (World.block_lt_of_cell? w _ hr1)).trans hr1
      have HRest := Lib.hid (implRestOf_any ra ya (N k) rc M cy (X k) Y a b wr (rr.below hBk) (HY.out.below hBk) (HNm.out k hlt) hM (R k) (O k) (Lib.hid (HC.out.hR k)) (Lib.hid (HC.out.hO k)))
      have hkK : (k : Int) < (K : Int) := by omega
      clear rr hr1
      cases ho : O k
      · have HN := Lib.hid (HNO.out (by rw [hok.out, clOk, allK_no hlt (by rw [ho]; rfl)]; simp))
        rw [ho] at HRest
        go_wp2_with (go_at_call 142; refine HRest.out.mono ?_; rintro e w' ⟨rfl, B1⟩)
        go_ret3
        exact ⟨HN.out, hBk.trans (B1.mono hBk.size)⟩
      · rw [ho] at HRest
        have h12 := (HC.out.list ho).2
        have hw3 : IntKind.i64.wrap (3 * (N k : Int)) = 3 * (N k : Int) := by rw [IntKind.wrap_i64]; omega
        have hE1 := (HC.out.hE k).symm
        have hpk := HC.out.num k
        have HCr := Lib.hid (fun w => implCr_any (E k) (M : Int) (3 * (N k : Int)) w)
        rw [← HC.out.hC k, ← HC.out.hP k] at HCr
        go_wp2_with fail
        refine HRest.out.mono ?_
        rintro e w1 ⟨rfl, B1⟩
        have c2 := (B1.cell (p := ⟨xb, xo + k, none⟩) (World.block_lt_of_cell? wr _ c1)).trans c1
        have hB1 := hBk.trans (B1.mono hBk.size)
        clear B1 hBk c1 HRest
        cases hp : P k
        · have HN := Lib.hid (HNO.out (by rw [hok.out, clOk, allK_no hlt (by rw [ho, hp]; rfl)]; simp))
          rw [hp] at HCr
          go_wp2_with (first | ((with_reducible refine wpL_fbin ?_); refine ⟨_, _, _, rfl, rfl, rfl, fun s n => ?_⟩) | (go_at_call 143; refine (HCr.out _).mono ?_; rintro e w' ⟨rfl, B2⟩))
          go_ret3
          exact ⟨HN.out, (Below.drewN hB1 _).trans (B2.mono hB1.size)⟩
        · rw [hp] at HCr
          have HF' := Lib.hid (show ∀ j, j < k + 1 → (O j && P j) = true from fun j hj => by
            by_cases hj' : j < k
            · exact HF.out j hj'
            · rw [show j = k by omega, ho, hp]; rfl)
          go_wp2_with (first | ((with_reducible refine wpL_fbin ?_); refine ⟨_, _, _, rfl, rfl, rfl, fun s n => ?_⟩))
          refine (HCr.out _).mono ?_
          rintro e w2 ⟨rfl, B2⟩
          have hB2 := (Below.drewN hB1 _).trans (B2.mono hB1.size)
          clear B2 hB1 hpk hE1 hw3
          by_cases h0 : k = 0
          · subst h0
            have hs : clS C 1 = (0, C 0) := clS_take (by rfl)
            go_wp2
            go_roundw
            case rel => exact ⟨1, by omega, by go_num, by rw [hs]; rfl, by rw [hs], HF', hB2⟩
            case measure => simp [intOf]; omega
          · have h0' : ¬ (k : Int) = 0 := by omega
            obtain ⟨L, hL⟩ : ∃ L, (clS C k).2 = L := ⟨_, rfl⟩
            obtain ⟨B, hB⟩ : ∃ B, (clS C k).1 = B := ⟨_, rfl⟩
            cases ht : (FloatKind.f32.format.order (C k) (clS C k).2 == some .lt)
            · have hs : clS C (k + 1) = clS C k := clS_leave (by rw [ht]; simp [h0])
              rw [hL] at ht ⊢
              rw [hB] at ⊢
              have HS := Lib.hid (show clS C (k + 1) = (B, L) by rw [hs, ← hL, ← hB])
              clear hs hL hB
              go_wp2
              go_roundw
              case rel => exact ⟨k + 1, by omega, by go_num, by rw [HS.out], by rw [HS.out], HF', hB2⟩
              case measure => simp [intOf]; omega
            · have hs : clS C (k + 1) = (k, C k) := clS_take (by rw [ht]; simp)
              rw [hL] at ht ⊢
              rw [hB] at ⊢
              have HS := Lib.hid hs
              clear hs hL hB
              go_wp2
              go_roundw
              case rel => exact ⟨k + 1, by omega, by go_num, by rw [HS.out], by rw [HS.out], HF', hB2⟩
              case measure => simp [intOf]; omega
    · have hkn : k = K := by omega
      subst hkn
      have hokT : ok = true := by rw [hok.out, clOk, allK_yes HF.out, decide_eq_true HK8.out.1, decide_eq_true HK8.out.2]; rfl
      have HR1 := Lib.hid (show (.returned (.tuple #[.int .i64 ((clS C k).1 : Int), .float .f32 (clS C k).2, .bool true]) : Ending) = .returned (.tuple #[.int .i64 (r : Int), .float .f32 x, .bool ok]) by
        rw [hr.out, hx.out, hokT]; rfl)
      clear hokT
      obtain ⟨L, hL⟩ : ∃ L, (clS C k).2 = L := ⟨_, rfl⟩
      obtain ⟨B, hB⟩ : ∃ B, (clS C k).1 = B := ⟨_, rfl⟩
      rw [hL, hB] at HR1 ⊢
      clear hL hB
      go_wp2
      go_ret3
      exact ⟨HR1.out, hBk⟩

/- Of any lists of lines and any list the program chooses the same one as the model does, with the same criterion; nothing is changed: for all arguments. -/
set_option linter.all false

/-- What is told of CountLines. -/
def RetCountLines (r0 : Int) (r1 : Nat) (r2 : Bool) (w : World) (e : Ending) (w' : World) : Prop := ∃ (s1 : Nat), e = .returned (.tuple #[.int .i64 r0, .float .f32 (pick .f32 r1 s1), .bool r2]) ∧ Below w.heap.size w w'
theorem clS_num {N : Nat → Nat} {X : Nat → Nat → Ln} {M : Nat} {Y : Nat → Nat} {a b : Nat} {R : Nat → Nat} {O : Nat → Bool} {E C : Nat → Nat} {P : Nat → Bool} (h : Cl N X M Y a b R O E C P) (s : Nat) : ∀ k, pick .f32 (clS C k).2 s = (clS C k).2 := by
  intro k
  induction k with
  | zero => exact pick_nul s
  | succ k ih =>
    rw [clS]
    split
    · show pick .f32 (C k) s = C k
      rw [h.hC, criC_pick]
    · exact ih
theorem RetCL.cl {r x : Nat} {ok : Bool} {w w' : World} {e : Ending} (hp : ∀ s, pick .f32 x s = x) (h : RetCL r x ok w e w') : RetCountLines (r : Int) x ok w e w' := by
  obtain ⟨rfl, hb⟩ := h
  exact ⟨0, by rw [hp], hb⟩
theorem bothCountLines (n0 : Nat) (N0 : Nat → Nat) (X0 : Nat → Nat → Ln) (h0 : n0 + totNL N0 n0 ≤ 1048576) (n1 : Nat) (X1 : Nat → Nat) (h1 : n1 ≤ 1048576) (a2 : Nat) (_ : (Lit.float .f32 a2).wf = true) (a3 : Nat) (_ : (Lit.float .f32 a3).wf = true) : ∃ (r0 : Int) (r1 : Nat) (ok : Bool),
    (∀ (x0 : Option Addr) (c0 : Nat) (x1 : Option Addr) (c1 : Nat) (w : World), RdL w x0 n0 N0 X0 → Rd w x1 n1 X1 → Calls Try.prog 64 #[.slice x0 n0 c0, .slice x1 n1 c1, .float .f32 a2, .float .f32 a3] w (RetCountLines r0 r1 ok w)) ∧
    ∀ (x0 : Option Addr) (c0 : Nat) (x1 : Option Addr) (c1 : Nat) (w : World), RdL w x0 n0 N0 X0 → Rd w x1 n1 X1 → Calls Try.prog 66 #[.slice x0 n0 c0, .slice x1 n1 c1, .float .f32 a2, .float .f32 a3] w (RetCountLines r0 r1 ok w) := by
  obtain ⟨R, O, E, C, P, hc⟩ := cl_all N0 X0 n1 X1 a2 a3
  have hN : ∀ i, i < n0 → N0 i ≤ 1048576 := fun i hi => by have := totNL_le (N := N0) n0 i hi; omega
  have hp : ∀ s, pick .f32 (if clOk n0 O P = true then (clS C n0).2 else 0) s = (if clOk n0 O P = true then (clS C n0).2 else 0) := fun s => by
    split
    · exact clS_num hc s n0
    · exact pick_nul s
  exact ⟨_, _, _, fun x0 c0 x1 c1 w hX hY => (specCL_any x0 x1 n0 c0 n1 c1 N0 X0 X1 a2 a3 w hX hY hN h1 (by omega) R O E C P hc _ (Lib.hid rfl) _ _ (Lib.hid rfl) (Lib.hid rfl)).mono fun e w' h => h.cl hp,
    fun x0 c0 x1 c1 w hX hY => (implCL_any x0 x1 n0 c0 n1 c1 N0 X0 X1 a2 a3 w hX hY hN h1 (by omega) R O E C P hc _ (Lib.hid rfl) _ _ (Lib.hid rfl) (Lib.hid rfl)).mono fun e w' h => h.cl hp⟩
set_option maxRecDepth 100000 in
set_option maxHeartbeats 6400000 in
theorem lawCountLines_in (W : World) (x0 : Option Addr) (n0 c0 : Nat) (N0 : Nat → Nat) (X0 : Nat → Nat → Ln) (hX0 : RdL W x0 n0 N0 X0) (_hm0 : n0 ≤ maxLen) (_hN0 : ∀ j, j < n0 → N0 j ≤ maxLen) (x1 : Option Addr) (n1 c1 : Nat) (X1 : Nat → Nat) (hX1 : Rd W x1 n1 X1) (a2 : Nat) (_wf2 : (Lit.float .f32 a2).wf = true) (a3 : Nat) (_wf3 : (Lit.float .f32 a3).wf = true) (h0 : n0 + totNL N0 n0 ≤ 1048576) (h1 : n1 ≤ 1048576) (r0 : Int) (r1 : Nat) (r2 : Bool) (HS : Hid (∀ (x0 : Option Addr) (c0 : Nat) (x1 : Option Addr) (c1 : Nat) (w : World), RdL w x0 n0 N0 X0 → Rd w x1 n1 X1 → Calls Try.prog 64 #[.slice x0 n0 c0, .slice x1 n1 c1, .float .f32 a2, .float .f32 a3] w (RetCountLines r0 r1 r2 w))) (HI : Hid (∀ (x0 : Option Addr) (c0 : Nat) (x1 : Option Addr) (c1 : Nat) (w : World), RdL w x0 n0 N0 X0 → Rd w x1 n1 X1 → Calls Try.prog 66 #[.slice x0 n0 c0, .slice x1 n1 c1, .float .f32 a2, .float .f32 a3] w (RetCountLines r0 r1 r2 w))) :
    Calls Try.prog 14 #[.slice x0 n0 c0, .slice x1 n1 c1, .float .f32 a2, .float .f32 a3] W fun e w' => e = .returned (.bool true) ∧ Below W.heap.size W w' := by
  have hcv := fun (R : Nat) (s t : Nat) => show canon .f64 (pick .f64 (fconv .f32 (pick .f32 R s) .f64) t) = canon .f64 (fconv .f32 R .f64) by rw [canon_pick, fconv_pick]
  have hcw := fun (R : Nat) (s t : Nat) => show canon .f64 (pick .f64 R s) = canon .f64 (pick .f64 R t) by rw [canon_pick, canon_pick]
  have HCV := Lib.hid hcv
  have HCW := Lib.hid hcw
  clear hcv hcw
  have hnb2 : (r2 != r2) = false := by simp
  have HB := Blw.refl W
  have hz0 : (0 : Int) ≤ 1048576 - (n0 : Int) - (totNL N0 n0 : Int) := by omega
  go_enter Try.func14, Try.ntmps14
  go_wp2_with fail
  refine (szLL_yes _ _ _ N0 X0 _ (by exact hX0) h0).mono ?_
  rintro e0 w0 ⟨rfl, rfl⟩
  go_wp2_with fail
  refine (toLL_any _ _ _ N0 X0 _ (by exact hX0.below (Blw.out (by exact HB))) h0).mono ?_
  rintro e0 w0 ⟨_, _, rfl, O0, B0⟩
  replace HB := Blw.next (by exact HB) B0
  have C0 := O0
  clear O0 B0
  go_wp2_with fail
  refine (toF_any _ _ _ X1 _ (by exact hX1.below (Blw.out (by exact HB))) h1).mono ?_
  rintro e0 w0 ⟨rfl, O0, B0⟩
  replace C0 := OwnLL.below (by exact C0) B0
  replace HB := Blw.next (by exact HB) B0
  have C1 := O0
  clear O0 B0
  go_wp2_with fail
  refine (HS.out _ _ _ _ _ (OwnLL.rd (by exact C0)) (rd_own (by exact C1))).mono ?_
  rintro e0 w1 ⟨sw1, rfl, B0⟩
  clear C0
  clear C1
  replace HB := Blw.next (by exact HB) B0
  clear B0
  have Z0 := hX0.below HB.out
  have Z1 := hX1.below HB.out
  have HL := Blw.refl w1
  have E0 := (Blw.out (by exact HL)).size
  go_wp2_with fail
  refine (toLL_any _ _ _ N0 X0 _ (by exact Z0.below (Blw.out (by exact HL))) h0).mono ?_
  rintro e0 w0 ⟨_, _, rfl, O0, B0⟩
  replace HL := Blw.next (by exact HL) B0
  have D0 := O0
  clear O0 B0
  have E1 := (Blw.out (by exact HL)).size
  have Q0_1 := (fun j hj => OwnLL.lt (by exact D0) (i := j) hj)
  go_wp2_with fail
  refine (toF_any _ _ _ X1 _ (by exact Z1.below (Blw.out (by exact HL))) h1).mono ?_
  rintro e0 w0 ⟨rfl, O0, B0⟩
  replace D0 := OwnLL.below (by exact D0) B0
  replace HL := Blw.next (by exact HL) B0
  have D1 := O0
  clear O0 B0
  have Qg0 := (fun j hj => OwnLL.lt (by exact D0) (i := j) hj)
  have Qg1 := own_lt (by exact D1)
  have Eg := (Blw.out (by exact HL)).size
  go_wp2_with fail
  refine (HI.out _ _ _ _ _ (OwnLL.rd (by exact D0)) (rd_own (by exact D1))).mono ?_
  rintro e0 w2 ⟨sg1, rfl, B0⟩
  replace D0 := OwnLL.below (by exact D0) B0
  replace D1 := own_below (by exact D1) B0
  replace HL := Blw.next (by exact HL) B0
  clear B0
  go_wp2_with (first | ((with_reducible refine wpL_fconv ?_); refine ⟨_, _, _, rfl, Option.isSome_iff_exists.2 ⟨_, Try.underlying22⟩, Try.underlying76, FloatKind.noConfusion, convOk_widen _, fun s n => ?_⟩) | ((with_reducible refine wpL_fconv_g ?_); refine ⟨rfl, _, _, _, rfl, Option.isSome_iff_exists.2 ⟨_, Try.underlying22⟩, Try.underlying76, FloatKind.noConfusion, convOk_widen _, fun s n => ?_⟩))
  refine (sameFloat_any _ _ _ ((HCV.out _ _ _).trans (HCV.out _ _ _).symm)).mono ?_
  rintro e0 w0 ⟨rfl, q, rfl⟩
  go_wp2_with fail
  refine (toLL_any _ _ _ N0 X0 _ (by exact Z0.below (Blw.out (by exact HL))) h0).mono ?_
  rintro e0 w0 ⟨_, _, rfl, O0, B0⟩
  replace D0 := OwnLL.below (by exact D0) B0
  replace D1 := own_below (by exact D1) B0
  replace HL := Blw.next (by exact HL) B0
  have K0 := O0
  clear O0 B0
  go_wp2_with fail
  refine (eqLL_any _ _ _ _ _ N0 X0 _ (by exact OwnLL.rd (by exact D0)) (by exact OwnLL.rd (by exact K0)) h0).mono ?_
  rintro e0 w0 ⟨rfl, B0⟩
  replace D0 := OwnLL.below (by exact D0) B0
  replace D1 := own_below (by exact D1) B0
  replace HL := Blw.next (by exact HL) B0
  clear B0
  clear K0
  go_wp2_with fail
  refine (toF_any _ _ _ X1 _ (by exact Z1.below (Blw.out (by exact HL))) h1).mono ?_
  rintro e0 w0 ⟨rfl, O0, B0⟩
  replace D0 := OwnLL.below (by exact D0) B0
  replace D1 := own_below (by exact D1) B0
  replace HL := Blw.next (by exact HL) B0
  have K1 := O0
  clear O0 B0
  go_wp2_with fail
  refine (eqF_any _ _ _ _ _ X1 X1 _ (by exact rd_own (by exact D1)) (by exact rd_own (by exact K1)) h1 (fun _ _ => rfl)).mono ?_
  rintro e0 w0 ⟨rfl, q, rfl⟩
  clear K1
  go_wp2
  go_ret
  exact ⟨rfl, (Blw.out (by exact HB)).trans ((Blw.out (by exact HL)).mono (Blw.out (by exact HB)).size)⟩
set_option maxRecDepth 100000 in
set_option maxHeartbeats 1600000 in
theorem lawCountLines_any (W : World) (x0 : Option Addr) (n0 c0 : Nat) (N0 : Nat → Nat) (X0 : Nat → Nat → Ln) (hX0 : RdL W x0 n0 N0 X0) (_hm0 : n0 ≤ maxLen) (_hN0 : ∀ j, j < n0 → N0 j ≤ maxLen) (x1 : Option Addr) (n1 c1 : Nat) (X1 : Nat → Nat) (hX1 : Rd W x1 n1 X1) (a2 : Nat) (_wf2 : (Lit.float .f32 a2).wf = true) (a3 : Nat) (_wf3 : (Lit.float .f32 a3).wf = true) :
    Calls Try.prog 14 #[.slice x0 n0 c0, .slice x1 n1 c1, .float .f32 a2, .float .f32 a3] W fun e w' => e = .returned (.bool true) ∧ Below W.heap.size W w' := by
  by_cases h1 : n1 ≤ 1048576
  · skip
    by_cases h0 : n0 + totNL N0 n0 ≤ 1048576
    · skip
      obtain ⟨r0, r1, r2, hs, hi⟩ := bothCountLines n0 N0 X0 h0 n1 X1 h1 a2 _wf2 a3 _wf3
      exact lawCountLines_in W x0 n0 c0 N0 X0 hX0 _hm0 _hN0 x1 n1 c1 X1 hX1 a2 _wf2 a3 _wf3 h0 h1 r0 r1 r2 (Lib.hid hs) (Lib.hid hi)
    · go_enter Try.func14, Try.ntmps14
      go_wp2_with (go_at_call 63; refine (szLL_no _ _ _ N0 X0 _ (by exact hX0) _hm0 _hN0 (by omega)).mono ?_; rintro e0 w0 ⟨rfl, rfl⟩)
      go_ret
      exact ⟨rfl, (Blw.refl _).out⟩
  · have h' : (1048576 : Int) < (n1 : Int) := by omega
    go_enter Try.func14, Try.ntmps14
    go_wp2
    go_ret
    exact ⟨rfl, (Blw.refl W).out⟩

end Go.Proofs.Ytmpcalpapkedhaa
