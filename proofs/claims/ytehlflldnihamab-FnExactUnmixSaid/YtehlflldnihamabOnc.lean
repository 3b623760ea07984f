/- Shares made better once: as the model does it. -/
import Derived.Test.YtehlflldnihamabMix
import Derived.Test.YtehlflldnihamabGeA
import Derived.Test.YtehlflldnihamabLes
import Derived.Test.YtehlflldnihamabPush0
namespace Go.Proofs.Ytehlflldnihamab
open Go Go.ChangeShapes Go.WideShapes Go.ChangeAt Go.RowKit

def gt0 (x : Nat) : Bool := FloatKind.f32.format.order x 0 == some .gt
/-- What the share f becomes. -/
def onA (L : Nat → Nat) (X : Nat → Nat → Nat) (n K : Nat) (T : Nat → Nat) (f : Nat) : Nat := dotW (X f) (lesR L (mixR T X K)) n
def onX (L : Nat → Nat) (X : Nat → Nat → Nat) (n K : Nat) (T : Nat → Nat) (f : Nat) : Nat := fbin .add .f32 (T f) (fbin .quo .f32 (onA L X n K T f) (dotW (X f) (X f) n))
def onV (L : Nat → Nat) (X : Nat → Nat → Nat) (n K : Nat) (T : Nat → Nat) (f : Nat) : Nat := if ltZ (onX L X n K T f) = true then 0 else onX L X n K T f
/-- The shares behind c spectra. -/
def onT (L : Nat → Nat) (X : Nat → Nat → Nat) (n K : Nat) (S : Nat → Nat) : Nat → Nat → Nat
  | 0 => S
  | c + 1 => fun i => if i = c then onV L X n K (onT L X n K S c) c else onT L X n K S c i
def onM (L : Nat → Nat) (X : Nat → Nat → Nat) (n K : Nat) (S : Nat → Nat) (f : Nat) : Bool := finL (mixR (onT L X n K S f) X K) n && gt0 (dotW (X f) (X f) n)
def onG (L : Nat → Nat) (X : Nat → Nat → Nat) (n K : Nat) (S : Nat → Nat) (f : Nat) : Bool := onM L X n K S f && isFin .f32 (onV L X n K (onT L X n K S f) f)
def onOk (L : Nat → Nat) (X : Nat → Nat → Nat) (n K : Nat) (S : Nat → Nat) : Bool := (List.range K).all fun f => onG L X n K S f
theorem onOk_no {L : Nat → Nat} {X : Nat → Nat → Nat} {n K : Nat} {S : Nat → Nat} {f : Nat} (hf : f < K) (h : onG L X n K S f = false) : onOk L X n K S = false := by
  cases hc : onOk L X n K S
  · rfl
  · unfold onOk at hc
    rw [List.all_eq_true] at hc
    rw [hc f (by simpa using hf)] at h
    cases h
theorem onOk_yes {L : Nat → Nat} {X : Nat → Nat → Nat} {n K : Nat} {S : Nat → Nat} (h : ∀ f, f < K → onG L X n K S f = true) : onOk L X n K S = true := by
  unfold onOk
  rw [List.all_eq_true]
  intro f hf
  exact h f (by simpa using hf)
theorem onT_fin {L : Nat → Nat} {X : Nat → Nat → Nat} {n K : Nat} {S : Nat → Nat} (hS : finL S K = true) : ∀ c, c ≤ K → (∀ f, f < c → onG L X n K S f = true) → finL (onT L X n K S c) K = true := by
  intro c
  induction c with
  | zero => intro _ _; exact hS
  | succ c ih =>
    intro hc h
    have h1 := ih (by omega) fun f hf => h f (by omega)
    refine finL_yes fun i hi => ?_
    show isFin .f32 (if i = c then _ else _) = true
    by_cases e : i = c
    · rw [if_pos e]
      have := h c (by omega)
      unfold onG at this
      rw [Bool.and_eq_true] at this
      exact this.2
    · rw [if_neg e]; exact finL_at h1 i hi
theorem dotX_like {V r U t : Nat → Nat} : ∀ n, Like V r n → Like U t n → dotW V U n = dotW r t n := by
  intro n
  induction n with
  | zero => intro _ _; rfl
  | succ n ih =>
    intro h g
    show fbin .add .f32 (dotW V U n) (fbin .mul .f32 (V n) (U n)) = fbin .add .f32 (dotW r t n) (fbin .mul .f32 (r n) (t n))
    rw [ih (fun j hj => h j (by omega)) (fun j hj => g j (by omega)), fbin_congr (h n (Nat.lt_succ_self n)) (g n (Nat.lt_succ_self n))]
theorem ltZ_pick (x s : Nat) : ltZ (pick .f32 x s) = ltZ x := by unfold ltZ; rw [order_pick_l]
theorem isFin_zero : isFin .f32 0 = true := by decide +kernel
/-- A number that is less than 0 becomes 0; so nothing is less than 0 behind. -/
theorem onV_pick (x s : Nat) : (if ltZ (pick .f32 x s) = true then 0 else pick .f32 x s) = pick .f32 (if ltZ x = true then 0 else x) s := by
  rw [ltZ_pick]
  cases ltZ x
  · rfl
  · rw [if_pos rfl, if_pos rfl]
    exact (pick_num (show isNaN .f32 0 = false by decide +kernel) s).symm
set_option maxRecDepth 100000 in
set_option maxHeartbeats 1600000 in
theorem l07Once_any (la : Option Addr) (cl : Nat) (L : Nat → Nat) (xa : Option Addr) (K cap : Nat) (N : Nat → Nat) (X : Nat → Nat → Nat) (g cs n : Nat) (S : Nat → Nat) (w0 w : World)
    (hL : Rd w0 la n L) (hX : RdR w0 xa K N X) (hB : Below w0.heap.size w0 w) (hown : w.ownsRow w0.heap.size 43 1 (.slice (some ⟨g, 0, none⟩) K cs) K (rowOf S K))
    (hk : okSpc K N X = true) (h : K + totN N K ≤ 1048576) (hn : n = N 0) (hfl : finL L n = true) (hfs : finL S K = true) (ok : Bool) (ho : Hid (ok = onOk L X n K S)) :
    Calls Try.prog 75 #[.slice la n cl, .slice xa K cap, .slice (some ⟨g, 0, none⟩) K cs] w fun e w' => e = .returned (.bool ok) ∧ Below w0.heap.size w0 w' ∧
      (ok = true → w'.ownsRow w0.heap.size 43 1 (.slice (some ⟨g, 0, none⟩) K cs) K (rowOf (onT L X n K S K) K)) := by
  obtain ⟨hK1, hK8, hall⟩ := okSpc_at hk
  have hn128 : 1 ≤ n ∧ n ≤ 128 := by have := okLst_at (hall 0 (by omega)).1; omega
  obtain ⟨xb, xo, hxa, _⟩ := id hX
  have e := hxa (by omega)
  subst e
  obtain ⟨lb, lo, rfl, hcl⟩ := hL.at (by omega)
  obtain ⟨rb, ro, rc, hlay⟩ := RdR.lay hX (n := n) (fun k hk => by rw [(hall k hk).2, hn]) (by omega)
  have HX := Lib.hid hlay
  have HL := Lib.hid (show ∀ w', Below w0.heap.size w0 w' → ∀ j, j < n → w'.cell? ⟨lb, lo + j, none⟩ = some (.float .f32 (L j)) from fun w' hb j hj =>
    (hb.cell (p := ⟨lb, lo + j, none⟩) (World.block_lt_of_cell? w0 _ (hcl j hj))).trans (hcl j hj))
  have HFL := Lib.hid (finL_at hfl)
  have HFX := Lib.hid (show ∀ k, k < K → ∀ j, j < n → isFin .f32 (X k j) = true from fun k hk j hj => finL_at (okLst_at (hall k hk).1).1 j (by rw [(hall k hk).2, ← hn]; exact hj))
  have HFS := Lib.hid hfs
  have hg := own_ge hown
  have hnn : ((K : Int) != (K : Int)) = false := by simp
  have HMX := Lib.hid (fun (T : Nat → Nat) (hT : finL T K = true) (mm : Bool) (hmm : mm = finL (mixR T X K) n) w' (hb : Below w0.heap.size w0 w') hr => specMix_any (some ⟨xb, xo, none⟩) K cap N X (some ⟨g, 0, none⟩) K cs T w' (hX.below hb) hr h (by omega) mm (Lib.hid (by rw [hmm, okMix, hk, decide_eq_true rfl, hT, hn]; rfl)) (if mm = true then n else 0) (Lib.hid (by rw [hn])))
  have HOw := Lib.hid hown
  clear hown hlay hcl hfl hfs hall hxa hX hL hk hn
  go_enter Try.func75, Try.ntmps75
  go_wp2
  go_loopw [16] (fun i wr => ∃ f : Nat, f ≤ K ∧ i = .int .i64 (f : Int) ∧ wr.ownsRow w0.heap.size 43 1 (.slice (some ⟨g, 0, none⟩) K cs) K (rowOf (onT L X n K S f) K) ∧ Below w0.heap.size w0 wr ∧ Hid (∀ j, j < f → onG L X n K S j = true)) (fun i _ => K - (intOf i).toNat)
  case atStart => exact ⟨0, Nat.zero_le _, rfl, HOw.out, hB, Lib.hid fun j hj => absurd hj (Nat.not_lt_zero _)⟩
  case round =>
    obtain ⟨f, hf, rfl, hownf, hBf, HG⟩ := hrel
    clear hB
    by_cases hlt : f < K
    · obtain ⟨T, hT⟩ : ∃ T, T = onT L X n K S f := ⟨_, rfl⟩
      rw [← hT] at hownf
      have hTf : finL T K = true := by rw [hT]; exact onT_fin HFS.out f (by omega) HG.out
      obtain ⟨mm, hmm⟩ : ∃ mm, mm = finL (mixR T X K) n := ⟨_, rfl⟩
      have HM := Lib.hid (HMX.out T hTf mm hmm)
      have HTf := Lib.hid (finL_at hTf)
      have HT := Lib.hid hT
      have hrd := rd_own hownf
      obtain ⟨Q, hQ⟩ : ∃ Q, Q = dotW (X f) (X f) n := ⟨_, rfl⟩
      have HQ := Lib.hid hQ
      have hPr := fun w' hr => l05Prod_any (some ⟨rb f, ro f, none⟩) (some ⟨rb f, ro f, none⟩) n n (rc f) (rc f) (X f) (X f) w' hr hr (by omega) (Nat.le_refl _)
      rw [← hQ] at hPr
      have HP := Lib.hid hPr
      have hi0 : (f : Int) < (K : Int) := by omega
      have hop := order_pick_l .f32
      have HGn := Lib.hid (fun (hz : (mm && gt0 Q) = false) => show false = ok by
        rw [ho.out, onOk_no hlt (by rw [onG, onM, ← hT, ← hmm, ← hQ, hz]; rfl)])
      have HGy := Lib.hid (fun (h1 : mm = true) (h2 : gt0 Q = true) => show onG L X n K S f = isFin .f32 (onV L X n K T f) by
        rw [onG, onM, ← hT, ← hmm, ← hQ, h1, h2]; rfl)
      have HY := Lib.hid hmm
      clear hmm hTf hT hPr hQ
      go_wp2_with fail
      refine (HM.out wr (by exact hBf) (by exact hrd)).mono ?_
      rintro e w1 ⟨v1, Y1, rfl, O1, L1, m1, B1⟩
      have hB1 : Below w0.heap.size w0 w1 := hBf.trans (B1.mono hBf.size)
      have hown1 := own_below hownf B1
      have hc1 := (HX.out w1 hB1 f hlt).1
      have HE := Lib.hid (HP.out (w1.drewN 1) ⟨rb f, ro f, fun _ => rfl, (HX.out w1 hB1 f hlt).2⟩)
      have HO1 := Lib.hid O1
      have HL1 := Lib.hid L1
      have HOf := Lib.hid hown1
      have HB1 := Lib.hid hB1
      clear O1 L1 hown1 hownf hBf hrd hB1 B1
      cases mm
      · have HN := Lib.hid (HGn.out rfl)
        go_wp2_with fail
        go_still_tail 8, (by kernel_rfl)
        change wpList _ _ _ _ _ w1.drew
        have hEw : w1.drew = w1.drewN 1 := rfl
        rw [hEw]
        clear hEw
        go_wp2_with (go_at_call 127; refine HE.out.mono ?_; rintro e w2 ⟨s2, q2, rfl, rfl⟩)
        go_ret
        refine ⟨ret_bool HN.out, ?_, fun h => by rw [← HN.out] at h; cases h⟩
        exact Below.drewN HB1.out _
      · cases hz : gt0 Q
        · have hz' : (FloatKind.f32.format.order Q 0 == some .gt) = false := hz
          have HN := Lib.hid (HGn.out (by rw [hz]; rfl))
          clear hz
          go_wp2_with fail
          go_still_tail 8, (by kernel_rfl)
          change wpList _ _ _ _ _ w1.drew
          have hEw : w1.drew = w1.drewN 1 := rfl
          rw [hEw]
          clear hEw
          go_wp2_with (go_at_call 127; refine HE.out.mono ?_; rintro e w2 ⟨s2, q2, rfl, rfl⟩)
          go_ret
          refine ⟨ret_bool HN.out, ?_, fun h => by rw [← HN.out] at h; cases h⟩
          exact Below.drewN HB1.out _
        · have hz' : (FloatKind.f32.format.order Q 0 == some .gt) = true := hz
          have HG1 := Lib.hid (HGy.out rfl hz)
          obtain ⟨ym, cm, rfl, _, _, Rm⟩ := rd_of_own HO1.out
          rw [if_pos rfl] at Rm
          obtain ⟨mb, mo, rfl, hcm⟩ := Rm.at (by omega)
          have HMc := Lib.hid hcm
          have HMf := Lib.hid (show ∀ j, j < n → isFin .f32 (Y1 j) = true from fun j hj => by
            have h1 := HL1.out
            rw [if_pos rfl] at h1
            have := finL_like h1
            rw [← HY.out] at this
            exact finL_at this j hj)
          have HMl := Lib.hid (show ∀ j, j < n → canon .f32 (Y1 j) = canon .f32 (mixR T X K j) from fun j hj => HL1.out j (by rw [if_pos rfl]; exact hj))
          clear hz Rm hcm
          rw [if_pos rfl]
          go_wp2_with fail
          go_still_tail 8, (by kernel_rfl)
          change wpList _ _ _ _ _ w1.drew
          have hEw : w1.drew = w1.drewN 1 := rfl
          rw [hEw]
          clear hEw
          go_wp2_with (go_at_call 127; refine HE.out.mono ?_; rintro e w2 ⟨s2, q2, rfl, rfl⟩)
          obtain ⟨wv, hwv⟩ : ∃ wv, wv = w1.drewN (1 + q2) := ⟨_, rfl⟩
          rw [← hwv]
          have HBv := Lib.hid (show Below w0.heap.size w0 wv by rw [hwv]; exact Below.drewN HB1.out _)
          have HOv := Lib.hid (show wv.ownsRow w0.heap.size 43 1 (.slice (some ⟨g, 0, none⟩) K cs) K (rowOf T K) by rw [hwv]; exact HOf.out)
          have HMv := Lib.hid (show ∀ j, j < n → wv.cell? ⟨mb, mo + j, none⟩ = some (.float .f32 (Y1 j)) by rw [hwv]; exact HMc.out)
          obtain ⟨V, hV⟩ : ∃ V, V = lesR L (mixR T X K) := ⟨_, rfl⟩
          have HV := Lib.hid (show ∀ j, j < n → fbin .sub .f32 (L j) (Y1 j) = V j from fun j hj => by rw [hV, lesR, fbin_congr rfl (HMl.out j hj)])
          have HA := Lib.hid (show onX L X n K T f = fbin .add .f32 (T f) (fbin .quo .f32 (dotW (X f) V n) Q) by rw [onX, onA, ← hV, ← HQ.out])
          clear hwv hV hc1
          go_loopw [11, 43] (fun q i wr => ∃ (j mm s : Nat), j ≤ n ∧ i = .int .i64 (j : Int) ∧ q = .float .f32 (pick .f32 (dotW (X f) V j) s) ∧ wr = wv.drewN mm) (fun _ i _ => n - (intOf i).toNat)
          case atStart => exact ⟨0, 0, 0, by omega, rfl, by rw [show dotW (X f) V 0 = 0 from rfl, pick_zero], rfl⟩
          case round =>
            obtain ⟨j, mm, s, hj, rfl, rfl, hwr⟩ := hrel
            by_cases hjn : j < n
            · have HZ := Lib.hid hwr
              have hBz : Below w0.heap.size w0 wr := by rw [hwr]; exact Below.drewN HBv.out mm
              obtain ⟨c1, c2⟩ := HX.out wr hBz f hlt
              have c2 := c2 j hjn
              have c3 := HL.out wr hBz j hjn
              have c4 : wr.cell? ⟨mb, mo + j, none⟩ = some (.float .f32 (Y1 j)) := by rw [hwr]; exact HMv.out j hjn
              have hb2 : (j : Int) < (n : Int) := by omega
              have hd := dotW_succ (X f) V j
              rw [← HV.out j hjn] at hd
              obtain ⟨D1, hD1⟩ : ∃ D1, fbin .sub .f32 (L j) (Y1 j) = D1 := ⟨_, rfl⟩
              have nD1 : isNaN .f32 D1 = false := by rw [← hD1]; exact nan_sub (num_fin (HFL.out j hjn)) (HMf.out j hjn)
              have q1 := fun t => run_numop (op := .sub) rfl t _ _ _ hD1 nD1
              rw [hD1] at hd
              obtain ⟨P, hP⟩ : ∃ P, fbin .mul .f32 (X f j) D1 = P := ⟨_, rfl⟩
              rw [hP] at hd
              have hp := fun op => fbin_pick_l op .f32
              have hq := fun op => fbin_pick_r op .f32
              obtain ⟨D, hD⟩ : ∃ D, D = dotW (X f) V j := ⟨_, rfl⟩
              rw [← hD] at hd
              have HD := Lib.hid hD
              have HE2 := Lib.hid hd
              rw [← HD.out]
              clear hD hd hwr hBz nD1
              cases nP : isNaN .f32 P
              · have q2' := fun t => run_numop (op := .mul) rfl t _ _ _ hP nP
                clear nP
                go_wp2_with fail
                go_still_tail 18, (by kernel_rfl)
                change wpList _ _ _ _ _ wr.drew
                have hEw : wr.drew = wr.drewN 1 := rfl
                rw [hEw]
                clear hEw
                go_wp2_with ((with_reducible refine wpL_fbin ?_); refine ⟨_, _, _, rfl, rfl, rfl, fun s n => ?_⟩)
                go_roundw
                case rel => exact ⟨j + 1, _, _, by omega, by go_num, by rw [← HE2.out], by rw [HZ.out, World.drewN_drewN]⟩
                case measure => simp [intOf]; omega
              · have q2' := run_mul32
                have q3' := run_add32
                clear nP
                go_wp2_with fail
                go_region
                go_wp2
                go_roundw
                case rel => exact ⟨j + 1, _, _, by omega, by go_num, by rw [← HE2.out], by rw [HZ.out]; first | rfl | rw [World.drewN_drewN]⟩
                case measure => simp [intOf]; omega
            · have hjj : j = n := by omega
              have hip := isFin_pick .f32
              have hp := fun op => fbin_pick_l op .f32
              have hq := fun op => fbin_pick_r op .f32
              obtain ⟨A, hA⟩ : ∃ A, A = dotW (X f) V n := ⟨_, rfl⟩
              rw [show dotW (X f) V j = A by rw [hA, hjj]]
              obtain ⟨U, hU⟩ : ∃ U, fbin .quo .f32 A Q = U := ⟨_, rfl⟩
              obtain ⟨W, hW⟩ : ∃ W, fbin .add .f32 (T f) U = W := ⟨_, rfl⟩
              have HW := Lib.hid (show onX L X n K T f = W by rw [HA.out, ← hA, hU, hW])
              have hcl := own_cell HOv.out hlt
              have hcl' : (wv.drewN mm).cell? ⟨g, f, none⟩ = some (.float .f32 (T f)) := hcl
              have st := fun q u => own_store HOv.out hlt q u
              have HNx := Lib.hid (show ∀ u, onV L X n K T f = u → ∀ i, (if i = f then u else T i) = onT L X n K S (f + 1) i from fun u hu i => by
                show _ = if i = f then onV L X n K (onT L X n K S f) f else onT L X n K S f i
                rw [← HT.out, hu])
              have HGx := Lib.hid (show ∀ t, isFin .f32 (onV L X n K T f) = t → t = true → ∀ j, j < f + 1 → onG L X n K S j = true from fun t h1 h2 j hj => by
                by_cases hj' : j < f
                · exact HG.out j hj'
                · rw [show j = f by omega, HG1.out, h1, h2])
              clear hA hjj hcl
              subst hwr
              cases hz0 : ltZ W
              · have hz0' : (FloatKind.f32.format.order W 0 == some .lt) = false := hz0
                have HVx := Lib.hid (show onV L X n K T f = W by unfold onV; rw [HW.out, hz0, if_neg (by simp)])
                cases hf0 : isFin .f32 W
                · have HN := Lib.hid (show false = ok by rw [ho.out, onOk_no hlt (by rw [HG1.out, HVx.out, hf0])])
                  clear hz0
                  go_wp2_with (first | ((with_reducible refine wpL_fbin ?_); refine ⟨_, _, _, rfl, rfl, rfl, fun s n => ?_⟩) | (go_at_call 74; refine (l01Finite_any _ _).mono ?_; rintro e w' ⟨rfl, q, rfl⟩))
                  go_ret
                  refine ⟨ret_bool HN.out, ?_, fun h => by rw [← HN.out] at h; cases h⟩
                  exact Below.drewN HBv.out _
                · have hWn := num_fin hf0
                  have hpk := fun s => pick_num hWn s
                  have HR := Lib.hid (HGx.out _ rfl (by rw [HVx.out]; exact hf0))
                  clear hz0
                  go_wp2_with (first | ((with_reducible refine wpL_fbin ?_); refine ⟨_, _, _, rfl, rfl, rfl, fun s n => ?_⟩) | (go_at_call 74; refine (l01Finite_any _ _).mono ?_; rintro e w' ⟨rfl, q, rfl⟩))
                  go_roundw
                  case rel =>
                    refine ⟨f + 1, by omega, by go_num, ?_, Below.setCell (Below.drewN HBv.out _) hg _, HR⟩
                    have h9 := own_stored (own_drew HOv.out (mm + 0)) f W
                    rw [rowOf_congr (fun i _ => HNx.out W HVx.out i)] at h9
                    exact h9
                  case measure => simp [intOf]; omega
              · have hz0' : (FloatKind.f32.format.order W 0 == some .lt) = true := hz0
                have HVx := Lib.hid (show onV L X n K T f = 0 by unfold onV; rw [HW.out, hz0, if_pos rfl])
                have hf0 := isFin_zero
                have HR := Lib.hid (HGx.out _ rfl (by rw [HVx.out]; exact hf0))
                clear hz0
                go_wp2_with (first | ((with_reducible refine wpL_fbin ?_); refine ⟨_, _, _, rfl, rfl, rfl, fun s n => ?_⟩) | (go_at_call 74; refine (l01Finite_any _ _).mono ?_; rintro e w' ⟨rfl, q, rfl⟩))
                go_roundw
                case rel =>
                  refine ⟨f + 1, by omega, by go_num, ?_, Below.setCell (Below.drewN HBv.out _) hg _, HR⟩
                  have h9 := own_stored (own_drew HOv.out (mm + 0)) f 0
                  rw [rowOf_congr (fun i _ => HNx.out 0 HVx.out i)] at h9
                  exact h9
                case measure => simp [intOf]; omega
    · have hfK : f = K := by omega
      subst hfK
      have HN := Lib.hid (show true = ok by rw [ho.out, onOk_yes HG.out])
      go_wp2
      go_ret
      exact ⟨ret_bool HN.out, hBf, fun _ => hownf⟩
end Go.Proofs.Ytehlflldnihamab
