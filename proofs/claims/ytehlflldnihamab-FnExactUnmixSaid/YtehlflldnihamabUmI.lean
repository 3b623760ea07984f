/- Shares made better once: what the program tells. -/
import Derived.Test.YtehlflldnihamabUmo
import Derived.Test.YtehlflldnihamabMiI
import Derived.Test.YtehlflldnihamabCl0
namespace Go.Proofs.Ytehlflldnihamab
open Go Go.ChangeShapes Go.WideShapes Go.ChangeAt Go.RowKit

def okLib (L : Nat → Nat) (n K : Nat) (N : Nat → Nat) (X : Nat → Nat → Nat) : Bool := okSpc K N X && okTwo L n (X 0) (N 0)
set_option maxRecDepth 100000 in
set_option maxHeartbeats 1600000 in
theorem implLib_any (la : Option Addr) (n cl : Nat) (L : Nat → Nat) (xa : Option Addr) (K cap : Nat) (N : Nat → Nat) (X : Nat → Nat → Nat) (w : World) (hL : Rd w la n L) (hX : RdR w xa K N X) (hn : n ≤ 1048576) (h : K + totN N K ≤ 1048576) (b : Bool) (hb : Hid (b = okLib L n K N X)) :
    Calls Try.prog 69 #[.slice la n cl, .slice xa K cap] w fun e w' => e = .returned (.bool b) ∧ Below w.heap.size w w' := by
  obtain ⟨t, ht⟩ : ∃ t, t = okSpc K N X := ⟨_, rfl⟩
  have HT := Lib.hid (implSpc_any xa K cap N X w hX h t (Lib.hid ht))
  have HB := Lib.hid (show b = (t && okTwo L n (X 0) (N 0)) by rw [hb.out, okLib, ht])
  clear hb
  cases t
  · have HN := Lib.hid (show false = b by rw [HB.out]; rfl)
    clear ht
    go_enter Try.func69, Try.ntmps69
    go_wp2_with (go_at_call 123; refine HT.out.mono ?_; rintro e w1 ⟨rfl, B1⟩)
    go_ret
    exact ⟨ret_bool HN.out, B1⟩
  · have hK := okSpc_at ht.symm
    clear ht
    obtain ⟨xb, xo, hxa, _⟩ := id hX
    have e := hxa (by omega)
    subst e
    have hN0 := totN_le (N := N) K 0 (by omega)
    have hi1 : (0 : Int) < (K : Int) := by omega
    have hi2 : 0 < K := by omega
    obtain ⟨u, hu⟩ : ∃ u, u = okTwo L n (X 0) (N 0) := ⟨_, rfl⟩
    have HN := Lib.hid (show u = b by rw [HB.out, ← hu]; rfl)
    have HU := Lib.hid hu
    clear hK hxa hu
    go_enter Try.func69, Try.ntmps69
    go_wp2_with fail
    refine HT.out.mono ?_
    rintro e w1 ⟨rfl, B1⟩
    obtain ⟨a, c, h1, _, ra⟩ := RdR.row (hX.below B1) hi2
    rw [Nat.add_zero] at h1
    have HE := Lib.hid (implTwo_any la n cl L a (N 0) c (X 0) w1 (hL.below B1) ra hn (by omega) u HU)
    clear ra
    go_wp2_with fail
    refine HE.out.mono ?_
    rintro e w' ⟨rfl, q2, rfl⟩
    go_wp2
    go_ret
    exact ⟨ret_bool HN.out, Below.drewN B1 _⟩
theorem mixR_like {Z T : Nat → Nat} {K : Nat} (h : Like Z T K) (X : Nat → Nat → Nat) : mixR Z X K = mixR T X K := by
  funext j
  exact dotX_like K h (fun _ _ => rfl)
theorem onT_at {L : Nat → Nat} {X : Nat → Nat → Nat} {n K : Nat} {S : Nat → Nat} : ∀ c f, f < c → onT L X n K S c f = onV L X n K (onT L X n K S f) f := by
  intro c
  induction c with
  | zero => intro f h; omega
  | succ c ih =>
    intro f h
    show (if f = c then _ else _) = _
    by_cases e : f = c
    · rw [if_pos e, e]
    · rw [if_neg e]; exact ih f (by omega)
theorem onOk_at {L : Nat → Nat} {X : Nat → Nat → Nat} {n K : Nat} {S : Nat → Nat} (h : onOk L X n K S = true) : ∀ f, f < K → onG L X n K S f = true := fun f hf => by
  unfold onOk at h
  rw [List.all_eq_true] at h
  exact h f (by simpa using hf)
theorem onOk_fin {L : Nat → Nat} {X : Nat → Nat → Nat} {n K : Nat} {S : Nat → Nat} (hM : ∀ f, f < K → onM L X n K S f = true) : onOk L X n K S = finL (onT L X n K S K) K := by
  cases hf : finL (onT L X n K S K) K
  · cases ho : onOk L X n K S
    · rfl
    · exfalso
      have : finL (onT L X n K S K) K = true := finL_yes fun f hfK => by
        rw [onT_at K f hfK]
        have := onOk_at ho f hfK
        unfold onG at this
        rw [Bool.and_eq_true] at this
        exact this.2
      rw [this] at hf
      cases hf
  · exact onOk_yes fun f hfK => by
      have := finL_at hf f hfK
      rw [onT_at K f hfK] at this
      rw [onG, hM f hfK, this]
      rfl
theorem onOk_bad {L : Nat → Nat} {X : Nat → Nat → Nat} {n K : Nat} {S : Nat → Nat} (hS : finL S K = true) {c : Nat} (hc : c < K) (h : (finL (onT L X n K S c) K && onM L X n K S c) = false) : onOk L X n K S = false := by
  cases ho : onOk L X n K S
  · rfl
  · exfalso
    have h1 := onT_fin hS c (by omega) (fun f hf => onOk_at ho f (by omega))
    have h2 := onOk_at ho c hc
    unfold onG at h2
    rw [Bool.and_eq_true] at h2
    rw [h1, h2.1] at h
    cases h
set_option maxRecDepth 100000 in
set_option maxHeartbeats 3200000 in
theorem implUmo_yes (la : Option Addr) (n cl : Nat) (L : Nat → Nat) (xa : Option Addr) (K cap : Nat) (N : Nat → Nat) (X : Nat → Nat → Nat) (sa : Option Addr) (cs : Nat) (S : Nat → Nat) (w : World) (hL : Rd w la n L) (hX : RdR w xa K N X) (hS : Rd w sa K S) (h : K + totN N K ≤ 1048576) (hk : okCan L n K N X = true) (hgs : gL S K = true) (ok : Bool) (ho : Hid (ok = onOk L X n K S)) (m : Nat) (hm : Hid (m = if ok = true then K else 0)) :
    Calls Try.prog 33 #[.slice la n cl, .slice xa K cap, .slice sa K cs] w (LstRet (onT L X n K S K) m ok w) := by
  obtain ⟨hs0, h6, hl0, hn0⟩ := okCan_at hk
  obtain ⟨hK1, hK8, hall⟩ := okSpc_at hs0
  have hn128 : 1 ≤ n ∧ n ≤ 128 := by have := okLst_at hl0; omega
  have HLB := Lib.hid (fun w hL hX => implLib_any la n cl L xa K cap N X w hL hX (by omega) h true (Lib.hid (by
    unfold okCan at hk
    simp only [Bool.and_eq_true] at hk
    rw [okLib, hk.1.1, hk.2]; rfl)))
  have HGL := Lib.hid (fun w hS => areAtLeastZero_any sa K cs S w hS (by omega))
  rw [hgs] at HGL
  have d6 : decide ((6 : Int) < (K : Int)) = false := decide_eq_false (by omega)
  obtain ⟨xb, xo, hxa, _⟩ := id hX
  have e := hxa (by omega)
  subst e
  obtain ⟨rb, ro, rc, hlay⟩ := RdR.lay hX (n := n) (fun k hk => by rw [(hall k hk).2, hn0]) (by omega)
  have HX := Lib.hid hlay
  have HXr := Lib.hid hX
  have HLr := Lib.hid hL
  have HFS := Lib.hid (gL_fin' hgs)
  have HMX := Lib.hid (fun (Z T : Nat → Nat) (hZ : Like Z T K) (za : Option Addr) (cz : Nat) (mm : Bool) (hmm : mm = (finL T K && finL (mixR T X K) n)) w' (hb : Below w.heap.size w w') hr => implMix_any (some ⟨xb, xo, none⟩) K cap N X za K cz Z w' (hX.below hb) hr h (by omega) mm (Lib.hid (by rw [hmm, okMix, hs0, decide_eq_true rfl, finL_like hZ, mixR_like hZ, ← hn0]; rfl)) (if mm = true then n else 0) (Lib.hid (by rw [hn0])))
  clear hk hs0 hl0 hn0 hall hlay hxa hgs
  go_enter Try.func33, Try.ntmps33
  go_wp2_with fail
  refine (HLB.out _ (by exact hL) (by exact hX)).mono ?_
  rintro e w1 ⟨rfl, B1⟩
  go_wp2_with fail
  refine (HGL.out _ (by exact hS.below B1)).mono ?_
  rintro e w' ⟨rfl, q, rfl⟩
  go_wp2_with fail
  refine (clone_any _ _ _ S _ (by exact Rd.drew (hS.below B1) q) hK1 (by omega)).mono ?_
  rintro e w2 ⟨g, cp, rfl, hown, B2⟩
  have hB2 : Below w.heap.size w w2 := Below.trans (Below.drewN B1 q) (B2.mono B1.size)
  have hown2 := own_mono0 hown B1.size
  have hg := own_ge hown2
  clear hown B2 B1 hL hX hS
  go_wp2
  go_loopw [34] (fun i wr => ∃ (c : Nat) (Z : Nat → Nat), c ≤ K ∧ i = .int .i64 (c : Int) ∧ wr.ownsRow w.heap.size 43 1 (.slice (some ⟨g, 0, none⟩) K cp) K (rowOf Z K) ∧ LikeP Z (onT L X n K S c) K ∧ Below w.heap.size w wr ∧ Hid (∀ f, f < c → onM L X n K S f = true)) (fun i _ => K - (intOf i).toNat)
  case atStart => exact ⟨0, S, Nat.zero_le _, rfl, hown2, fun j hj => ⟨0, (pick_num (num_fin (finL_at HFS.out j hj)) 0).symm⟩, hB2, Lib.hid fun f hf => absurd hf (Nat.not_lt_zero _)⟩
  case round =>
    obtain ⟨c, Z, hc, rfl, hownc, hLc, hBc, HG⟩ := hrel
    clear hown2 hB2
    by_cases hlt : c < K
    · obtain ⟨T, hT⟩ : ∃ T, T = onT L X n K S c := ⟨_, rfl⟩
      rw [← hT] at hLc
      obtain ⟨mm, hmm⟩ : ∃ mm, mm = (finL T K && finL (mixR T X K) n) := ⟨_, rfl⟩
      obtain ⟨Q, hQ⟩ : ∃ Q, Q = dotW (X c) (X c) n := ⟨_, rfl⟩
      have HQ := Lib.hid hQ
      have HM := Lib.hid (HMX.out Z T hLc.like (some ⟨g, 0, none⟩) cp mm hmm wr hBc (rd_own hownc))
      rw [mixR_like hLc.like] at HM
      have HT := Lib.hid hT
      have HGn := Lib.hid (fun (hz : (mm && gt0 Q) = false) => show ok = false by
        rw [ho.out, onOk_bad HFS.out hlt]
        rw [onM, ← hT, ← hQ, ← hz, hmm, Bool.and_assoc])
      have HGy := Lib.hid (fun (h1 : mm = true) (h2 : gt0 Q = true) => show onM L X n K S c = true ∧ finL (mixR T X K) n = true by
        rw [hmm, Bool.and_eq_true] at h1
        exact ⟨by rw [onM, ← hT, ← hQ, h1.2, h2]; rfl, h1.2⟩)
      have hc1 := (HX.out wr hBc c hlt).1
      have hi0 : (c : Int) < (K : Int) := by omega
      have hop := order_pick_l .f32
      have HOc := Lib.hid hownc
      have HLc := Lib.hid hLc
      have HBc := Lib.hid hBc
      clear hmm hT hQ hownc hLc hBc
      go_wp2_with fail
      refine HM.out.mono ?_
      rintro e w1 ⟨v1, Y1, rfl, O1, L1, m1, B1⟩
      have hB1 : Below w.heap.size w w1 := HBc.out.trans (B1.mono HBc.out.size)
      have hsp := (HX.out w1 hB1 c hlt).2
      have HOf := Lib.hid (own_below HOc.out B1)
      have HB1 := Lib.hid hB1
      have HO1 := Lib.hid O1
      have HL1 := Lib.hid L1
      have HSp := Lib.hid (show Rd w1 (some ⟨rb c, ro c, none⟩) n (X c) from ⟨rb c, ro c, fun _ => rfl, hsp⟩)
      have HSQ := Lib.hid (fun hr => sumSq_any (some ⟨rb c, ro c, none⟩) n (rc c) (X c) w1 hr (by omega))
      rw [← HQ.out] at HSQ
      clear O1 L1 hB1 B1 hsp hc1
      cases hz : (mm && gt0 Q)
      · have HN := Lib.hid (show ∀ w', Below w.heap.size w w' → LstRet (onT L X n K S K) m ok w (.returned (.tuple #[.slice none 0 0, .bool false])) w' from fun w' hb => by
          rw [hm.out, HGn.out hz, if_neg (by simp)]; exact lstNo hb)
        cases mm
        · clear hz
          go_wp2_with (go_at_call 78; refine (HSQ.out HSp.out).mono ?_; rintro e w' ⟨s1, q1, rfl, rfl⟩)
          go_ret2
          refine HN.out _ ?_
          exact Below.drewN HB1.out _
        · have hz' : (FloatKind.f32.format.order Q 0 == some .gt) = false := by rw [Bool.true_and] at hz; exact hz
          clear hz
          go_wp2_with (go_at_call 78; refine (HSQ.out HSp.out).mono ?_; rintro e w' ⟨s1, q1, rfl, rfl⟩)
          go_ret2
          refine HN.out _ ?_
          exact Below.drewN HB1.out _
      · rw [Bool.and_eq_true] at hz
        obtain ⟨hz1, hz2⟩ := hz
        subst hz1
        have hz' : (FloatKind.f32.format.order Q 0 == some .gt) = true := hz2
        have HGG := Lib.hid (HGy.out rfl hz2)
        clear hz2
        obtain ⟨ym, cm, rfl, _, _, Rm⟩ := rd_of_own HO1.out
        have hL1 := HL1.out
        rw [if_pos rfl] at Rm hL1 ⊢
        have hl1 : Rd w1 la n L := HLr.out.below HB1.out
        go_wp2_with (go_at_call 78; refine (HSQ.out HSp.out).mono ?_; rintro e w' ⟨s1, q1, rfl, rfl⟩)
        refine (les_any la ym n cl cm L Y1 _ (by exact hl1) (by exact Rm) (by omega)).mono ?_
        rintro e w3 ⟨v3, W3, rfl, O3, L3, B3⟩
        obtain ⟨wm, c3, rfl, _, _, R3⟩ := rd_of_own O3
        have hLW : Like W3 (lesR L (mixR T X K)) n := fun j hj => by
          have h1 := L3.like j hj
          rw [h1]
          unfold lesR
          rw [fbin_congr rfl (hL1 j hj)]
        obtain ⟨A, hA⟩ : ∃ A, A = onA L X n K T c := ⟨_, rfl⟩
        have hdot : dotW (X c) W3 n = A := by rw [hA, onA]; exact dotX_like n (fun _ _ => rfl) hLW
        have hB3' : Below w1.heap.size w1 w3 := Below.trans (Below.drewN (Below.refl _ w1) q1) B3
        have hsp3 := HSp.out.below hB3'
        have HO3 := Lib.hid (own_below HOf.out hB3')
        have HB3 := Lib.hid (HB1.out.trans (hB3'.mono HB1.out.size))
        have HD3 := Lib.hid (DotNumbers_any (some ⟨rb c, ro c, none⟩) wm n (rc c) c3 (X c) W3 w3 hsp3 R3 (by omega))
        rw [hdot] at HD3
        clear O3 L3 B3 R3 hLW hdot hB3' hsp3 hl1 hL1 Rm
        go_wp2_with fail
        refine HD3.out.mono ?_
        rintro e w4 ⟨s4, q4, rfl, rfl⟩
        obtain ⟨sT, hsT⟩ := HLc.out c hlt
        obtain ⟨U, hU⟩ : ∃ U, fbin .quo .f32 A Q = U := ⟨_, rfl⟩
        obtain ⟨W, hW⟩ : ∃ W, fbin .add .f32 (Z c) U = W := ⟨_, rfl⟩
        have HW := Lib.hid (show onX L X n K T c = W by rw [onX, ← hA, ← HQ.out, hU, ← hW, hsT, fbin_pick_l])
        have hcl := own_cell HO3.out hlt
        have st := fun q u => own_store HO3.out hlt q u
        have st2 := fun q u v => own_store0 (own_stored (own_drew HO3.out q) c u) hlt v
        have hp := fun op => fbin_pick_l op .f32
        have hq := fun op => fbin_pick_r op .f32
        have HNx := Lib.hid (show ∀ V, onV L X n K T c = V → ∀ Y : Nat → Nat, (∀ j, j < K → j ≠ c → Y j = Z j) → (∃ s, Y c = pick .f32 V s) → LikeP Y (onT L X n K S (c + 1)) K from fun V hV Y hY hYc j hj => by
          show ∃ s, Y j = pick .f32 (if j = c then onV L X n K (onT L X n K S c) c else onT L X n K S c j) s
          rw [← HT.out, hV]
          by_cases e : j = c
          · rw [if_pos e, e]; exact hYc
          · rw [if_neg e, hY j hj e]; exact HLc.out j hj)
        have HR := Lib.hid (show ∀ f, f < c + 1 → onM L X n K S f = true from fun f hf => by
          by_cases hf' : f < c
          · exact HG.out f hf'
          · rw [show f = c by omega]; exact HGG.out.1)
        clear hA hsT
        cases hz0 : ltZ W
        · have hz0' : (FloatKind.f32.format.order W 0 == some .lt) = false := hz0
          have HVx := Lib.hid (show onV L X n K T c = W by unfold onV; rw [HW.out, hz0, if_neg (by simp)])
          clear hz0
          go_wp2_with ((with_reducible refine wpL_fbin ?_); refine ⟨_, _, _, rfl, rfl, rfl, fun s n => ?_⟩)
          go_roundw
          case rel =>
            exact ⟨c + 1, _, by omega, by go_num, own_stored (own_drew HO3.out _) c _, HNx.out W HVx.out _ (fun j _ h => by simp only [if_neg h]) ⟨_, by simp only [if_true]; rfl⟩, Below.setCell (Below.drewN HB3.out _) hg _, HR⟩
          case measure => simp [intOf]; omega
        · have hz0' : (FloatKind.f32.format.order W 0 == some .lt) = true := hz0
          have HVx := Lib.hid (show onV L X n K T c = 0 by unfold onV; rw [HW.out, hz0, if_pos rfl])
          clear hz0
          go_wp2_with ((with_reducible refine wpL_fbin ?_); refine ⟨_, _, _, rfl, rfl, rfl, fun s n => ?_⟩)
          go_roundw
          case rel =>
            exact ⟨c + 1, _, by omega, by go_num, own_stored (own_stored (own_drew HO3.out _) c _) c _, HNx.out 0 HVx.out _ (fun j _ h => by simp only [if_neg h]) ⟨0, by simp only [if_true]; exact (pick_zero 0).symm⟩, Below.setCell (Below.setCell (Below.drewN HB3.out _) hg _) hg _, HR⟩
          case measure => simp [intOf]; omega
    · have hcK : c = K := by omega
      subst hcK
      have HK := Lib.hid (show ok = finL (onT L X n c S c) c by rw [ho.out, onOk_fin HG.out])
      have HF2 := Lib.hid (show LstRet (onT L X n c S c) (if finL (onT L X n c S c) c = true then c else 0) (finL (onT L X n c S c) c) w = LstRet (onT L X n c S c) m ok w by rw [hm.out, HK.out])
      go_wp2_with fail
      refine (onlyFinite_any _ _ c Z _ (by exact hownc) (by omega)).mono ?_
      rintro e w4 ⟨rfl, q3, rfl⟩
      have HV := Lib.hid (lstGive (w := w) hLc.like hownc (by omega) hBc)
      clear hLc hownc
      cases hfz : finL Z c
      · rw [hfz] at HV
        go_wp2
        go_ret2
        rw [← HF2.out]
        obtain ⟨a, b, h3, h4, h5, h6, h7⟩ := HV.out
        exact ⟨a, b, h3, h4, h5, h6, Below.drewN h7 _⟩
      · rw [hfz] at HV
        go_wp2
        go_ret2
        rw [← HF2.out]
        obtain ⟨a, b, h3, h4, h5, h6, h7⟩ := HV.out
        exact ⟨a, b, h3, h4, h5, h6, Below.drewN h7 _⟩
end Go.Proofs.Ytehlflldnihamab
