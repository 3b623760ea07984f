/- Shares made better once: what the model tells. -/
import Derived.Test.YtehlflldnihamabOnc
namespace Go.Proofs.Ytehlflldnihamab
open Go Go.ChangeShapes Go.WideShapes Go.ChangeAt Go.RowKit

def okCan (L : Nat → Nat) (n K : Nat) (N : Nat → Nat) (X : Nat → Nat → Nat) : Bool := okSpc K N X && decide (K ≤ 6) && okTwo L n (X 0) (N 0)
theorem okCan_at {L : Nat → Nat} {n K : Nat} {N : Nat → Nat} {X : Nat → Nat → Nat} (h : okCan L n K N X = true) : okSpc K N X = true ∧ K ≤ 6 ∧ okLst L n = true ∧ n = N 0 := by
  unfold okCan at h
  simp only [Bool.and_eq_true, decide_eq_true_eq] at h
  have := okTwo_at h.2
  exact ⟨h.1.1, h.1.2, this.1, this.2.2⟩
set_option maxRecDepth 100000 in
set_option maxHeartbeats 1600000 in
theorem l07Can_any (la : Option Addr) (n cl : Nat) (L : Nat → Nat) (xa : Option Addr) (K cap : Nat) (N : Nat → Nat) (X : Nat → Nat → Nat) (w : World) (hL : Rd w la n L) (hX : RdR w xa K N X) (hn : n ≤ 1048576) (h : K + totN N K ≤ 1048576) (b : Bool) (hb : Hid (b = okCan L n K N X)) :
    Calls Try.prog 73 #[.slice la n cl, .slice xa K cap] w fun e w' => e = .returned (.bool b) ∧ ∃ q, w' = w.drewN q := by
  obtain ⟨t, ht⟩ : ∃ t, t = okSpc K N X := ⟨_, rfl⟩
  have HT := Lib.hid (specSpc_any xa K cap N X w hX h t (Lib.hid ht))
  have HB := Lib.hid (show b = (t && decide (K ≤ 6) && okTwo L n (X 0) (N 0)) by rw [hb.out, okCan, ht])
  clear hb
  cases t
  · have HN := Lib.hid (show false = b by rw [HB.out]; rfl)
    clear ht
    go_enter Try.func73, Try.ntmps73
    go_wp2_with (go_at_call 59; refine HT.out.mono ?_; rintro e w' ⟨rfl, q, rfl⟩)
    go_ret
    exact ⟨ret_bool HN.out, _, rfl⟩
  · have hK := okSpc_at ht.symm
    clear ht
    by_cases h6 : K ≤ 6
    · have d6 : decide ((K : Int) ≤ 6) = true := decide_eq_true (by omega)
      obtain ⟨xb, xo, hxa, hcx⟩ := hX
      have e := hxa (by omega)
      subst e
      obtain ⟨a, c, h1, _, ra⟩ := hcx 0 (by omega)
      rw [Nat.add_zero] at h1
      have hN0 := totN_le (N := N) K 0 (by omega)
      have hi1 : (0 : Int) < (K : Int) := by omega
      have hi2 : 0 < K := by omega
      obtain ⟨u, hu⟩ : ∃ u, u = okTwo L n (X 0) (N 0) := ⟨_, rfl⟩
      have HE := Lib.hid (fun q => specTwo_any la n cl L a (N 0) c (X 0) (w.drewN q) hL ra hn (by omega) u (Lib.hid hu))
      have HN := Lib.hid (show u = b by rw [HB.out, decide_eq_true h6, ← hu]; rfl)
      clear hK hcx hxa hu
      go_enter Try.func73, Try.ntmps73
      go_wp2_with (go_at_call 59; refine HT.out.mono ?_; rintro e w' ⟨rfl, q, rfl⟩)
      refine (HE.out _).mono ?_
      rintro e w' ⟨rfl, q2, rfl⟩
      go_wp2
      go_ret
      exact ⟨ret_bool HN.out, _, rfl⟩
    · have d6 : decide ((K : Int) ≤ 6) = false := decide_eq_false (by omega)
      have HN := Lib.hid (show false = b by rw [HB.out, decide_eq_false h6]; rfl)
      clear hK
      go_enter Try.func73, Try.ntmps73
      go_wp2_with (go_at_call 59; refine HT.out.mono ?_; rintro e w' ⟨rfl, q, rfl⟩)
      go_ret
      exact ⟨ret_bool HN.out, _, rfl⟩
def okUmo (L : Nat → Nat) (n K : Nat) (N : Nat → Nat) (X : Nat → Nat → Nat) (k : Nat) (S : Nat → Nat) : Bool := okCan L n K N X && decide ((k : Int) = (K : Int)) && gL S k
theorem isGl {x : Nat} (hf : isFin .f32 x = true) : isG x = !ltZ x := isG_fin hf
theorem gL_at' {X : Nat → Nat} {n : Nat} (h : gL X n = true) : ∀ j, j < n → isG (X j) = true := fun j hj => by
  unfold gL at h
  rw [List.all_eq_true] at h
  exact h j (by simpa using hj)
theorem gL_yes' {X : Nat → Nat} {n : Nat} (h : ∀ j, j < n → isG (X j) = true) : gL X n = true := by
  unfold gL
  rw [List.all_eq_true]
  intro j hj
  exact h j (by simpa using hj)
theorem gL_none' {X : Nat → Nat} {n k : Nat} (hk : k < n) (h : isG (X k) = false) : gL X n = false := by
  cases hg : gL X n
  · rfl
  · rw [gL_at' hg k hk] at h; cases h
theorem gL_fin' {X : Nat → Nat} {n : Nat} (h : gL X n = true) : finL X n = true := finL_yes fun j hj => by
  have := gL_at' h j hj
  unfold isG at this
  rw [Bool.and_eq_true] at this
  exact this.1
set_option maxRecDepth 100000 in
set_option maxHeartbeats 3200000 in
theorem specUmo_any (la : Option Addr) (n cl : Nat) (L : Nat → Nat) (xa : Option Addr) (K cap : Nat) (N : Nat → Nat) (X : Nat → Nat → Nat) (sa : Option Addr) (k cs : Nat) (S : Nat → Nat) (w : World) (hL : Rd w la n L) (hX : RdR w xa K N X) (hS : Rd w sa k S) (hn : n ≤ 1048576) (h : K + totN N K ≤ 1048576) (hk0 : k ≤ 1048576) (ok : Bool) (ho : Hid (ok = (okUmo L n K N X k S && onOk L X n K S))) (m : Nat) (hm : Hid (m = if ok = true then K else 0)) :
    Calls Try.prog 32 #[.slice la n cl, .slice xa K cap, .slice sa k cs] w (LstRet (onT L X n K S K) m ok w) := by
  obtain ⟨i0, hi, hz0, hz1, hz2⟩ := info_parts infoF
  have HNO := Lib.hid (fun (h : ok = false) w' (hb : Below w.heap.size w w') => show LstRet (onT L X n K S K) m ok w (.returned (.tuple #[.slice none 0 0, .bool false])) w' by
    rw [hm.out, h, if_neg (by simp)]; exact lstNo hb)
  obtain ⟨t, ht⟩ : ∃ t, t = okCan L n K N X := ⟨_, rfl⟩
  have HT := Lib.hid (fun w hL hX => l07Can_any la n cl L xa K cap N X w hL hX hn h t (Lib.hid ht))
  cases t
  · have HN := Lib.hid (HNO.out (by rw [ho.out, okUmo, ← ht]; rfl))
    clear ht
    go_enter Try.func32, Try.ntmps32
    go_wp2_with (go_at_call 73; refine (HT.out _ (by exact hL) (by exact hX)).mono ?_; rintro e w' ⟨rfl, q, rfl⟩)
    go_ret2
    refine HN.out _ ?_
    (repeat (first | with_reducible exact Below.refl _ _ | with_reducible refine Below.drewN ?_ _ | with_reducible refine Below.setCell ?_ (by simp; try omega) _ | with_reducible refine Below.alloc ?_ (by simp; try omega) _))
  · by_cases hkK : k = K
    · subst hkK
      have hne : ((k : Int) != (k : Int)) = false := by simp
      have HM := Lib.hid (show ok = (gL S k && onOk L X n k S) by rw [ho.out, okUmo, ← ht, decide_eq_true rfl]; rfl)
      obtain ⟨h1, h6, h2, h3⟩ := okCan_at ht.symm
      have hk1 := (okSpc_at h1).1
      have HON := Lib.hid (fun (hfs : finL S k = true) g cs' w1 (hB : Below w.heap.size w w1) hown => l07Once_any la cl L xa k cap N X g cs' n S w w1 hL hX hB hown h1 h h3 (okLst_at h2).1 hfs _ (Lib.hid rfl))
      have hS0 := hS
      obtain ⟨sb, so, hsa, hcs⟩ := hS
      have e := hsa (by omega)
      subst e
      have HS := Lib.hid hcs
      clear ht hcs h1 h2 h3 hsa
      go_enter Try.func32, Try.ntmps32
      go_wp2_with (go_at_call 73; refine (HT.out _ (by exact hL) (by exact hX)).mono ?_; rintro e w' ⟨rfl, q, rfl⟩)
      go_loopw [23] (fun i wr => ∃ c mm : Nat, c ≤ k ∧ i = .int .i64 (c : Int) ∧ wr = w.drewN mm ∧ Hid (∀ j, j < c → isG (S j) = true)) (fun i _ => k - (intOf i).toNat)
      case atStart => exact ⟨0, _, Nat.zero_le _, rfl, rfl, Lib.hid fun j hj => absurd hj (Nat.not_lt_zero _)⟩
      case round =>
        obtain ⟨c, mm, hc, rfl, rfl, HF⟩ := hrel
        by_cases hlt : c < k
        · have c1 := HS.out c hlt
          cases hf : isFin .f32 (S c)
          · have HN := Lib.hid (HNO.out (by rw [HM.out, gL_none' hlt (isG_no hf)]; rfl))
            go_wp2_with (first | (go_at_call 74; refine (l01Finite_any _ _).mono ?_; rintro e w' ⟨rfl, q, rfl⟩))
            go_ret2
            refine HN.out _ ?_
            (repeat (first | with_reducible exact Below.refl _ _ | with_reducible refine Below.drewN ?_ _ | with_reducible refine Below.setCell ?_ (by simp; try omega) _ | with_reducible refine Below.alloc ?_ (by simp; try omega) _))
          · cases hz : ltZ (S c)
            · have hz' : (FloatKind.f32.format.order (S c) 0 == some .lt) = false := hz
              have HN := Lib.hid (show ∀ j, j < c + 1 → isG (S j) = true from fun j hj => by
                by_cases hj' : j < c
                · exact HF.out j hj'
                · rw [show j = c by omega, isGl hf, hz]; rfl)
              clear hz
              go_wp2_with (first | (go_at_call 74; refine (l01Finite_any _ _).mono ?_; rintro e w' ⟨rfl, q, rfl⟩))
              go_roundw
              case rel => exact ⟨c + 1, _, by omega, by go_num, rfl, HN⟩
              case measure => simp [intOf]; omega
            · have hz' : (FloatKind.f32.format.order (S c) 0 == some .lt) = true := hz
              have HN := Lib.hid (HNO.out (by rw [HM.out, gL_none' hlt (by rw [isGl hf, hz]; rfl)]; rfl))
              clear hz
              go_wp2_with (first | (go_at_call 74; refine (l01Finite_any _ _).mono ?_; rintro e w' ⟨rfl, q, rfl⟩))
              go_ret2
              refine HN.out _ ?_
              (repeat (first | with_reducible exact Below.refl _ _ | with_reducible refine Below.drewN ?_ _ | with_reducible refine Below.setCell ?_ (by simp; try omega) _ | with_reducible refine Below.alloc ?_ (by simp; try omega) _))
        · have hck : c = k := by omega
          subst hck
          have hg := gL_yes' HF.out
          have HC := Lib.hid (HON.out (gL_fin' hg))
          have HK := Lib.hid (show ok = onOk L X n c S by rw [HM.out, hg, Bool.true_and])
          clear hg
          go_wp2_with (at_builtin; refine wpL_copy0 hi hz0 hz1 hz2 rfl rfl rfl rfl (Rd.below (by exact hS0) ((Below.drewN (Below.refl _ _) mm).alloc (Nat.le_refl _) _)) hk1 (by omega) ?_; intro v0 w1 hown hB1)
          have hB : Below w.heap.size w w1 := ((Below.drewN (Below.refl _ w) mm).alloc (Nat.le_refl _) (.cells #[] 43)).trans (hB1.mono (by simp))
          replace hown := own_mono0 hown (B' := w.heap.size) (by simp)
          obtain ⟨g, cp, rfl⟩ : ∃ g cap, v0 = .slice (some ⟨g, 0, none⟩) c cap := by
            rcases hown.2 with ⟨_, h2⟩ | ⟨g, cp, cur, h1, _⟩
            · omega
            · exact ⟨g, cp, h1⟩
          clear hB1
          have HO2 := Lib.hid (HC.out g cp w1 hB hown)
          obtain ⟨t2, ht2⟩ : ∃ t2, t2 = onOk L X n c S := ⟨_, rfl⟩
          rw [← ht2] at HO2 HK
          clear ht2 hown hB
          cases t2
          · have HN := Lib.hid (HNO.out HK.out)
            go_wp2_with fail
            refine HO2.out.mono ?_
            rintro e w2 ⟨rfl, hb2, _⟩
            go_wp2
            go_ret2
            exact HN.out _ hb2
          · have HZ := Lib.hid (show m = c by rw [hm.out, HK.out, if_pos rfl])
            go_wp2_with fail
            refine HO2.out.mono ?_
            rintro e w2 ⟨rfl, hb2, ho2⟩
            have ho3 := ho2 (by first | rfl | trivial)
            clear ho2
            go_wp2
            go_ret2
            rw [HZ.out, HK.out]
            exact lstYes (fun _ _ => rfl) ho3 (by omega) hb2
    · have hne : ((k : Int) != (K : Int)) = true := by simpa using (by omega : ¬ (k : Int) = (K : Int))
      have HN := Lib.hid (HNO.out (by rw [ho.out, okUmo, decide_eq_false (show ¬ ((k : Int) = (K : Int)) by omega), Bool.and_false]; rfl))
      clear ht hkK
      go_enter Try.func32, Try.ntmps32
      go_wp2_with (go_at_call 73; refine (HT.out _ (by exact hL) (by exact hX)).mono ?_; rintro e w' ⟨rfl, q, rfl⟩)
      go_ret2
      refine HN.out _ ?_
      (repeat (first | with_reducible exact Below.refl _ _ | with_reducible refine Below.drewN ?_ _ | with_reducible refine Below.setCell ?_ (by simp; try omega) _ | with_reducible refine Below.alloc ?_ (by simp; try omega) _))
end Go.Proofs.Ytehlflldnihamab
