import Derived.Test.YtchpnjihhncfmaaFinL
import Derived.Test.YtchpnjihhncfmaaNu5
import Derived.Test.YtchpnjihhncfmaaNf
import Derived.Test.YtchpnjihhncfmaaOut
import Derived.Deep.QuietTactic
import Derived.Deep.RegionWith
import Derived.Test.YtchpnjihhncfmaaMg4
import Derived.Test.YtchpnjihhncfmaaLes
import Derived.Test.YtchpnjihhncfmaaLt5
namespace Go.Proofs.Ytchpnjihhncfmaa
open Go Go.ChangeShapes Go.WideShapes Go.ChangeAt Go.RowKit
/- The sum of the squares of a list, as the program makes it (of XDot, for seats that lack the rest). -/

def FltRet (R : Nat) (w : World) (e : Ending) (w' : World) : Prop := ∃ s m, e = .returned (.float .f32 (pick .f32 R s)) ∧ w' = w.drewN m
theorem pick_zero (s : Nat) : pick .f32 0 s = 0 := pick_num (by decide +kernel) s
def dotW (X Y : Nat → Nat) : Nat → Nat
  | 0 => 0
  | k + 1 => fbin .add .f32 (dotW X Y k) (fbin .mul .f32 (X k) (Y k))
theorem dotW_succ (X Y : Nat → Nat) (k : Nat) : fbin .add .f32 (dotW X Y k) (fbin .mul .f32 (X k) (Y k)) = dotW X Y (k + 1) := rfl
theorem mul32_run (t : TypeId) (x y : Nat) (w : World) : (binOp .mul t (.float .f32 x) (.float .f32 y)).run Try.prog w = .ok (.float .f32 (pick .f32 (fbin .mul .f32 x y) (sdb w .f32 x y))) (w.drewN (nd .f32 (fbin .mul .f32 x y))) := run_binop rfl t .f32 x y w
theorem add32_run (t : TypeId) (x y : Nat) (w : World) : (binOp .add t (.float .f32 x) (.float .f32 y)).run Try.prog w = .ok (.float .f32 (pick .f32 (fbin .add .f32 x y) (sdb w .f32 x y))) (w.drewN (nd .f32 (fbin .add .f32 x y))) := run_binop rfl t .f32 x y w
set_option maxHeartbeats 1600000 in
theorem sumSq_any (xa : Option Addr) (n cx : Nat) (X : Nat → Nat) (w : World) (hX : Rd w xa n X) (hn : n ≤ 1048576) :
    Calls Try.prog 101 #[.slice xa n cx] w (FltRet (dotW X X n) w) := by
  obtain ⟨xb, xo, hxa, hcx⟩ := hX
  have HX := Lib.hid hcx
  clear hcx
  go_enter Try.func101, Try.ntmps101
  go_wp2
  go_loopw [3, 8] (fun q i wr => ∃ k m s : Nat, k ≤ n ∧ i = .int .i64 k ∧ wr = w.drewN m ∧ q = .float .f32 (pick .f32 (dotW X X k) s)) (fun _ i _ => n - (intOf i).toNat)
  case atStart => exact ⟨0, 0, 0, Nat.zero_le _, rfl, rfl, by rw [show dotW X X 0 = 0 from rfl, pick_zero]⟩
  case round =>
    obtain ⟨k, m, s, hk, rfl, rfl, rfl⟩ := hrel
    by_cases hlt : k < n
    · have e := hxa (by omega)
      subst e
      have h1 := HX.out k hlt
      have hp := fbin_pick_l .add .f32
      have hq := fbin_pick_r .add .f32
      have hd := dotW_succ X X k
      obtain ⟨D, hD⟩ : ∃ D, D = dotW X X k := ⟨_, rfl⟩
      rw [← hD] at hd
      have HD := Lib.hid hD
      have HE := Lib.hid hd
      rw [← HD.out]
      clear hD hd
      go_wp2_with ((with_reducible refine wpL_fbin ?_); refine ⟨_, _, _, rfl, rfl, rfl, fun s n => ?_⟩)
      go_roundw
      case rel => exact ⟨k + 1, _, _, by omega, by go_num, rfl, by rw [← HE.out]⟩
      case measure => simp [intOf]; omega
    · have hkn : k = n := by omega
      subst hkn
      go_wp2
      go_ret
      exact ⟨s, m, rfl, rfl⟩
/-- A sum of squares, one of which is no number. -/
theorem nf_dot {X : Nat → Nat} {j : Nat} (h : isFin .f32 (X j) = false) : ∀ n, j < n → isFin .f32 (dotW X X n) = false := by
  intro n
  induction n with
  | zero => intro h; omega
  | succ n ih =>
    intro hj
    by_cases e : j = n
    · subst e; exact nf_add_r (nf_sq h)
    · exact nf_add_l (ih (by omega))
theorem dotW_like {V r : Nat → Nat} : ∀ n, Like V r n → dotW V V n = dotW r r n := by
  intro n
  induction n with
  | zero => intro _; rfl
  | succ n ih =>
    intro h
    have h1 := h n (Nat.lt_succ_self n)
    show fbin .add .f32 (dotW V V n) (fbin .mul .f32 (V n) (V n)) = fbin .add .f32 (dotW r r n) (fbin .mul .f32 (r n) (r n))
    rw [ih (fun j hj => h j (by omega)), fbin_congr h1 h1]

/- What lines leave of a list: as the model tells it. -/

def fitOk (X : Nat → Ln) (n : Nat) (Y : Nat → Nat) (N a b : Nat) : Bool := (((allLn X n && decide (n ≤ 12)) && okLst Y N) && isFin .f32 a) && isFin .f32 b
set_option maxRecDepth 100000 in
set_option maxHeartbeats 1600000 in
theorem l05Fit_any (xa ya : Option Addr) (n cx N cy : Nat) (X : Nat → Ln) (Y : Nat → Nat) (a b : Nat) (w : World) (hX : RdN w xa n X) (hY : Rd w ya N Y) (hn : n ≤ 1048576) (hN : N ≤ 1048576) (R : Bool) (hR : Hid (R = fitOk X n Y N a b)) :
    Calls Try.prog 98 #[.slice xa n cx, .slice ya N cy, .float .f32 a, .float .f32 b] w fun e w' => e = .returned (.bool R) ∧ ∃ m, w' = w.drewN m := by
  obtain ⟨L, hL⟩ : ∃ L, L = (allLn X n && decide (n ≤ 12)) := ⟨_, rfl⟩
  obtain ⟨T, hT⟩ : ∃ T, T = okLst Y N := ⟨_, rfl⟩
  have HL := Lib.hid (fun w hX => l05Lines_any xa n cx X w hX hn L (Lib.hid hL))
  have HT := Lib.hid (fun w hY => specLst_any ya N cy Y w hY hN T (Lib.hid hT))
  have hR' : R = (((L && T) && isFin .f32 a) && isFin .f32 b) := by rw [hR.out, fitOk, hL, hT]
  clear hR hL hT
  cases L
  · have HQ := Lib.hid (show false = R by rw [hR']; rfl)
    clear hR'
    go_enter Try.func98, Try.ntmps98
    go_wp2_with (first | (go_at_call 89; refine (HL.out _ (by exact hX)).mono ?_; rintro e w' ⟨rfl, q, rfl⟩) | (go_at_call 107; refine (HT.out _ (by exact hY)).mono ?_; rintro e w' ⟨rfl, q, rfl⟩) | (first | (go_at_call 79; refine (l01Finite_any _ _).mono ?_; rintro e w' ⟨rfl, q, rfl⟩)))
    go_ret
    exact ⟨ret_bool HQ.out, _, rfl⟩
  · cases T
    · have HQ := Lib.hid (show false = R by rw [hR']; rfl)
      clear hR'
      go_enter Try.func98, Try.ntmps98
      go_wp2_with (first | (go_at_call 89; refine (HL.out _ (by exact hX)).mono ?_; rintro e w' ⟨rfl, q, rfl⟩) | (go_at_call 107; refine (HT.out _ (by exact hY)).mono ?_; rintro e w' ⟨rfl, q, rfl⟩) | (first | (go_at_call 79; refine (l01Finite_any _ _).mono ?_; rintro e w' ⟨rfl, q, rfl⟩)))
      go_ret
      exact ⟨ret_bool HQ.out, _, rfl⟩
    · cases d : isFin .f32 a
      · have HQ := Lib.hid (show false = R by rw [hR', d]; rfl)
        clear hR'
        go_enter Try.func98, Try.ntmps98
        go_wp2_with (first | (go_at_call 89; refine (HL.out _ (by exact hX)).mono ?_; rintro e w' ⟨rfl, q, rfl⟩) | (go_at_call 107; refine (HT.out _ (by exact hY)).mono ?_; rintro e w' ⟨rfl, q, rfl⟩) | (first | (go_at_call 79; refine (l01Finite_any _ _).mono ?_; rintro e w' ⟨rfl, q, rfl⟩)))
        go_ret
        exact ⟨ret_bool HQ.out, _, rfl⟩
      · have HQ := Lib.hid (show isFin .f32 b = R by rw [hR', d]; rfl)
        clear hR'
        go_enter Try.func98, Try.ntmps98
        go_wp2_with (first | (go_at_call 89; refine (HL.out _ (by exact hX)).mono ?_; rintro e w' ⟨rfl, q, rfl⟩) | (go_at_call 107; refine (HT.out _ (by exact hY)).mono ?_; rintro e w' ⟨rfl, q, rfl⟩) | (first | (go_at_call 79; refine (l01Finite_any _ _).mono ?_; rintro e w' ⟨rfl, q, rfl⟩)))
        go_ret
        exact ⟨ret_bool HQ.out, _, rfl⟩
def rsR (X : Nat → Ln) (n a b : Nat) (Y : Nat → Nat) : Nat → Nat := lesR Y (spR X n a b)
def rsD (X : Nat → Ln) (n a b : Nat) (Y : Nat → Nat) (N : Nat) : Nat := dotW (rsR X n a b Y) (rsR X n a b Y) N
theorem rsD_succ (X : Nat → Ln) (n a b : Nat) (Y : Nat → Nat) (k : Nat) : fbin .add .f32 (rsD X n a b Y k) (fbin .mul .f32 (fbin .sub .f32 (Y k) (spR X n a b k)) (fbin .sub .f32 (Y k) (spR X n a b k))) = rsD X n a b Y (k + 1) := rfl
/-- The sum, and whether it is told; a sum that is not finite comes as it is. -/
def RstRet (D : Nat) (t : Bool) (w : World) (e : Ending) (w' : World) : Prop := ∃ v m, e = .returned (.tuple #[.float .f32 v, .bool (t && isFin .f32 D)]) ∧ ((t && isFin .f32 D) = true → v = D) ∧ w' = w.drewN m
set_option maxRecDepth 100000 in
set_option maxHeartbeats 3200000 in
theorem l05Rest_any (xa ya : Option Addr) (n cx N cy : Nat) (X : Nat → Ln) (Y : Nat → Nat) (a b : Nat) (w : World) (hX : RdN w xa n X) (hY : Rd w ya N Y) (hn : n ≤ 1048576) (hN : N ≤ 1048576) (t : Bool) (ht : Hid (t = spB X n a b N)) :
    Calls Try.prog 99 #[.slice xa n cx, .slice ya N cy, .float .f32 a, .float .f32 b] w (RstRet (rsD X n a b Y N) t w) := by
  obtain ⟨yb, yo, hya, hcy⟩ := hY
  have HY := Lib.hid hcy
  clear hcy
  have hp := fun op => fbin_pick_l op .f32
  have hq := fun op => fbin_pick_r op .f32
  have hip := isFin_pick .f32
  obtain ⟨D, hD⟩ : ∃ D, D = rsD X n a b Y N := ⟨_, rfl⟩
  rw [← hD]
  have HD := Lib.hid hD
  clear hD
  go_enter Try.func99, Try.ntmps99
  go_wp2
  go_loopw [10, 17] (fun v i wr => ∃ k m s : Nat, k ≤ N ∧ i = .int .i64 k ∧ wr = w.drewN m ∧ v = .float .f32 (pick .f32 (rsD X n a b Y k) s) ∧ Hid (∀ j, j < k → lsB X n (plc a b j) = true)) (fun _ i _ => N - (intOf i).toNat)
  case atStart => exact ⟨0, 0, 0, Nat.zero_le _, rfl, rfl, by rw [show rsD X n a b Y 0 = 0 from rfl, pick_zero], Lib.hid fun j hj => absurd hj (Nat.not_lt_zero _)⟩
  case round =>
    obtain ⟨k, m, s, hk, rfl, rfl, rfl, HF⟩ := hrel
    by_cases hlt : k < N
    · have e := hya (by omega)
      subst e
      have hy1 := HY.out k hlt
      have HP := Lib.hid (fun w => l05Place_any a b k w)
      have HV := Lib.hid (fun s w hX => specLs_any xa n cx X (plc a b k) s w hX hn)
      have hXk : RdN (w.drewN m) xa n X := hX
      have hd := rsD_succ X n a b Y k
      obtain ⟨P, hP⟩ : ∃ P, P = plc a b k := ⟨_, rfl⟩
      obtain ⟨V, hV⟩ : ∃ V, V = lsV X n P := ⟨_, rfl⟩
      obtain ⟨A, hA⟩ : ∃ A, A = rsD X n a b Y k := ⟨_, rfl⟩
      rw [show spR X n a b k = V by rw [spR, ← hP, hV], ← hA] at hd
      have HA := Lib.hid hA
      have HE := Lib.hid hd
      cases g : lsB X n P
      · have HN := Lib.hid (show ∀ m, RstRet D t w (.returned (.tuple #[.float .f32 0, .bool false])) (w.drewN m) from fun m => by
          have e0 : t = false := by rw [ht.out, spB_no hlt (by rw [← hP]; exact g)]
          exact ⟨0, m, by rw [e0]; rfl, (fun h => by rw [e0] at h; cases h), rfl⟩)
        rw [← hP] at HP HV
        rw [g, ← hV] at HV
        clear g hV hP hd hA
        go_wp2_with (first | (go_at_call 154; refine (HP.out _).mono ?_; rintro e w' ⟨s1, q, rfl, rfl⟩) | (go_at_call 37; refine (HV.out _ _ (by exact hXk)).mono ?_; rintro e w' ⟨rfl, q2, rfl⟩))
        go_ret2
        exact HN.out _
      · have HG := Lib.hid (show ∀ j, j < k + 1 → lsB X n (plc a b j) = true from fun j hj => by
          by_cases hj' : j < k
          · exact HF.out j hj'
          · rw [show j = k by omega, ← hP]; exact g)
        rw [← hP] at HP HV
        rw [g, ← hV] at HV
        rw [← HA.out]
        clear g hV hP hd hA
        go_wp2_with (first | (go_at_call 154; refine (HP.out _).mono ?_; rintro e w' ⟨s1, q, rfl, rfl⟩) | (go_at_call 37; refine (HV.out _ _ (by exact hXk)).mono ?_; rintro e w' ⟨rfl, q2, rfl⟩) | ((with_reducible refine wpL_fbin ?_); refine ⟨_, _, _, rfl, rfl, rfl, fun s n => ?_⟩))
        go_roundw
        case rel => exact ⟨k + 1, _, _, by omega, by go_num, rfl, by rw [HE.out], HG⟩
        case measure => simp [intOf]; omega
    · have hkn : k = N := by omega
      subst hkn
      rw [← HD.out]
      have HN := Lib.hid (show ∀ m, RstRet D t w (.returned (.tuple #[.float .f32 (pick .f32 D s), .bool (isFin .f32 D)])) (w.drewN m) from fun m => by
        have e0 : t = true := by rw [ht.out, spB_yes HF.out]
        exact ⟨_, m, by rw [e0]; rfl, (fun h => by rw [e0] at h; exact pick_num (num_fin (by simpa using h)) s), rfl⟩)
      go_wp2_with (first | (go_at_call 79; refine (l01Finite_any _ _).mono ?_; rintro e w' ⟨rfl, q, rfl⟩))
      go_ret2
      exact HN.out _

/- What lines leave of a list: both sides. -/

def rsK (X : Nat → Ln) (n : Nat) (Y : Nat → Nat) (N a b : Nat) : Bool := fitOk X n Y N a b && spB X n a b N
def rsV (X : Nat → Ln) (n : Nat) (Y : Nat → Nat) (N a b : Nat) : Nat := if rsK X n Y N a b = true then numQ (rsD X n a b Y N) else 0
def rsB (X : Nat → Ln) (n : Nat) (Y : Nat → Nat) (N a b : Nat) : Bool := rsK X n Y N a b && isFin .f32 (rsD X n a b Y N)
theorem rsV_num (X : Nat → Ln) (n : Nat) (Y : Nat → Nat) (N a b s : Nat) : pick .f32 (rsV X n Y N a b) s = rsV X n Y N a b := by
  unfold rsV numQ
  split
  · split
    · rename_i h; exact pick_num (num_fin h) s
    · exact pick_nul s
  · exact pick_nul s
set_option maxRecDepth 100000 in
set_option maxHeartbeats 1600000 in
theorem specRestOf_any (xa ya : Option Addr) (n cx N cy : Nat) (X : Nat → Ln) (Y : Nat → Nat) (a b : Nat) (w : World) (hX : RdN w xa n X) (hY : Rd w ya N Y) (hn : n ≤ 1048576) (hN : N ≤ 1048576) (R : Nat) (ok : Bool) (hR : Hid (R = rsV X n Y N a b)) (ho : Hid (ok = rsB X n Y N a b)) :
    Calls Try.prog 44 #[.slice xa n cx, .slice ya N cy, .float .f32 a, .float .f32 b] w fun e w' => e = .returned (.tuple #[.float .f32 R, .bool ok]) ∧ Below w.heap.size w w' := by
  have HF := Lib.hid (fun w hX hY => l05Fit_any xa ya n cx N cy X Y a b w hX hY hn hN _ (Lib.hid rfl))
  cases f : fitOk X n Y N a b
  · rw [f] at HF
    have HR := Lib.hid (show (.returned (.tuple #[.float .f32 0, .bool false]) : Ending) = .returned (.tuple #[.float .f32 R, .bool ok]) by rw [hR.out, ho.out, rsV, rsB, rsK, f]; simp)
    clear f hR ho
    go_enter Try.func44, Try.ntmps44
    go_wp2_with (go_at_call 98; refine (HF.out _ (by exact hX) (by exact hY)).mono ?_; rintro e w' ⟨rfl, q, rfl⟩)
    go_ret2
    refine ⟨HR.out, ?_⟩
    (repeat (first | with_reducible exact Below.refl _ _ | with_reducible refine Below.drewN ?_ _ | with_reducible refine Below.setCell ?_ (by simp; try omega) _ | with_reducible refine Below.alloc ?_ (by simp; try omega) _))
  · rw [f] at HF
    obtain ⟨t, ht⟩ : ∃ t, t = spB X n a b N := ⟨_, rfl⟩
    have HT := Lib.hid (fun w hX hY => l05Rest_any xa ya n cx N cy X Y a b w hX hY hn hN t (Lib.hid ht))
    obtain ⟨D, hD⟩ : ∃ D, D = rsD X n a b Y N := ⟨_, rfl⟩
    rw [← hD] at HT
    cases g : (t && isFin .f32 D)
    · have HR := Lib.hid (show (.returned (.tuple #[.float .f32 0, .bool false]) : Ending) = .returned (.tuple #[.float .f32 R, .bool ok]) by
        rw [hR.out, ho.out, rsV, rsB, rsK, f, Bool.true_and, ← ht, ← hD, g]
        cases t
        · simp
        · rw [Bool.true_and] at g
          simp [numQ, g])
      clear f hR ho ht hD
      go_enter Try.func44, Try.ntmps44
      go_wp2_with (first | (go_at_call 98; refine (HF.out _ (by exact hX) (by exact hY)).mono ?_; rintro e w' ⟨rfl, q, rfl⟩) | (go_at_call 99; refine (HT.out _ (by exact hX) (by exact hY)).mono ?_; rintro e w' ⟨v, m, rfl, hv, rfl⟩; clear hv; rw [g]))
      go_ret2
      refine ⟨HR.out, ?_⟩
      (repeat (first | with_reducible exact Below.refl _ _ | with_reducible refine Below.drewN ?_ _ | with_reducible refine Below.setCell ?_ (by simp; try omega) _ | with_reducible refine Below.alloc ?_ (by simp; try omega) _))
    · have HR := Lib.hid (show (.returned (.tuple #[.float .f32 D, .bool true]) : Ending) = .returned (.tuple #[.float .f32 R, .bool ok]) by
        rw [hR.out, ho.out, rsV, rsB, rsK, f, Bool.true_and, ← ht, ← hD, g]
        rw [Bool.and_eq_true] at g
        rw [g.1, if_pos rfl]
        simp [numQ, g.2])
      clear f hR ho ht hD
      go_enter Try.func44, Try.ntmps44
      go_wp2_with (first | (go_at_call 98; refine (HF.out _ (by exact hX) (by exact hY)).mono ?_; rintro e w' ⟨rfl, q, rfl⟩) | (go_at_call 99; refine (HT.out _ (by exact hX) (by exact hY)).mono ?_; rintro e w' ⟨v, m, rfl, hv, rfl⟩; have ev := hv g; subst ev; clear hv; rw [g]))
      go_ret2
      refine ⟨HR.out, ?_⟩
      (repeat (first | with_reducible exact Below.refl _ _ | with_reducible refine Below.drewN ?_ _ | with_reducible refine Below.setCell ?_ (by simp; try omega) _ | with_reducible refine Below.alloc ?_ (by simp; try omega) _))
set_option maxRecDepth 100000 in
set_option maxHeartbeats 3200000 in
theorem implRestOf_any (xa ya : Option Addr) (n cx N cy : Nat) (X : Nat → Ln) (Y : Nat → Nat) (a b : Nat) (w : World) (hX : RdN w xa n X) (hY : Rd w ya N Y) (hn : n ≤ 1048576) (hN : N ≤ 1048576) (R : Nat) (ok : Bool) (hR : Hid (R = rsV X n Y N a b)) (ho : Hid (ok = rsB X n Y N a b)) :
    Calls Try.prog 45 #[.slice xa n cx, .slice ya N cy, .float .f32 a, .float .f32 b] w fun e w' => e = .returned (.tuple #[.float .f32 R, .bool ok]) ∧ Below w.heap.size w w' := by
  have HS := Lib.hid ((sp_both X n a b (N : Int) hn).2)
  obtain ⟨L, hL⟩ : ∃ L, L = okLst Y N := ⟨_, rfl⟩
  have HT := Lib.hid (fun w hY => implLst_any ya N cy Y w hY hN L (Lib.hid hL))
  cases s : spOk X n a b (N : Int)
  · have hk : rsK X n Y N a b = false := by
      rw [spOk, Int.toNat_natCast] at s
      rw [rsK, fitOk]
      cases h1 : okLst Y N
      · simp
      · have h2 : inB (N : Int) 1 128 = true := by
          have := okLst_at h1
          exact inB_yes (by omega) (by omega)
        rw [h2] at s
        revert s
        cases (allLn X n && decide (n ≤ 12)) <;> cases isFin .f32 a <;> cases isFin .f32 b <;> simp
    have HR := Lib.hid (show (.returned (.tuple #[.float .f32 0, .bool false]) : Ending) = .returned (.tuple #[.float .f32 R, .bool ok]) by rw [hR.out, ho.out, rsV, rsB, hk]; simp)
    rw [s] at HS
    clear s hk hR ho hL
    go_enter Try.func45, Try.ntmps45
    go_wp2_with (go_at_call 42; refine (HS.out _ _ _ (by exact hX)).mono ?_; rintro e w1 ⟨v, Z, rfl, O1, _, B1⟩)
    go_ret2
    exact ⟨HR.out, B1⟩
  · have hs := s
    rw [spOk, Int.toNat_natCast] at hs
    simp only [Bool.and_eq_true, decide_eq_true_eq] at hs
    have hM : spM X n a b (N : Int) = N := by rw [spM, if_pos s, Int.toNat_natCast]
    rw [s, hM] at HS
    cases L
    · have HR := Lib.hid (show (.returned (.tuple #[.float .f32 0, .bool false]) : Ending) = .returned (.tuple #[.float .f32 R, .bool ok]) by rw [hR.out, ho.out, rsV, rsB, rsK, fitOk, ← hL]; simp)
      clear s hs hM hR ho hL
      go_enter Try.func45, Try.ntmps45
      go_wp2_with (first | (go_at_call 42; refine (HS.out _ _ _ (by exact hX)).mono ?_; rintro e w1 ⟨v, Z, rfl, O1, _, B1⟩; have hY1 := hY.below B1) | (go_at_call 100; refine (HT.out _ (by exact hY1)).mono ?_; rintro e w' ⟨rfl, q, rfl⟩))
      go_ret2
      exact ⟨HR.out, Below.drewN B1 _⟩
    · have hk : rsK X n Y N a b = true := by
        rw [rsK, fitOk, ← hL, hs.2.2, hs.1.2.1, hs.1.2.2, hs.1.1.1, decide_eq_true hs.1.1.2]
        rfl
      obtain ⟨D, hD⟩ : ∃ D, D = rsD X n a b Y N := ⟨_, rfl⟩
      have HR := Lib.hid (show ∀ s, (.returned (.tuple #[.float .f32 (pick .f32 (numQ D) s), .bool (isFin .f32 D)]) : Ending) = .returned (.tuple #[.float .f32 R, .bool ok]) from fun s => by
        rw [hR.out, ho.out, ← rsV_num X n Y N a b s, rsV, rsB, if_pos hk, hk, hD, Bool.true_and])
      have HD := Lib.hid hD
      have HQ := Lib.hid (fun s w => numI_any D s w)
      clear s hs hM hR ho hL hk hD
      go_enter Try.func45, Try.ntmps45
      go_wp2_with (first | (go_at_call 42; refine (HS.out _ _ _ (by exact hX)).mono ?_; rintro e w1 ⟨v, Z, rfl, O1, L1, B1⟩; have hY1 := hY.below B1; obtain ⟨xz, cz, rfl, _, _, Rz⟩ := rd_of_own O1; clear O1) | (go_at_call 100; refine (HT.out _ (by exact hY1)).mono ?_; rintro e w' ⟨rfl, q, rfl⟩))
      refine (les_any _ _ _ _ _ Y Z _ (by exact hY1) (by exact Rz) hN).mono ?_
      rintro e w2 ⟨v2, Z2, rfl, O2, L2, B2⟩
      obtain ⟨xz2, cz2, rfl, _, _, Rz2⟩ := rd_of_own O2
      clear O2
      have hDD : dotW Z2 Z2 N = D := by
        rw [HD.out]
        exact dotW_like N fun j hj => (L2.like j hj).trans (by rw [lesR, rsR, lesR, fbin_congr rfl (L1 j hj)])
      go_wp2_with fail
      refine (sumSq_any _ N _ Z2 _ (by exact Rz2) hN).mono ?_
      rw [hDD]
      rintro e w3 ⟨s3, m3, rfl, rfl⟩
      clear hDD
      go_wp2_with (go_at_call 87; refine (HQ.out _ _).mono ?_; rintro e w' ⟨s4, m4, rfl, rfl⟩)
      go_ret2
      have B3 := (Below.drewN B1 q).trans (B2.mono B1.size)
      exact ⟨HR.out _, Below.drewN B3 _⟩

/- Of any lines, list, place and step the program tells what the lines leave of the list just where the model does, and the same; the lines and the list are not changed: for all arguments. -/

set_option maxRecDepth 100000 in
set_option maxHeartbeats 6400000 in
theorem lawRestOf_any (W : World) (xa : Option Addr) (n cap : Nat) (X : Nat → Ln) (hX : RdN W xa n X) (hmx : n ≤ maxLen) (_ : ∀ i, i < n → (X i).wf) (ya : Option Addr) (N cy : Nat) (Y : Nat → Nat) (hY : Rd W ya N Y) (a : Nat) (_ : (Lit.float .f32 a).wf = true) (b : Nat) (_ : (Lit.float .f32 b).wf = true) :
    Calls Try.prog 10 #[.slice xa n cap, .slice ya N cy, .float .f32 a, .float .f32 b] W fun e w' => e = .returned (.bool true) ∧ Below W.heap.size W w' := by
  by_cases hN : N ≤ 1048576
  · by_cases hn : n ≤ 1048576
    · obtain ⟨R, hR⟩ : ∃ R, R = rsV X n Y N a b := ⟨_, rfl⟩
      obtain ⟨ok, ho⟩ : ∃ ok, ok = rsB X n Y N a b := ⟨_, rfl⟩
      have HS := Lib.hid (fun xa cx ya cy w hX hY => specRestOf_any xa ya n cx N cy X Y a b w hX hY hn hN R ok (Lib.hid hR) (Lib.hid ho))
      have HI := Lib.hid (fun xa cx ya cy w hX hY => implRestOf_any xa ya n cx N cy X Y a b w hX hY hn hN R ok (Lib.hid hR) (Lib.hid ho))
      clear hR ho
      have hne : (ok != ok) = false := by simp
      have hcv := fun (t : Nat) => show canon .f64 (pick .f64 (fconv .f32 R .f64) t) = canon .f64 (fconv .f32 R .f64) by rw [canon_pick]
      have HCV := Lib.hid hcv
      clear hcv
      have hs1 : (0 : Int) ≤ 1048576 - n := by omega
      have hs2 : ¬ (1048576 : Int) < (N : Int) := by omega
      have hs3 : decide ((1048576 : Int) < (N : Int)) = false := decide_eq_false hs2
      have HB := Blw.refl W
      go_enter Try.func10, Try.ntmps10
      go_wp2_with (go_at_call 36; go_in)
      refine (toN_any _ _ _ X _ (by exact hX.below (Blw.out (by exact HB))) hn).mono ?_
      rintro e0 w0 ⟨rfl, O0, B0⟩
      replace HB := Blw.next (by exact HB) B0
      have T0 := rdN_own O0
      clear O0 B0
      go_wp2_with fail
      refine (toF_any _ _ _ Y _ (by exact hY.below (Blw.out (by exact HB))) hN).mono ?_
      rintro e0 w0 ⟨rfl, O0, B0⟩
      replace HB := Blw.next (by exact HB) B0
      have T1 := RdN.below T0 B0
      have U1 := rd_own O0
      clear O0 B0 T0
      go_wp2_with fail
      refine (HS.out _ _ _ _ _ (by exact T1) (by exact U1)).mono ?_
      rintro e0 w1 ⟨rfl, B0⟩
      replace HB := Blw.next (by exact HB) B0
      clear T1 U1 B0
      go_wp2_with fail
      refine (toN_any _ _ _ X _ (by exact hX.below (Blw.out (by exact HB))) hn).mono ?_
      rintro e0 w2 ⟨rfl, O0, B0⟩
      replace HB := Blw.next (by exact HB) B0
      have T0 := rdN_own O0
      clear O0 B0
      go_wp2_with fail
      refine (toF_any _ _ _ Y _ (by exact hY.below (Blw.out (by exact HB))) hN).mono ?_
      rintro e0 w0 ⟨rfl, O0, B0⟩
      replace HB := Blw.next (by exact HB) B0
      have T1 := RdN.below T0 B0
      have U1 := rd_own O0
      clear O0 B0 T0
      go_wp2_with fail
      refine (HI.out _ _ _ _ _ (by exact T1) (by exact U1)).mono ?_
      rintro e0 w3 ⟨rfl, B0⟩
      replace HB := Blw.next (by exact HB) B0
      have T2 := RdN.below T1 B0
      have U2 := Rd.below U1 B0
      clear T1 U1 B0
      go_wp2_with (first | ((with_reducible refine wpL_fconv ?_); refine ⟨_, _, _, rfl, Option.isSome_iff_exists.2 ⟨_, Try.underlying23⟩, Try.underlying44, FloatKind.noConfusion, convOk_widen _, fun s n => ?_⟩) | ((with_reducible refine wpL_fconv_g ?_); refine ⟨rfl, _, _, _, rfl, Option.isSome_iff_exists.2 ⟨_, Try.underlying23⟩, Try.underlying44, FloatKind.noConfusion, convOk_widen _, fun s n => ?_⟩))
      refine (sameFloat_any _ _ _ ((HCV.out _).trans (HCV.out _).symm)).mono ?_
      rintro e0 w4 ⟨rfl, q2, rfl⟩
      go_wp2_with fail
      refine (toN_any _ _ _ X _ (by exact hX.below (Below.drewN (Blw.out (by exact HB)) _)) hn).mono ?_
      rintro e0 w4 ⟨rfl, O0, B0⟩
      replace HB := Blw.next (Blw.next (by exact HB) (Below.drewN (Below.refl _ _) _)) B0
      have T4 := rdN_own O0
      have T3 := RdN.below (RdN.drew T2 _) B0
      have U3 := Rd.below (show Rd (w3.drewN _) _ _ _ from U2) B0
      clear O0 B0 T2 U2
      go_wp2_with fail
      refine (eqN_any _ _ _ _ _ X X _ (by exact T3) (by exact T4) hn (LikeN.refl _ _)).mono ?_
      rintro e0 w5 ⟨rfl, B0⟩
      replace HB := Blw.next (by exact HB) B0
      have U4 := Rd.below U3 B0
      clear B0 T3 T4 U3
      go_wp2_with fail
      refine (toF_any _ _ _ Y _ (by exact hY.below (Blw.out (by exact HB))) hN).mono ?_
      rintro e0 w0 ⟨rfl, O0, B0⟩
      replace HB := Blw.next (by exact HB) B0
      have U5 := Rd.below U4 B0
      have U6 := rd_own O0
      clear O0 B0 U4
      go_wp2_with fail
      refine (eqF_any _ _ _ _ _ Y Y _ (by exact U5) (by exact U6) hN (fun _ _ => rfl)).mono ?_
      rintro e0 w0 ⟨rfl, q, rfl⟩
      go_wp2
      go_ret
      exact ⟨rfl, Below.drewN (Blw.out (by exact HB)) _⟩
    · unfold maxLen at hmx
      have h' : (1048576 : Int) - (n : Int) < 0 := by omega
      have hs2 : ¬ (1048576 : Int) < (N : Int) := by omega
      have hs3 : decide ((1048576 : Int) < (N : Int)) = false := decide_eq_false hs2
      go_enter Try.func10, Try.ntmps10
      go_wp2_with (go_at_call 36; go_in)
      go_ret
      exact ⟨rfl, (Blw.refl W).out⟩
  · have h' : (1048576 : Int) < (N : Int) := by omega
    go_enter Try.func10, Try.ntmps10
    go_wp2
    go_ret
    exact ⟨rfl, (Blw.refl W).out⟩
set_option maxRecDepth 100000 in
theorem FnExactRestOf_lifted (os : Os) (started : os.Started) (H : Type) (enc : TypeId × Value → H) :
    ReturnsInHanded {} Try.checked os 10 .any (Rows.fnExactRestOfSpec.pre6 enc Try.prog Try.f10 Rows.fnExactRestOfRow.domain false) (Rows.fnExactRestOfSpec.post enc Try.prog Try.f10 false true false false) := by
  refine returnsInHanded_of_change (C := Try.checked) ownKnob_none started (by kernel_rfl) Try.func10
    (ChangeSpec.witness6 (enc := enc) (C := Try.checked) false ⟨#[], #[.slice none 0 0, .slice none 0 0, .float .f32 0, .float .f32 0], []⟩ 8 (by kernel_rfl) (by kernel_rfl) (by kernel_rfl) (by kernel_rfl)) ?_
  intro W base args ds gs before hval0 hW _ _
  have hval : ∀ (j : Nat) t v, Try.f10.params[j]? = some t → args[j]? = some v → Value.okWide Try.prog W .any base t v := hval0
  have hW' := hW
  obtain ⟨p, q, hA0, hV, rfl, _, _⟩ := hW
  have hA : DataW.TrodAll enc Try.prog W 0 (fun _ => true) true Try.f10.params.toList args.toList ds p := hA0
  rw [Try.params10] at hA hval
  obtain ⟨v0, v1, v2, v3, d0, d1, d2, d3, p0, p1, p2, p3, rfl, rfl, rfl, h0, h1, h2, h3⟩ := trodAll_four hA
  obtain ⟨rfl, rfl⟩ := trodVars_none hV
  obtain ⟨x0, n0, c0, rfl⟩ := okWide_slice Try.underlying46 (hval 0 46 v0 rfl rfl)
  have k0 := h0
  obtain ⟨lc0, cm0, a0, w0, g0⟩ := open_lins h0
  have b0 : ∀ x ∈ p0, x.block < W.heap.size := fun x hx => by have := hW'.lt x (by simp [hx]); simpa using this
  obtain ⟨x1, n1, c1, rfl⟩ := okWide_slice Try.underlying22 (hval 1 22 v1 rfl rfl)
  have k1 := h1
  obtain ⟨_, _, a1, w1, _⟩ := open_f32s Try.underlying22 Try.underlying23 cellsF h1
  have b1 : ∀ x ∈ p1, x.block < W.heap.size := fun x hx => by have := hW'.lt x (by simp [hx]); simpa using this
  obtain ⟨a2, rfl, rfl, rfl, w2⟩ := open_float Try.underlying23 (hval 2 23 v2 rfl rfl) h2
  obtain ⟨a3, rfl, rfl, rfl, w3⟩ := open_float Try.underlying23 (hval 3 23 v3 rfl rfl) h3
  clear hA0 hval0
  refine (lawRestOf_any W x0 n0 c0 a0 w0 (Nat.le_trans lc0 cm0) g0 x1 n1 c1 a1 w1 a2 w2 a3 w3).mono fun e W' ⟨he, hb⟩ => ?_
  subst he
  have hA2 := trodAll_mk4 (enc := enc) (w := W') (base := 0) (spare := fun b => decide (b < W.heap.size)) (held := true) (Below.trod laidOut (by kernel_rfl) (of_decide_eq_true (by kernel_rfl)) k0 hb b0) (Below.trod laidOut (by kernel_rfl) (of_decide_eq_true (by kernel_rfl)) k1 hb b1) (shut_float Try.underlying23 w2) (shut_float Try.underlying23 w3)
  exact ⟨_, rfl, _, _, _, [], _, [], hW', trodAll_cons_mk (shut_bool Try.underlying4 _) trodAll_mk0, hA2, rfl, hb.frame _, fun h => by cases h⟩
theorem FnExactRestOf_holds : Rows.FnExactRestOfSaid :=
  OpenClaim.holds_of_wide 10 Try.f10 rfl rfl rfl rfl rfl rfl rfl ⟨rfl, rfl, rfl, rfl, rfl⟩ rfl rfl rfl rfl rfl (by kernel_rfl) Try.func10 (by kernel_rfl)
    (of_decide_eq_true (by kernel_rfl)) (by unfold Func.isWrapper; first | (rw [if_pos (by decide +kernel)]; kernel_rfl) | (rw [if_neg (by decide +kernel)]; exact ⟨rfl, rfl⟩))
    (fun os started H enc _ => FnExactRestOf_lifted os started H enc)

end Go.Proofs.Ytchpnjihhncfmaa
