
import Derived.Test.YtmpcalpapkedhaaArr
import Derived.Test.YtmpcalpapkedhaaQ5
import Derived.Test.YtmpcalpapkedhaaNu5
import Derived.Test.YtmpcalpapkedhaaFinL
import Derived.Test.YtmpcalpapkedhaaIn
import Derived.Test.YtmpcalpapkedhaaNf
import Derived.Test.YtmpcalpapkedhaaOut
import Derived.Deep.QuietTactic
import Derived.Deep.RegionWith
import Derived.Test.YtmpcalpapkedhaaMg4
namespace Go.Proofs.Ytmpcalpapkedhaa
open Go Go.ChangeShapes Go.WideShapes Go.ChangeAt Go.RowKit
/- A list less another one, number by number, as the program makes it. -/

def lesR (X Y : Nat → Nat) (j : Nat) : Nat := fbin .sub .f32 (X j) (Y j)
/-- A list of the call's own. -/
def OwnRet (R : Nat → Nat) (n : Nat) (w : World) (e : Ending) (w' : World) : Prop := ∃ v X, e = .returned v ∧ w'.ownsRow w.heap.size 22 1 v n (rowOf X n) ∧ LikeP X R n ∧ Below w.heap.size w w'
set_option maxRecDepth 100000 in
set_option maxHeartbeats 3200000 in
theorem les_any (xa ya : Option Addr) (n cx cy : Nat) (X Y : Nat → Nat) (w : World) (hX : Rd w xa n X) (hY : Rd w ya n Y) (hn : n ≤ 1048576) :
    Calls Try.prog 198 #[.slice xa n cx, .slice ya n cy] w (OwnRet (lesR X Y) n w) := by
  obtain ⟨i0, hi, hz0, hz1, hz2⟩ := info_parts infoF
  obtain ⟨xb, xo, hxa, hcx⟩ := hX
  obtain ⟨yb, yo, hya, hcy⟩ := hY
  have HX := Lib.hid hcx
  have HY := Lib.hid hcy
  clear hcx hcy
  have hb : i0.bytes * n ≤ 281474976710656 := by rw [hz2]; omega
  have hm : n ≤ maxLen := by unfold maxLen; omega
  go_enter Try.func198, Try.ntmps198
  go_wp2_with (at_make; refine wpList_make_full _ rfl _ _ 33 rfl w.heap.size 22 i0 (.float .f32 0) 1 Try.underlying33 hi hz0 hz1 _ _ _ _ n rfl rfl rfl rfl hb hm (Nat.le_refl _) ?_)
  intro w1 hown hgr
  rw [madeF] at hown
  have hB : Below w.heap.size w w1 := (Below.refl _ w).grown hgr (Nat.le_refl _) (fun _ h => by cases h)
  clear hgr hb hm hi hz0 hz1 hz2
  go_wp2
  go_loopw [13] (fun i wr => ∃ (k : Nat) (Z : Nat → Nat), k ≤ n ∧ i = .int .i64 k ∧ wr.ownsRow w.heap.size 22 1 (.slice (some ⟨w.heap.size, 0, none⟩) n n) n (rowOf Z n) ∧ LikeP Z (lesR X Y) k ∧ Below w.heap.size w wr) (fun i _ => n - (intOf i).toNat)
  case atStart => exact ⟨0, fun _ => 0, Nat.zero_le _, rfl, hown, fun _ h => absurd h (Nat.not_lt_zero _), hB⟩
  case round =>
    obtain ⟨k, Z, hk, rfl, hownk, hL, hBk⟩ := hrel
    clear hown hB
    by_cases hlt : k < n
    · have e := hxa (by omega)
      subst e
      have e := hya (by omega)
      subst e
      have c0x := HX.out k hlt
      have c0y := HY.out k hlt
      have c1x := (hBk.cell (p := ⟨xb, xo + k, none⟩) (World.block_lt_of_cell? w _ c0x)).trans c0x
      have c1y := (hBk.cell (p := ⟨yb, yo + k, none⟩) (World.block_lt_of_cell? w _ c0y)).trans c0y
      clear c0x c0y
      have st := fun q u => own_store hownk hlt q u
      have HO := Lib.hid hownk
      have HLk := Lib.hid hL
      clear hownk hL
      go_wp2_with ((with_reducible refine wpL_fbin ?_); refine ⟨_, _, _, rfl, rfl, rfl, fun s n => ?_⟩)
      go_roundw
      case rel => exact ⟨k + 1, _, by omega, by go_num, own_stored (own_drew HO.out _) k _, HLk.out.push rfl, Below.setCell (Below.drewN hBk _) (Nat.le_refl _) _⟩
      case measure => simp [intOf]; omega
    · have hkn : k = n := by omega
      subst hkn
      go_wp2
      go_ret
      exact ⟨_, Z, rfl, hownk, hL, hBk⟩

/- Lists of 1 to 128 finite numbers: as the model asks it, and as the program does. -/

def okLst (X : Nat → Nat) (n : Nat) : Bool := finL X n && inB (n : Int) 1 128
theorem okLst_at {X : Nat → Nat} {n : Nat} (h : okLst X n = true) : finL X n = true ∧ 1 ≤ n ∧ n ≤ 128 := by
  unfold okLst at h
  rw [Bool.and_eq_true] at h
  have := inB_rng h.2
  exact ⟨h.1, by omega, by omega⟩
set_option maxRecDepth 100000 in
set_option maxHeartbeats 1600000 in
theorem specLst_any (xa : Option Addr) (n cap : Nat) (X : Nat → Nat) (w : World) (hX : Rd w xa n X) (hn : n ≤ 1048576) (b : Bool) (hb : Hid (b = okLst X n)) :
    Calls Try.prog 139 #[.slice xa n cap] w fun e w' => e = .returned (.bool b) ∧ ∃ m, w' = w.drewN m := by
  obtain ⟨xb, xo, hxa, hcx⟩ := hX
  have HX := Lib.hid hcx
  clear hcx
  go_enter Try.func139, Try.ntmps139
  go_wp2
  go_loopw [6] (fun i wr => ∃ k m : Nat, k ≤ n ∧ i = .int .i64 k ∧ wr = w.drewN m ∧ Hid (∀ j, j < k → isFin .f32 (X j) = true)) (fun i _ => n - (intOf i).toNat)
  case atStart => exact ⟨0, 0, Nat.zero_le _, rfl, rfl, Lib.hid fun j hj => absurd hj (Nat.not_lt_zero _)⟩
  case round =>
    obtain ⟨k, m, hk, rfl, rfl, HF⟩ := hrel
    by_cases hlt : k < n
    · have e := hxa (by omega)
      subst e
      have h1 := HX.out k hlt
      cases hf : isFin .f32 (X k)
      · have HN := Lib.hid (show b = false by rw [hb.out, okLst, finL_no hlt hf]; rfl)
        clear hb
        go_wp2_with (go_at_call 94; refine (l01Finite_any _ _).mono ?_; rintro e w' ⟨rfl, q, rfl⟩)
        go_ret
        exact ⟨ret_bool HN.out.symm, _, rfl⟩
      · have HN := Lib.hid (show ∀ j, j < k + 1 → isFin .f32 (X j) = true from fun j hj => by
          by_cases hj' : j < k
          · exact HF.out j hj'
          · rw [show j = k by omega]; exact hf)
        go_wp2_with (go_at_call 94; refine (l01Finite_any _ _).mono ?_; rintro e w' ⟨rfl, q, rfl⟩)
        go_roundw
        case rel => exact ⟨k + 1, _, by omega, by go_num, rfl, HN⟩
        case measure => simp [intOf]; omega
    · have hkn : k = n := by omega
      subst hkn
      have HN := Lib.hid (show b = inB (k : Int) 1 128 by rw [hb.out, okLst, finL_yes HF.out]; rfl)
      clear hb
      by_cases h3 : 1 ≤ k
      · by_cases h4 : k ≤ 128
        · have HQ := Lib.hid (show true = b by rw [HN.out, inB_yes (by omega) (by omega)])
          have d2 : decide ((k : Int) ≤ 128) = true := decide_eq_true (by omega)
          go_wp2
          go_ret
          exact ⟨ret_bool HQ.out, m, rfl⟩
        · have HQ := Lib.hid (show false = b by rw [HN.out, inB_hi (by omega)])
          have d2 : decide ((k : Int) ≤ 128) = false := decide_eq_false (by omega)
          go_wp2
          go_ret
          exact ⟨ret_bool HQ.out, m, rfl⟩
      · have HQ := Lib.hid (show false = b by rw [HN.out, inB_lo (by omega)])
        go_wp2
        go_ret
        exact ⟨ret_bool HQ.out, m, rfl⟩
set_option maxRecDepth 100000 in
set_option maxHeartbeats 1600000 in
theorem implLst_any (xa : Option Addr) (n cap : Nat) (X : Nat → Nat) (w : World) (hX : Rd w xa n X) (hn : n ≤ 1048576) (b : Bool) (hb : Hid (b = okLst X n)) :
    Calls Try.prog 131 #[.slice xa n cap] w fun e w' => e = .returned (.bool b) ∧ ∃ m, w' = w.drewN m := by
  by_cases h3 : 1 ≤ n
  · by_cases h4 : n ≤ 128
    · have HQ := Lib.hid (show finL X n = b by rw [hb.out, okLst, inB_yes (by omega) (by omega), Bool.and_true])
      have d2 : decide ((n : Int) ≤ 128) = true := decide_eq_true (by omega)
      clear hb
      go_enter Try.func131, Try.ntmps131
      go_wp2_with (go_at_call 97; refine (allFinite_any _ _ _ X _ hX hn).mono ?_; rintro e w' ⟨rfl, q, rfl⟩)
      go_ret
      exact ⟨ret_bool HQ.out, _, rfl⟩
    · have HQ := Lib.hid (show false = b by rw [hb.out, okLst, inB_hi (by omega), Bool.and_false])
      have d2 : decide ((n : Int) ≤ 128) = false := decide_eq_false (by omega)
      clear hb hX
      go_enter Try.func131, Try.ntmps131
      go_wp2
      go_ret
      exact ⟨ret_bool HQ.out, 0, rfl⟩
  · have HQ := Lib.hid (show false = b by rw [hb.out, okLst, inB_lo (by omega), Bool.and_false])
    clear hb hX
    go_enter Try.func131, Try.ntmps131
    go_wp2
    go_ret
    exact ⟨ret_bool HQ.out, 0, rfl⟩

/- The sum of the squares of a list, as the program makes it (of XDot, for seats that lack the rest). -/

def FltRet (R : Nat) (w : World) (e : Ending) (w' : World) : Prop := ∃ s m, e = .returned (.float .f32 (pick .f32 R s)) ∧ w' = w.drewN m
theorem pick_zero (s : Nat) : pick .f32 0 s = 0 := pick_num (by decide +kernel) s
def dotW (X Y : Nat → Nat) : Nat → Nat
  | 0 => 0
  | k + 1 => fbin .add .f32 (dotW X Y k) (fbin .mul .f32 (X k) (Y k))
theorem dotW_succ (X Y : Nat → Nat) (k : Nat) : fbin .add .f32 (dotW X Y k) (fbin .mul .f32 (X k) (Y k)) = dotW X Y (k + 1) := rfl
theorem mul32_run (t : TypeId) (x y : Nat) (w : World) : (binOp .mul t (.float .f32 x) (.float .f32 y)).run Try.prog w = .ok (.float .f32 (pick .f32 (fbin .mul .f32 x y) (sdb w .f32 x y))) (w.drewN (nd .f32 (fbin .mul .f32 x y))) := run_binop rfl t .f32 x y w
theorem add32_run (t : TypeId) (x y : Nat) (w : World) : (binOp .add t (.float .f32 x) (.float .f32 y)).run Try.prog w = .ok (.float .f32 (pick .f32 (fbin .add .f32 x y) (sdb w .f32 x y))) (w.drewN (nd .f32 (fbin .add .f32 x y))) := run_binop rfl t .f32 x y w
set_option maxHeartbeats 1600000 in
theorem sumSq_any (xa : Option Addr) (n cx : Nat) (X : Nat → Nat) (w : World) (hX : Rd w xa n X) (hn : n ≤ 1048576) :
    Calls Try.prog 197 #[.slice xa n cx] w (FltRet (dotW X X n) w) := by
  obtain ⟨xb, xo, hxa, hcx⟩ := hX
  have HX := Lib.hid hcx
  clear hcx
  go_enter Try.func197, Try.ntmps197
  go_wp2
  go_loopw [3, 8] (fun q i wr => ∃ k m s : Nat, k ≤ n ∧ i = .int .i64 k ∧ wr = w.drewN m ∧ q = .float .f32 (pick .f32 (dotW X X k) s)) (fun _ i _ => n - (intOf i).toNat)
  case atStart => exact ⟨0, 0, 0, Nat.zero_le _, rfl, rfl, by rw [show dotW X X 0 = 0 from rfl, pick_zero]⟩
  case round =>
    obtain ⟨k, m, s, hk, rfl, rfl, rfl⟩ := hrel
    by_cases hlt : k < n
    · have e := hxa (by omega)
      subst e
      have h1 := HX.out k hlt
      have hp := fbin_pick_l .add .f32
      have hq := fbin_pick_r .add .f32
      have hd := dotW_succ X X k
      obtain ⟨D, hD⟩ : ∃ D, D = dotW X X k := ⟨_, rfl⟩
      rw [← hD] at hd
      have HD := Lib.hid hD
      have HE := Lib.hid hd
      rw [← HD.out]
      clear hD hd
      go_wp2_with ((with_reducible refine wpL_fbin ?_); refine ⟨_, _, _, rfl, rfl, rfl, fun s n => ?_⟩)
      go_roundw
      case rel => exact ⟨k + 1, _, _, by omega, by go_num, rfl, by rw [← HE.out]⟩
      case measure => simp [intOf]; omega
    · have hkn : k = n := by omega
      subst hkn
      go_wp2
      go_ret
      exact ⟨s, m, rfl, rfl⟩
/-- A sum of squares, one of which is no number. -/
theorem nf_dot {X : Nat → Nat} {j : Nat} (h : isFin .f32 (X j) = false) : ∀ n, j < n → isFin .f32 (dotW X X n) = false := by
  intro n
  induction n with
  | zero => intro h; omega
  | succ n ih =>
    intro hj
    by_cases e : j = n
    · subst e; exact nf_add_r (nf_sq h)
    · exact nf_add_l (ih (by omega))
theorem dotW_like {V r : Nat → Nat} : ∀ n, Like V r n → dotW V V n = dotW r r n := by
  intro n
  induction n with
  | zero => intro _; rfl
  | succ n ih =>
    intro h
    have h1 := h n (Nat.lt_succ_self n)
    show fbin .add .f32 (dotW V V n) (fbin .mul .f32 (V n) (V n)) = fbin .add .f32 (dotW r r n) (fbin .mul .f32 (r n) (r n))
    rw [ih (fun j hj => h j (by omega)), fbin_congr h1 h1]

/- What lines leave of a list: as the model tells it. -/

def fitOk (X : Nat → Ln) (n : Nat) (Y : Nat → Nat) (N a b : Nat) : Bool := (((allLn X n && decide (n ≤ 12)) && okLst Y N) && isFin .f32 a) && isFin .f32 b
set_option maxRecDepth 100000 in
set_option maxHeartbeats 1600000 in
theorem l05Fit_any (xa ya : Option Addr) (n cx N cy : Nat) (X : Nat → Ln) (Y : Nat → Nat) (a b : Nat) (w : World) (hX : RdN w xa n X) (hY : Rd w ya N Y) (hn : n ≤ 1048576) (hN : N ≤ 1048576) (R : Bool) (hR : Hid (R = fitOk X n Y N a b)) :
    Calls Try.prog 126 #[.slice xa n cx, .slice ya N cy, .float .f32 a, .float .f32 b] w fun e w' => e = .returned (.bool R) ∧ ∃ m, w' = w.drewN m := by
  obtain ⟨L, hL⟩ : ∃ L, L = (allLn X n && decide (n ≤ 12)) := ⟨_, rfl⟩
  obtain ⟨T, hT⟩ : ∃ T, T = okLst Y N := ⟨_, rfl⟩
  have HL := Lib.hid (fun w hX => l05Lines_any xa n cx X w hX hn L (Lib.hid hL))
  have HT := Lib.hid (fun w hY => specLst_any ya N cy Y w hY hN T (Lib.hid hT))
  have hR' : R = (((L && T) && isFin .f32 a) && isFin .f32 b) := by rw [hR.out, fitOk, hL, hT]
  clear hR hL hT
  cases L
  · have HQ := Lib.hid (show false = R by rw [hR']; rfl)
    clear hR'
    go_enter Try.func126, Try.ntmps126
    go_wp2_with (first | (go_at_call 93; refine (HL.out _ (by exact hX)).mono ?_; rintro e w' ⟨rfl, q, rfl⟩) | (go_at_call 139; refine (HT.out _ (by exact hY)).mono ?_; rintro e w' ⟨rfl, q, rfl⟩) | (first | (go_at_call 94; refine (l01Finite_any _ _).mono ?_; rintro e w' ⟨rfl, q, rfl⟩)))
    go_ret
    exact ⟨ret_bool HQ.out, _, rfl⟩
  · cases T
    · have HQ := Lib.hid (show false = R by rw [hR']; rfl)
      clear hR'
      go_enter Try.func126, Try.ntmps126
      go_wp2_with (first | (go_at_call 93; refine (HL.out _ (by exact hX)).mono ?_; rintro e w' ⟨rfl, q, rfl⟩) | (go_at_call 139; refine (HT.out _ (by exact hY)).mono ?_; rintro e w' ⟨rfl, q, rfl⟩) | (first | (go_at_call 94; refine (l01Finite_any _ _).mono ?_; rintro e w' ⟨rfl, q, rfl⟩)))
      go_ret
      exact ⟨ret_bool HQ.out, _, rfl⟩
    · cases d : isFin .f32 a
      · have HQ := Lib.hid (show false = R by rw [hR', d]; rfl)
        clear hR'
        go_enter Try.func126, Try.ntmps126
        go_wp2_with (first | (go_at_call 93; refine (HL.out _ (by exact hX)).mono ?_; rintro e w' ⟨rfl, q, rfl⟩) | (go_at_call 139; refine (HT.out _ (by exact hY)).mono ?_; rintro e w' ⟨rfl, q, rfl⟩) | (first | (go_at_call 94; refine (l01Finite_any _ _).mono ?_; rintro e w' ⟨rfl, q, rfl⟩)))
        go_ret
        exact ⟨ret_bool HQ.out, _, rfl⟩
      · have HQ := Lib.hid (show isFin .f32 b = R by rw [hR', d]; rfl)
        clear hR'
        go_enter Try.func126, Try.ntmps126
        go_wp2_with (first | (go_at_call 93; refine (HL.out _ (by exact hX)).mono ?_; rintro e w' ⟨rfl, q, rfl⟩) | (go_at_call 139; refine (HT.out _ (by exact hY)).mono ?_; rintro e w' ⟨rfl, q, rfl⟩) | (first | (go_at_call 94; refine (l01Finite_any _ _).mono ?_; rintro e w' ⟨rfl, q, rfl⟩)))
        go_ret
        exact ⟨ret_bool HQ.out, _, rfl⟩
def rsR (X : Nat → Ln) (n a b : Nat) (Y : Nat → Nat) : Nat → Nat := lesR Y (spR X n a b)
def rsD (X : Nat → Ln) (n a b : Nat) (Y : Nat → Nat) (N : Nat) : Nat := dotW (rsR X n a b Y) (rsR X n a b Y) N
theorem rsD_succ (X : Nat → Ln) (n a b : Nat) (Y : Nat → Nat) (k : Nat) : fbin .add .f32 (rsD X n a b Y k) (fbin .mul .f32 (fbin .sub .f32 (Y k) (spR X n a b k)) (fbin .sub .f32 (Y k) (spR X n a b k))) = rsD X n a b Y (k + 1) := rfl
/-- The sum, and whether it is told; a sum that is not finite comes as it is. -/
def RstRet (D : Nat) (t : Bool) (w : World) (e : Ending) (w' : World) : Prop := ∃ v m, e = .returned (.tuple #[.float .f32 v, .bool (t && isFin .f32 D)]) ∧ ((t && isFin .f32 D) = true → v = D) ∧ w' = w.drewN m
set_option maxRecDepth 100000 in
set_option maxHeartbeats 3200000 in
theorem l05Rest_any (xa ya : Option Addr) (n cx N cy : Nat) (X : Nat → Ln) (Y : Nat → Nat) (a b : Nat) (w : World) (hX : RdN w xa n X) (hY : Rd w ya N Y) (hn : n ≤ 1048576) (hN : N ≤ 1048576) (t : Bool) (ht : Hid (t = spB X n a b N)) :
    Calls Try.prog 195 #[.slice xa n cx, .slice ya N cy, .float .f32 a, .float .f32 b] w (RstRet (rsD X n a b Y N) t w) := by
  obtain ⟨yb, yo, hya, hcy⟩ := hY
  have HY := Lib.hid hcy
  clear hcy
  have hp := fun op => fbin_pick_l op .f32
  have hq := fun op => fbin_pick_r op .f32
  have hip := isFin_pick .f32
  obtain ⟨D, hD⟩ : ∃ D, D = rsD X n a b Y N := ⟨_, rfl⟩
  rw [← hD]
  have HD := Lib.hid hD
  clear hD
  go_enter Try.func195, Try.ntmps195
  go_wp2
  go_loopw [10, 17] (fun v i wr => ∃ k m s : Nat, k ≤ N ∧ i = .int .i64 k ∧ wr = w.drewN m ∧ v = .float .f32 (pick .f32 (rsD X n a b Y k) s) ∧ Hid (∀ j, j < k → lsB X n (plc a b j) = true)) (fun _ i _ => N - (intOf i).toNat)
  case atStart => exact ⟨0, 0, 0, Nat.zero_le _, rfl, rfl, by rw [show rsD X n a b Y 0 = 0 from rfl, pick_zero], Lib.hid fun j hj => absurd hj (Nat.not_lt_zero _)⟩
  case round =>
    obtain ⟨k, m, s, hk, rfl, rfl, rfl, HF⟩ := hrel
    by_cases hlt : k < N
    · have e := hya (by omega)
      subst e
      have hy1 := HY.out k hlt
      have HP := Lib.hid (fun w => l05Place_any a b k w)
      have HV := Lib.hid (fun s w hX => specLs_any xa n cx X (plc a b k) s w hX hn)
      have hXk : RdN (w.drewN m) xa n X := hX
      have hd := rsD_succ X n a b Y k
      obtain ⟨P, hP⟩ : ∃ P, P = plc a b k := ⟨_, rfl⟩
      obtain ⟨V, hV⟩ : ∃ V, V = lsV X n P := ⟨_, rfl⟩
      obtain ⟨A, hA⟩ : ∃ A, A = rsD X n a b Y k := ⟨_, rfl⟩
      rw [show spR X n a b k = V by rw [spR, ← hP, hV], ← hA] at hd
      have HA := Lib.hid hA
      have HE := Lib.hid hd
      cases g : lsB X n P
      · have HN := Lib.hid (show ∀ m, RstRet D t w (.returned (.tuple #[.float .f32 0, .bool false])) (w.drewN m) from fun m => by
          have e0 : t = false := by rw [ht.out, spB_no hlt (by rw [← hP]; exact g)]
          exact ⟨0, m, by rw [e0]; rfl, (fun h => by rw [e0] at h; cases h), rfl⟩)
        rw [← hP] at HP HV
        rw [g, ← hV] at HV
        clear g hV hP hd hA
        go_wp2_with (first | (go_at_call 128; refine (HP.out _).mono ?_; rintro e w' ⟨s1, q, rfl, rfl⟩) | (go_at_call 230; refine (HV.out _ _ (by exact hXk)).mono ?_; rintro e w' ⟨rfl, q2, rfl⟩))
        go_ret2
        exact HN.out _
      · have HG := Lib.hid (show ∀ j, j < k + 1 → lsB X n (plc a b j) = true from fun j hj => by
          by_cases hj' : j < k
          · exact HF.out j hj'
          · rw [show j = k by omega, ← hP]; exact g)
        rw [← hP] at HP HV
        rw [g, ← hV] at HV
        rw [← HA.out]
        clear g hV hP hd hA
        go_wp2_with (first | (go_at_call 128; refine (HP.out _).mono ?_; rintro e w' ⟨s1, q, rfl, rfl⟩) | (go_at_call 230; refine (HV.out _ _ (by exact hXk)).mono ?_; rintro e w' ⟨rfl, q2, rfl⟩) | ((with_reducible refine wpL_fbin ?_); refine ⟨_, _, _, rfl, rfl, rfl, fun s n => ?_⟩))
        go_roundw
        case rel => exact ⟨k + 1, _, _, by omega, by go_num, rfl, by rw [HE.out], HG⟩
        case measure => simp [intOf]; omega
    · have hkn : k = N := by omega
      subst hkn
      rw [← HD.out]
      have HN := Lib.hid (show ∀ m, RstRet D t w (.returned (.tuple #[.float .f32 (pick .f32 D s), .bool (isFin .f32 D)])) (w.drewN m) from fun m => by
        have e0 : t = true := by rw [ht.out, spB_yes HF.out]
        exact ⟨_, m, by rw [e0]; rfl, (fun h => by rw [e0] at h; exact pick_num (num_fin (by simpa using h)) s), rfl⟩)
      go_wp2_with (first | (go_at_call 94; refine (l01Finite_any _ _).mono ?_; rintro e w' ⟨rfl, q, rfl⟩))
      go_ret2
      exact HN.out _

/- What lines leave of a list: both sides. -/

def rsK (X : Nat → Ln) (n : Nat) (Y : Nat → Nat) (N a b : Nat) : Bool := fitOk X n Y N a b && spB X n a b N
def rsV (X : Nat → Ln) (n : Nat) (Y : Nat → Nat) (N a b : Nat) : Nat := if rsK X n Y N a b = true then numQ (rsD X n a b Y N) else 0
def rsB (X : Nat → Ln) (n : Nat) (Y : Nat → Nat) (N a b : Nat) : Bool := rsK X n Y N a b && isFin .f32 (rsD X n a b Y N)
theorem rsV_num (X : Nat → Ln) (n : Nat) (Y : Nat → Nat) (N a b s : Nat) : pick .f32 (rsV X n Y N a b) s = rsV X n Y N a b := by
  unfold rsV numQ
  split
  · split
    · rename_i h; exact pick_num (num_fin h) s
    · exact pick_nul s
  · exact pick_nul s
set_option maxRecDepth 100000 in
set_option maxHeartbeats 1600000 in
theorem specRestOf_any (xa ya : Option Addr) (n cx N cy : Nat) (X : Nat → Ln) (Y : Nat → Nat) (a b : Nat) (w : World) (hX : RdN w xa n X) (hY : Rd w ya N Y) (hn : n ≤ 1048576) (hN : N ≤ 1048576) (R : Nat) (ok : Bool) (hR : Hid (R = rsV X n Y N a b)) (ho : Hid (ok = rsB X n Y N a b)) :
    Calls Try.prog 140 #[.slice xa n cx, .slice ya N cy, .float .f32 a, .float .f32 b] w fun e w' => e = .returned (.tuple #[.float .f32 R, .bool ok]) ∧ Below w.heap.size w w' := by
  have HF := Lib.hid (fun w hX hY => l05Fit_any xa ya n cx N cy X Y a b w hX hY hn hN _ (Lib.hid rfl))
  cases f : fitOk X n Y N a b
  · rw [f] at HF
    have HR := Lib.hid (show (.returned (.tuple #[.float .f32 0, .bool false]) : Ending) = .returned (.tuple #[.float .f32 R, .bool ok]) by rw [hR.out, ho.out, rsV, rsB, rsK, f]; simp)
    clear f hR ho
    go_enter Try.func140, Try.ntmps140
    go_wp2_with (go_at_call 126; refine (HF.out _ (by exact hX) (by exact hY)).mono ?_; rintro e w' ⟨rfl, q, rfl⟩)
    go_ret2
    refine ⟨HR.out, ?_⟩
    (repeat (first | with_reducible exact Below.refl _ _ | with_reducible refine Below.drewN ?_ _ | with_reducible refine Below.setCell ?_ (by simp; try omega) _ | with_reducible refine Below.alloc ?_ (by simp; try omega) _))
  · rw [f] at HF
    obtain ⟨t, ht⟩ : ∃ t, t = spB X n a b N := ⟨_, rfl⟩
    have HT := Lib.hid (fun w hX hY => l05Rest_any xa ya n cx N cy X Y a b w hX hY hn hN t (Lib.hid ht))
    obtain ⟨D, hD⟩ : ∃ D, D = rsD X n a b Y N := ⟨_, rfl⟩
    rw [← hD] at HT
    cases g : (t && isFin .f32 D)
    · have HR := Lib.hid (show (.returned (.tuple #[.float .f32 0, .bool false]) : Ending) = .returned (.tuple #[.float .f32 R, .bool ok]) by
        rw [hR.out, ho.out, rsV, rsB, rsK, f, Bool.true_and, ← ht, ← hD, g]
        cases t
        · simp
        · rw [Bool.true_and] at g
          simp [numQ, g])
      clear f hR ho ht hD
      go_enter Try.func140, Try.ntmps140
      go_wp2_with (first | (go_at_call 126; refine (HF.out _ (by exact hX) (by exact hY)).mono ?_; rintro e w' ⟨rfl, q, rfl⟩) | (go_at_call 195; refine (HT.out _ (by exact hX) (by exact hY)).mono ?_; rintro e w' ⟨v, m, rfl, hv, rfl⟩; clear hv; rw [g]))
      go_ret2
      refine ⟨HR.out, ?_⟩
      (repeat (first | with_reducible exact Below.refl _ _ | with_reducible refine Below.drewN ?_ _ | with_reducible refine Below.setCell ?_ (by simp; try omega) _ | with_reducible refine Below.alloc ?_ (by simp; try omega) _))
    · have HR := Lib.hid (show (.returned (.tuple #[.float .f32 D, .bool true]) : Ending) = .returned (.tuple #[.float .f32 R, .bool ok]) by
        rw [hR.out, ho.out, rsV, rsB, rsK, f, Bool.true_and, ← ht, ← hD, g]
        rw [Bool.and_eq_true] at g
        rw [g.1, if_pos rfl]
        simp [numQ, g.2])
      clear f hR ho ht hD
      go_enter Try.func140, Try.ntmps140
      go_wp2_with (first | (go_at_call 126; refine (HF.out _ (by exact hX) (by exact hY)).mono ?_; rintro e w' ⟨rfl, q, rfl⟩) | (go_at_call 195; refine (HT.out _ (by exact hX) (by exact hY)).mono ?_; rintro e w' ⟨v, m, rfl, hv, rfl⟩; have ev := hv g; subst ev; clear hv; rw [g]))
      go_ret2
      refine ⟨HR.out, ?_⟩
      (repeat (first | with_reducible exact Below.refl _ _ | with_reducible refine Below.drewN ?_ _ | with_reducible refine Below.setCell ?_ (by simp; try omega) _ | with_reducible refine Below.alloc ?_ (by simp; try omega) _))
set_option maxRecDepth 100000 in
set_option maxHeartbeats 3200000 in
theorem implRestOf_any (xa ya : Option Addr) (n cx N cy : Nat) (X : Nat → Ln) (Y : Nat → Nat) (a b : Nat) (w : World) (hX : RdN w xa n X) (hY : Rd w ya N Y) (hn : n ≤ 1048576) (hN : N ≤ 1048576) (R : Nat) (ok : Bool) (hR : Hid (R = rsV X n Y N a b)) (ho : Hid (ok = rsB X n Y N a b)) :
    Calls Try.prog 142 #[.slice xa n cx, .slice ya N cy, .float .f32 a, .float .f32 b] w fun e w' => e = .returned (.tuple #[.float .f32 R, .bool ok]) ∧ Below w.heap.size w w' := by
  have HS := Lib.hid ((sp_impl X n a b (N : Int) hn))
  obtain ⟨L, hL⟩ : ∃ L, L = okLst Y N := ⟨_, rfl⟩
  have HT := Lib.hid (fun w hY => implLst_any ya N cy Y w hY hN L (Lib.hid hL))
  cases s : spOk X n a b (N : Int)
  · have hk : rsK X n Y N a b = false := by
      rw [spOk, Int.toNat_natCast] at s
      rw [rsK, fitOk]
      cases h1 : okLst Y N
      · simp
      · have h2 : inB (N : Int) 1 128 = true := by
          have := okLst_at h1
          exact inB_yes (by omega) (by omega)
        rw [h2] at s
        revert s
        cases (allLn X n && decide (n ≤ 12)) <;> cases isFin .f32 a <;> cases isFin .f32 b <;> simp
    have HR := Lib.hid (show (.returned (.tuple #[.float .f32 0, .bool false]) : Ending) = .returned (.tuple #[.float .f32 R, .bool ok]) by rw [hR.out, ho.out, rsV, rsB, hk]; simp)
    rw [s] at HS
    clear s hk hR ho hL
    go_enter Try.func142, Try.ntmps142
    go_wp2_with (go_at_call 134; refine (HS.out _ _ _ (by exact hX)).mono ?_; rintro e w1 ⟨v, Z, rfl, O1, _, B1⟩)
    go_ret2
    exact ⟨HR.out, B1⟩
  · have hs := s
    rw [spOk, Int.toNat_natCast] at hs
    simp only [Bool.and_eq_true, decide_eq_true_eq] at hs
    have hM : spM X n a b (N : Int) = N := by rw [spM, if_pos s, Int.toNat_natCast]
    rw [s, hM] at HS
    cases L
    · have HR := Lib.hid (show (.returned (.tuple #[.float .f32 0, .bool false]) : Ending) = .returned (.tuple #[.float .f32 R, .bool ok]) by rw [hR.out, ho.out, rsV, rsB, rsK, fitOk, ← hL]; simp)
      clear s hs hM hR ho hL
      go_enter Try.func142, Try.ntmps142
      go_wp2_with (first | (go_at_call 134; refine (HS.out _ _ _ (by exact hX)).mono ?_; rintro e w1 ⟨v, Z, rfl, O1, _, B1⟩; have hY1 := hY.below B1) | (go_at_call 131; refine (HT.out _ (by exact hY1)).mono ?_; rintro e w' ⟨rfl, q, rfl⟩))
      go_ret2
      exact ⟨HR.out, Below.drewN B1 _⟩
    · have hk : rsK X n Y N a b = true := by
        rw [rsK, fitOk, ← hL, hs.2.2, hs.1.2.1, hs.1.2.2, hs.1.1.1, decide_eq_true hs.1.1.2]
        rfl
      obtain ⟨D, hD⟩ : ∃ D, D = rsD X n a b Y N := ⟨_, rfl⟩
      have HR := Lib.hid (show ∀ s, (.returned (.tuple #[.float .f32 (pick .f32 (numQ D) s), .bool (isFin .f32 D)]) : Ending) = .returned (.tuple #[.float .f32 R, .bool ok]) from fun s => by
        rw [hR.out, ho.out, ← rsV_num X n Y N a b s, rsV, rsB, if_pos hk, hk, hD, Bool.true_and])
      have HD := Lib.hid hD
      have HQ := Lib.hid (fun s w => numI_any D s w)
      clear s hs hM hR ho hL hk hD
      go_enter Try.func142, Try.ntmps142
      go_wp2_with (first | (go_at_call 134; refine (HS.out _ _ _ (by exact hX)).mono ?_; rintro e w1 ⟨v, Z, rfl, O1, L1, B1⟩; have hY1 := hY.below B1; obtain ⟨xz, cz, rfl, _, _, Rz⟩ := rd_of_own O1; clear O1) | (go_at_call 131; refine (HT.out _ (by exact hY1)).mono ?_; rintro e w' ⟨rfl, q, rfl⟩))
      refine (les_any _ _ _ _ _ Y Z _ (by exact hY1) (by exact Rz) hN).mono ?_
      rintro e w2 ⟨v2, Z2, rfl, O2, L2, B2⟩
      obtain ⟨xz2, cz2, rfl, _, _, Rz2⟩ := rd_of_own O2
      clear O2
      have hDD : dotW Z2 Z2 N = D := by
        rw [HD.out]
        exact dotW_like N fun j hj => (L2.like j hj).trans (by rw [lesR, rsR, lesR, fbin_congr rfl (L1 j hj)])
      go_wp2_with fail
      refine (sumSq_any _ N _ Z2 _ (by exact Rz2) hN).mono ?_
      rw [hDD]
      rintro e w3 ⟨s3, m3, rfl, rfl⟩
      clear hDD
      go_wp2_with (go_at_call 115; refine (HQ.out _ _).mono ?_; rintro e w' ⟨s4, m4, rfl, rfl⟩)
      go_ret2
      have B3 := (Below.drewN B1 q).trans (B2.mono B1.size)
      exact ⟨HR.out _, Below.drewN B3 _⟩

/- Of any lines, list, place and step the program tells what the lines leave of the list just where the model does, and the same; the lines and the list are not changed: for all arguments. -/

end Go.Proofs.Ytmpcalpapkedhaa
