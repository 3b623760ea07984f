
/- Lists of complex numbers: a number put behind one; whether all are finite. -/
import Derived.Test.YtmpcalpapkedhaaCxl
import Derived.Test.YtmpcalpapkedhaaFinS
namespace Go.Proofs.Ytmpcalpapkedhaa
set_option linter.all false
open Go Go.ChangeShapes Go.WideShapes Go.ChangeAt Go.RowKit

theorem wpL_pushC {B : Nat} {i0 : TypeInfo} (hi : Try.prog.info? 98 = some i0) (hz0 : i0.zero = some (.complex .f32 0 0)) (hz1 : i0.size = 1) (hz2 : i0.bytes = 8)
    {w0 : World} {u v0 : Nat} {ops : Array Oper} {rest : List Oper} {o : Oper} {a : Act} {Q : Exit → Act → World → Prop} (hgd : o.guard = none) {s x : Operand}
    (ho : o.op = .call { callee := .builtin .append, args := #[s, x], argTypes := #[25, 25] }) {v : Value} {n : Nat} {X Y : Nat → Nat} (hs : a.eval s = v) (hx : a.eval x = .slice (some ⟨w0.heap.size, 0, none⟩) 1 1)
    (hown : w0.ownsRow B 98 1 v n (rowC X Y n)) (hn : n ≤ 1048576) (hB : B ≤ w0.heap.size)
    (h : ∀ v' w', w'.ownsRow B 98 1 v' (n + 1) (rowC (fun j => if j = n then u else X j) (fun j => if j = n then v0 else Y j) (n + 1)) → Below B w0 w' → wpList Try.prog ops Q rest (a.put o.dst v') w') :
    wpList Try.prog ops Q (o :: rest) a (w0.alloc (.cells #[.complex .f32 u v0] 98)) := by
  refine wpList_append_own _ hgd s x 25 ho B 98 i0 (.complex .f32 0 0) 1 8 Try.underlying25 hi hz0 hz1 hz2 rfl (by decide) v n (rowC X Y n) hs (hown.alloc _) ⟨w0.heap.size, 0, none⟩ 1 1 [.complex .f32 u v0] hx rfl ?_ ?_ (by unfold maxLen; omega) (by omega) ?_ ?_
  · intro j c hj
    match j, hj with
    | 0, hj => simp at hj; subst hj; simp [Addr.add]
  · intro c hc
    simp at hc
    subst hc
    rfl
  · have : (w0.alloc (.cells #[.complex .f32 u v0] 98)).heap.size = w0.heap.size + 1 := by simp
    omega
  · intro v' w' h1 h2 _
    rw [rowC_push] at h1
    refine h v' w' h1 ?_
    refine ((Below.refl B w0).alloc hB _).grown h2 ?_ (fun k hk => (hown.lt k hk).1)
    have : (w0.alloc (.cells #[.complex .f32 u v0] 98)).heap.size = w0.heap.size + 1 := by simp
    omega
theorem ownC_empty (w : World) (X Y : Nat → Nat) : (w.alloc (.cells #[] 98)).ownsRow w.heap.size 98 1 (.slice (some ⟨w.heap.size, 0, none⟩) 0 0) 0 (rowC X Y 0) :=
  World.ownsRow_made w #[] 0 (Nat.le_refl _) (Nat.zero_le _) rfl
def finP (a b : Nat) : Bool := isFin .f32 a && isFin .f32 b
def finC (X Y : Nat → Nat) (n : Nat) : Bool := (List.range n).all fun i => finP (X i) (Y i)
theorem finC_no {X Y : Nat → Nat} {n k : Nat} (hk : k < n) (h : finP (X k) (Y k) = false) : finC X Y n = false := by
  unfold finC
  rw [List.all_eq_false]
  exact ⟨k, List.mem_range.2 hk, by simp [h]⟩
theorem finC_yes {X Y : Nat → Nat} {n : Nat} (h : ∀ k, k < n → finP (X k) (Y k) = true) : finC X Y n = true := by
  unfold finC
  rw [List.all_eq_true]
  exact fun k hk => h k (List.mem_range.1 hk)
theorem finC_at {X Y : Nat → Nat} {n : Nat} (h : finC X Y n = true) : ∀ k, k < n → finP (X k) (Y k) = true := by
  unfold finC at h
  rw [List.all_eq_true] at h
  exact fun k hk => h k (List.mem_range.2 hk)
theorem finC_like {X Y R I : Nat → Nat} {n : Nat} (h : Like X R n) (g : Like Y I n) : finC X Y n = finC R I n := by
  unfold finC
  rw [Bool.eq_iff_iff, List.all_eq_true, List.all_eq_true]
  have e : ∀ k, k < n → finP (X k) (Y k) = finP (R k) (I k) := fun k hk => by
    unfold finP
    rw [← isFin_canon (X k), ← isFin_canon (Y k), h k hk, g k hk, isFin_canon, isFin_canon]
  constructor
  · intro a k hk
    rw [← e k (List.mem_range.1 hk)]; exact a k hk
  · intro a k hk
    rw [e k (List.mem_range.1 hk)]; exact a k hk
set_option maxHeartbeats 800000 in
theorem specCFin_any (a b : Nat) (w : World) : Calls Try.prog 200 #[.complex .f32 a b] w fun e w' => e = .returned (.bool (finP a b)) ∧ ∃ m, w' = w.drewN m := by
  cases h1 : isFin .f32 a
  · have H := Lib.hid (show false = finP a b by simp [finP, h1])
    go_enter Try.func200, Try.ntmps200
    go_wp2_with (go_at_call 94; refine (l01Finite_any _ _).mono ?_; rw [h1]; rintro e w' ⟨rfl, q, rfl⟩)
    go_ret
    exact ⟨ret_bool H.out, _, rfl⟩
  · have H := Lib.hid (show isFin .f32 b = finP a b by simp [finP, h1])
    go_enter Try.func200, Try.ntmps200
    go_wp2_with fail
    refine (l01Finite_any _ _).mono ?_
    rw [h1]
    rintro e w' ⟨rfl, q, rfl⟩
    go_wp2_with fail
    refine (l01Finite_any _ _).mono ?_
    rintro e w' ⟨rfl, q2, rfl⟩
    go_wp2
    go_ret
    exact ⟨ret_bool H.out, _, rfl⟩
set_option maxHeartbeats 800000 in
theorem specCFins_any (xa : Option Addr) (n cap : Nat) (X Y : Nat → Nat) (w : World) (hX : RdC w xa n X Y) (hn : n ≤ 1048576) :
    Calls Try.prog 144 #[.slice xa n cap] w fun e w' => e = .returned (.bool (finC X Y n)) ∧ ∃ m, w' = w.drewN m := by
  obtain ⟨xb, xo, hxa, hcx⟩ := hX
  have HX := Lib.hid hcx
  clear hcx
  go_enter Try.func144, Try.ntmps144
  go_wp2
  go_loopw [3] (fun i wr => ∃ k m : Nat, k ≤ n ∧ i = .int .i64 k ∧ wr = w.drewN m ∧ Hid (∀ j, j < k → finP (X j) (Y j) = true)) (fun i _ => n - (intOf i).toNat)
  case atStart => exact ⟨0, 0, Nat.zero_le _, rfl, rfl, Lib.hid fun j hj => absurd hj (Nat.not_lt_zero _)⟩
  case round =>
    obtain ⟨k, m, hk, rfl, rfl, HF⟩ := hrel
    by_cases hlt : k < n
    · have e := hxa (by omega)
      subst e
      have h1 := HX.out k hlt
      cases hf : finP (X k) (Y k)
      · have HN := Lib.hid (finC_no hlt hf)
        go_wp2_with (go_at_call 200; refine (specCFin_any _ _ _).mono ?_; rw [hf]; rintro e w' ⟨rfl, q, rfl⟩)
        go_ret
        exact ⟨ret_bool HN.out.symm, _, rfl⟩
      · have HN := Lib.hid (show ∀ j, j < k + 1 → finP (X j) (Y j) = true from fun j hj => by
          by_cases hj' : j < k
          · exact HF.out j hj'
          · rw [show j = k by omega]; exact hf)
        go_wp2_with (go_at_call 200; refine (specCFin_any _ _ _).mono ?_; rw [hf]; rintro e w' ⟨rfl, q, rfl⟩)
        go_roundw
        case rel => exact ⟨k + 1, _, by omega, by go_num, rfl, HN⟩
        case measure => simp [intOf]; omega
    · have hkn : k = n := by omega
      subst hkn
      have HN := Lib.hid (finC_yes HF.out)
      go_wp2
      go_ret
      exact ⟨ret_bool HN.out.symm, m, rfl⟩
end Go.Proofs.Ytmpcalpapkedhaa
