/- Arguments that are lists of bytes. -/
import Derived.Test.YtdoaajmojfdjoabLi
namespace Go.Proofs.Ytdoaajmojfdjoab
open Go Go.ChangeShapes Go.WideShapes Go.ChangeAt Go.RowKit

def RdB (w : World) (xa : Option Addr) (n : Nat) (C : Nat → Int) : Prop := ∃ xb xo, (0 < n → xa = some ⟨xb, xo, none⟩) ∧ ∀ i, i < n → w.cell? ⟨xb, xo + i, none⟩ = some (.int .u8 (C i)) ∧ 0 ≤ C i ∧ C i ≤ 255
theorem RdB.below {w w' : World} {xa : Option Addr} {n : Nat} {C : Nat → Int} (h : RdB w xa n C) (hb : Below w.heap.size w w') : RdB w' xa n C := by
  obtain ⟨xb, xo, h1, h2⟩ := h
  refine ⟨xb, xo, h1, fun i hi => ⟨?_, (h2 i hi).2⟩⟩
  rw [hb.cell (p := ⟨xb, xo + i, none⟩) (World.block_lt_of_cell? w _ (h2 i hi).1)]
  exact (h2 i hi).1
theorem RdB.cell {w : World} {xa : Option Addr} {n : Nat} {C : Nat → Int} (h : RdB w xa n C) {k : Nat} (hk : k < n) : ∃ xb xo, xa = some ⟨xb, xo, none⟩ ∧ w.cell? ⟨xb, xo + k, none⟩ = some (.int .u8 (C k)) ∧ 0 ≤ C k ∧ C k ≤ 255 := by
  obtain ⟨xb, xo, h1, h2⟩ := h
  exact ⟨xb, xo, h1 (by omega), h2 k hk⟩
theorem cellsB : Try.prog.cellsOf 5 = 1 := by kernel_rfl
section
variable {H : Type} {enc : TypeId × Value → H} {P : Program} {w : World} {base : Nat} {spare : Nat → Bool} {held : Bool}
theorem trod_u8 {n : Nat} {e : TypeId} {v : Value} {x : DataW H × List MemPlace} (he : P.underlying e = some (.int .u8)) (h : DataW.trod enc P w base spare held n e [v] = some x) : ∃ b, v = .int .u8 b ∧ (Lit.int .u8 b).wf = true := by
  cases n with
  | zero => simp [DataW.trod] at h
  | succ n =>
    rw [DataW.trod_step] at h
    unfold DataW.trodStep at h
    simp only [he] at h
    cases v <;> try (simp at h; done)
    rename_i k b
    by_cases hk : k = .u8
    · subst hk
      by_cases hw : (Lit.int .u8 b).wf = true
      · exact ⟨b, rfl, hw⟩
      · simp [hw] at h
    · simp [hk] at h
theorem u8_rng {x : Int} (h : (Lit.int .u8 x).wf = true) : 0 ≤ x ∧ x ≤ 255 := by simpa [Lit.wf, IntKind.min, IntKind.max, IntKind.signed, IntKind.bits] using h
/-- An argument that is a slice of bytes. -/
theorem open_bytes {t e : TypeId} {xa : Option Addr} {len cap : Nat} {d : DataW H} {ps : List MemPlace} (ht : P.underlying t = some (.slice e)) (he : P.underlying e = some (.int .u8)) (hc : P.cellsOf e = 1)
    (h : DataW.Trod enc P w base spare held t (.slice xa len cap) d ps) : len ≤ cap ∧ cap ≤ maxLen ∧ ∃ C, RdB w xa len C := by
  obtain ⟨fuel, hf⟩ := h
  have hf' : DataW.trod enc P w base spare held fuel t [.slice xa len cap] = some (d, ps) := hf
  rcases Deep.open_slice1 ht hc hf' with ⟨h1, _⟩ | ⟨a, len', cap', m, n, V, D, Pl, hcs, _, hl, hm, hmm, _, hx⟩
  · simp only [List.cons.injEq, Value.slice.injEq, and_true] at h1
    obtain ⟨rfl, rfl, rfl⟩ := h1
    exact ⟨Nat.le_refl _, Nat.zero_le _, fun _ => 0, 0, 0, fun h => absurd h (Nat.lt_irrefl _), fun i hi => absurd hi (Nat.not_lt_zero _)⟩
  · simp only [List.cons.injEq, Value.slice.injEq, and_true] at hcs
    obtain ⟨rfl, rfl, rfl⟩ := hcs
    have hlm : len ≤ m := by rw [hmm]; split <;> omega
    obtain ⟨C, hC⟩ := Deep.choose_lt (α := Int) (n := len) (p := fun i b => V i = .int .u8 b ∧ (Lit.int .u8 b).wf = true) (fun i hi => trod_u8 he (hx i (by omega)).2)
    refine ⟨hl, hm, C, a.block, a.off, fun hp => ?_, fun i hi => ⟨?_, u8_rng (hC i hi).2⟩⟩
    · have h0 := (hx 0 (by omega)).1
      have hs : a.spot = none := by simpa [Addr.add] using World.cell?_spot h0
      cases a
      simp only at hs
      rw [hs]
    · have h0 := (hx i (by omega)).1
      have hs := World.cell?_spot h0
      rw [(hC i hi).1] at h0
      rw [← h0]
      congr 1
      unfold Addr.add at hs ⊢
      by_cases hi0 : i = 0
      · subst hi0
        simp only [if_true] at hs ⊢
        cases a
        simp only at hs
        simp [hs]
      · simp [hi0]
end
def BRet (m : Int) (w : World) (e : Ending) (w' : World) : Prop := ∃ v : Nat, (v : Int) < m ∧ e = .returned (.int .i64 (v : Int)) ∧ w = w'
set_option maxHeartbeats 800000 in
/-- A number from 0 to less than m, of a byte. -/
theorem b10At_any (xa : Option Addr) (n cap : Nat) (C : Nat → Int) (i : Nat) (m : Int) (w : World) (hX : RdB w xa n C) (hi : i ≤ 1000) (hm : 2 ≤ m) (hm2 : m ≤ 100000) :
    Calls Try.prog 47 #[.slice xa n cap, .int .i64 (i : Int), .int .i64 m] w (BRet m w) := by
  by_cases hin : i < n
  · obtain ⟨xb, xo, rfl, r1, c1, c2⟩ := hX.cell hin
    have HB := Lib.hid (show ((C i % m).toNat : Int) = C i % m ∧ C i % m < m from ⟨by have := Int.emod_nonneg (C i) (show m ≠ 0 by omega); omega, Int.emod_lt_of_pos _ (by omega)⟩)
    go_enter Try.func47, Try.ntmps47
    go_wp2
    go_ret
    exact ⟨(C i % m).toNat, by rw [HB.out.1]; exact HB.out.2, by rw [HB.out.1]; rfl, rfl⟩
  · have HB := Lib.hid (show ((((i : Int) * 37 + 11) % m).toNat : Int) = ((i : Int) * 37 + 11) % m ∧ ((i : Int) * 37 + 11) % m < m from ⟨by have := Int.emod_nonneg ((i : Int) * 37 + 11) (show m ≠ 0 by omega); omega, Int.emod_lt_of_pos _ (by omega)⟩)
    go_enter Try.func47, Try.ntmps47
    go_wp2
    go_ret
    exact ⟨(((i : Int) * 37 + 11) % m).toNat, by rw [HB.out.1]; exact HB.out.2, by rw [HB.out.1]; rfl, rfl⟩
end Go.Proofs.Ytdoaajmojfdjoab
