/- Of any text the program says whether it is a name, as the model does. -/
import Derived.Test.YthpdiknpfpejlacRowKit
namespace Go.Proofs.Ythpdiknpfpejlac
open Go Go.ChangeShapes Go.WideShapes Go.ChangeAt Go.RowKit
def letter (c : UInt8) : Bool := decide (97 ≤ c.toNat) && decide (c.toNat ≤ 122)
def nm (s : ByteArray) : Bool := decide (1 ≤ s.size) && decide (s.size ≤ 8) && s.data.toList.all letter
theorem ntake_snoc (s : ByteArray) (k : Nat) (h : k < s.size) : s.data.toList.take (k + 1) = s.data.toList.take k ++ [s[k]] := by
  rw [List.take_succ_eq_append_getElem (by simpa using h)]; rfl
theorem nm_no (s : ByteArray) (k : Nat) (h : k < s.size) (hl : letter s[k] = false) : nm s = false := by
  have : s.data.toList.all letter = false := by
    rw [List.all_eq_false]
    exact ⟨s[k], by rw [← List.take_append_drop (k + 1) s.data.toList, ntake_snoc s k h]; simp, by simp [hl]⟩
  simp [nm, this]
theorem nm_take (s : ByteArray) (k : Nat) (h : k < s.size) (ht : (s.data.toList.take k).all letter = true) (hl : letter s[k] = true) : (s.data.toList.take (k + 1)).all letter = true := by
  rw [ntake_snoc s k h, List.all_append, ht]; simp [hl]
theorem nm_size (s : ByteArray) (h : ¬ (1 ≤ s.size ∧ s.size ≤ 8)) : nm s = false := by
  have : (decide (1 ≤ s.size) && decide (s.size ≤ 8)) = false := by
    by_cases h1 : 1 ≤ s.size
    · have : ¬ s.size ≤ 8 := by omega
      simp [this]
    · simp [h1]
  simp [nm, this]
theorem nm_end (s : ByteArray) (ht : (s.data.toList.take s.size).all letter = true) : nm s = (decide (1 ≤ s.size) && decide (s.size ≤ 8)) := by
  rw [List.take_of_length_le (by simp)] at ht
  simp [nm, ht]
theorem letter_no {c : UInt8} (h : letter c = false) : (c.toNat : Int) < 97 ∨ 122 < (c.toNat : Int) := by
  simp [letter] at h; omega
theorem letter_yes {c : UInt8} (h : letter c = true) : 97 ≤ (c.toNat : Int) ∧ (c.toNat : Int) ≤ 122 := by
  simp [letter] at h; omega

set_option maxHeartbeats 800000 in
theorem specIsName_any (s : ByteArray) (w : World) (hs : s.size ≤ 1048576) :
    Calls Try.prog 7 #[.string s] w fun e w' => e = .returned (.bool (nm s)) ∧ w = w' := by
  go_enter Try.func7, Try.ntmps7
  go_wp2
  go_loop [3] (fun i => ∃ k : Nat, k ≤ s.size ∧ i = .int .i64 k ∧ (s.data.toList.take k).all letter = true) (fun i => s.size - (intOf i).toNat)
  case atStart => exact ⟨0, Nat.zero_le _, rfl, rfl⟩
  case round =>
    obtain ⟨k, hk, rfl, ht⟩ := hrel
    by_cases hlt : k < s.size
    · cases hl : letter s[k]
      · have HN := Lib.hid (nm_no s k hlt hl)
        rcases letter_no hl with h1 | h1
        all_goals clear hl ht
        all_goals go_wp2
        all_goals go_ret
        all_goals exact ⟨by rw [HN.out]; rfl, rfl⟩
      · have HT := Lib.hid (nm_take s k hlt ht hl)
        obtain ⟨h1, h2⟩ := letter_yes hl
        clear hl ht
        go_wp2
        go_round
        case rel => exact ⟨k + 1, by omega, by go_num, HT.out⟩
        case measure => simp [intOf]; omega
    · have hk' : k = s.size := by omega
      subst hk'
      have HN := Lib.hid (nm_end s ht)
      clear ht
      by_cases h1 : 1 ≤ s.size
      · by_cases h2 : s.size ≤ 8
        · go_wp2
          go_ret
          exact ⟨by rw [HN.out]; simp [h1, h2] <;> omega, rfl⟩
        · go_wp2
          go_ret
          exact ⟨by rw [HN.out]; simp [h1, h2] <;> omega, rfl⟩
      · go_wp2
        go_ret
        exact ⟨by rw [HN.out]; simp [h1] <;> omega, rfl⟩
set_option maxRecDepth 100000 in
set_option maxHeartbeats 800000 in
theorem implIsName_any (s : ByteArray) (w : World) (hs : s.size ≤ 1048576) :
    Calls Try.prog 8 #[.string s] w fun e w' => e = .returned (.bool (nm s)) ∧ (w = w' ∨ ∃ pos, w' = w.iter s pos) := by
  by_cases h1 : 1 ≤ s.size
  · by_cases h2 : s.size ≤ 8
    · go_enter Try.func8, Try.ntmps8
      go_wp2
      go_loopw [] (fun w' => ∃ pos : Nat, pos ≤ s.size ∧ w' = w.iter s pos ∧ (s.data.toList.take pos).all letter = true) (fun w' => s.size - w'.iterPos w.heap.size)
      case atStart => exact ⟨0, Nat.zero_le _, rfl, rfl⟩
      case round =>
        obtain ⟨pos, hpos, rfl, ht⟩ := hrel
        by_cases hp : pos < s.size
        · cases hl : letter s[pos]
          · have HN := Lib.hid (nm_no s pos hp hl)
            by_cases ha : (s[pos]'hp).toNat < 128
            · have hnx : ∀ ty, (Instr.next (.pointer (some ⟨w.heap.size, 0, none⟩)) true ty).run Try.prog (w.iter s pos) = _ := fun ty => run_next_ascii w s pos ty hp ha
              rcases letter_no hl with h3 | h3
              all_goals clear hl ht
              all_goals go_wp2
              all_goals go_ret
              all_goals exact ⟨by rw [HN.out]; rfl, .inr ⟨_, rfl⟩⟩
            · have hd := (decode_high s pos hp (by omega)).1
              have hnx : ∀ ty, (Instr.next (.pointer (some ⟨w.heap.size, 0, none⟩)) true ty).run Try.prog (w.iter s pos) = _ := fun ty => run_next_any w s pos ty hp
              generalize (Utf8.decode s pos).1 = r at *
              generalize (Utf8.decode s pos).2 = q at *
              clear hl ht
              have hr1 : ¬ (r : Int) < 97 := by omega
              have hr2 : 122 < (r : Int) := by omega
              go_wp2
              go_ret
              exact ⟨by rw [HN.out]; rfl, .inr ⟨_, rfl⟩⟩
          · have HT := Lib.hid (nm_take s pos hp ht hl)
            obtain ⟨h3, h4⟩ := letter_yes hl
            have hnx : ∀ ty, (Instr.next (.pointer (some ⟨w.heap.size, 0, none⟩)) true ty).run Try.prog (w.iter s pos) = _ := fun ty => run_next_ascii w s pos ty hp (by omega)
            clear hl ht
            go_wp2
            go_roundw
            case rel => exact ⟨pos + 1, by omega, rfl, HT.out⟩
            case measure => simp; omega
        · have hk' : pos = s.size := by omega
          subst hk'
          have HN := Lib.hid (nm_end s ht)
          clear ht
          have hnx : ∀ ty, (Instr.next (.pointer (some ⟨w.heap.size, 0, none⟩)) true ty).run Try.prog (w.iter s s.size) = _ := fun ty => run_next_end w s s.size ty hp
          go_wp2
          go_ret
          exact ⟨by rw [HN.out]; simp [h1, h2] <;> omega, .inr ⟨_, rfl⟩⟩
    · have HN := Lib.hid (nm_size s (by omega))
      go_enter Try.func8, Try.ntmps8
      go_wp2
      go_ret
      exact ⟨by rw [HN.out]; rfl, .inl rfl⟩
  · have HN := Lib.hid (nm_size s (by omega))
    go_enter Try.func8, Try.ntmps8
    go_wp2
    go_ret
    exact ⟨by rw [HN.out]; rfl, .inl rfl⟩
theorem grown_iter (w : World) (s : ByteArray) (pos : Nat) : Grown w (w.iter s pos) := by
  have h := World.iter_extends w s pos
  refine ⟨⟨h.os, h.output, fun i hi => by rw [h.block i hi]; exact (World.keptBut_refl w (fun _ => False)).2.2 i hi⟩, fun a => ?_, h.size⟩
  by_cases hb : a.block < w.heap.size
  · exact h.frozen a hb
  · have e1 : w.heap[a.block]? = none := Array.getElem?_eq_none (by omega)
    have e2 : (w.iter s pos).heap[a.block]? = none ∨ (w.iter s pos).heap[a.block]? = some (.stringIter s pos) := by
      show (w.heap.push (.stringIter s pos))[a.block]? = none ∨ (w.heap.push (.stringIter s pos))[a.block]? = some (.stringIter s pos)
      rw [Array.getElem?_push]
      split
      · exact .inr rfl
      · exact .inl e1
    unfold World.frozen?
    rw [e1]
    rcases e2 with e2 | e2 <;> rw [e2]
set_option maxHeartbeats 800000 in
theorem lawIsName_any (s : ByteArray) (hs : s.size ≤ maxLen) (w : World) :
    Calls Try.prog 3 #[.string s] w fun e w' => e = .returned (.bool true) ∧ Grown w w' := by
  unfold maxLen at hs
  by_cases hl : s.size ≤ 1048576
  · go_enter Try.func3, Try.ntmps3
    go_wp2_with (first | (go_at_call 7; refine (specIsName_any _ _ hl).mono ?_; rintro e w' ⟨rfl, rfl⟩) | (go_at_call 8; refine (implIsName_any _ _ hl).mono ?_; rintro e w' ⟨rfl, rfl | ⟨pos, rfl⟩⟩))
    all_goals go_ret
    all_goals exact ⟨by simp, by first | exact Grown.refl _ | exact grown_iter _ _ _⟩
  · go_enter Try.func3, Try.ntmps3
    go_wp2
    all_goals go_ret
    all_goals exact ⟨by simp, Grown.refl _⟩
set_option maxRecDepth 100000 in
theorem FnExactIsName_lifted (os : Os) (started : os.Started) (H : Type) (enc : TypeId × Value → H) :
    ReturnsInHanded {} Try.checked os 3 .any (Rows.fnExactIsNameSpec.pre6 enc Try.prog Try.f3 Rows.fnExactIsNameRow.domain false) (Rows.fnExactIsNameSpec.post enc Try.prog Try.f3 false true false false) := by
  refine returnsInHanded_of_change (C := Try.checked) ownKnob_none started (by kernel_rfl) Try.func3
    (ChangeSpec.witness6 (enc := enc) (C := Try.checked) false ⟨#[], #[.string ⟨#[]⟩], []⟩ 8 (by kernel_rfl) (by kernel_rfl) (by kernel_rfl) (by kernel_rfl)) ?_
  intro W base args ds gs before hval0 hW _ _
  have hval : ∀ (j : Nat) t v, Try.f3.params[j]? = some t → args[j]? = some v → Value.okWide Try.prog W .any base t v := hval0
  have hW' := hW
  obtain ⟨p, q, hA0, hV, rfl, hfz, hnd⟩ := hW
  have hA : DataW.TrodAll enc Try.prog W 0 (fun _ => true) true Try.f3.params.toList args.toList ds p := hA0
  rw [Try.params3] at hA hval
  obtain ⟨v0, vs0, d0, ds0, p0, q0, hargs, rfl, rfl, h0, r0⟩ := trodAll_cons hA
  obtain ⟨rfl, rfl, rfl⟩ := trodAll_nil r0
  obtain rfl : args = #[v0] := by cases args; simp_all
  obtain ⟨rfl, rfl⟩ := trodVars_none hV
  obtain ⟨a0, rfl, rfl, rfl, w0⟩ := ChangeMaps.open_string Try.underlying9 (hval 0 9 v0 rfl rfl) h0
  clear hA0 hval0
  simp only [List.append_nil] at hW'
  refine (lawIsName_any a0 w0 W).mono fun e W' ⟨he, hg⟩ => ?_
  subst he
  exact ⟨_, rfl, post_of_same (pa := []) (pv := []) hW' (fun _ _ _ => (trodAll_cons_mk (shut_bool Try.underlying4 _) trodAll_mk0)) (fun sp _ => (trodAll_cons_mk (ChangeMaps.shut_string Try.underlying9 w0) trodAll_mk0)) (fun _ _ => rfl) rfl
    (hg.frame _) hg.2.1 (ok_one (by kernel_rfl) rfl (okWide_bool_mk Try.underlying4 _))⟩
theorem FnExactIsName_holds : Rows.FnExactIsNameSaid :=
  OpenClaim.holds_of_wide 3 Try.f3 rfl rfl rfl rfl rfl rfl rfl ⟨rfl, rfl, rfl, rfl, rfl⟩ rfl rfl rfl rfl rfl (by kernel_rfl) Try.func3 (by kernel_rfl)
    (of_decide_eq_true (by kernel_rfl)) (by unfold Func.isWrapper; first | (rw [if_pos (by decide +kernel)]; kernel_rfl) | (rw [if_neg (by decide +kernel)]; exact ⟨rfl, rfl⟩))
    (fun os started H enc _ => FnExactIsName_lifted os started H enc)
end Go.Proofs.Ythpdiknpfpejlac
