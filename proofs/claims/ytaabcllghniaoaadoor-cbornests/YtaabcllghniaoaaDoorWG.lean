/- The program's Encode, Check. -/
import Derived.Test.YtaabcllghniaoaaDoorWF
namespace Go.Proofs.YtaabcllghniaoaaDoor
open Go Go.RowKit
theorem enc_no {l : List Tk} (h : item 6 l = none ∨ ∃ x r, item 6 l = some (x, r) ∧ (32768 < x.length ∨ r ≠ [])) : enc l = none := by
  unfold enc
  by_cases h1 : 600 < l.length
  · rw [if_pos h1]
  rw [if_neg h1]
  rcases h with h | ⟨x, r, h, hx⟩
  · rw [h]
  · rw [h]
    cases r with
    | nil =>
      simp only
      rw [if_pos (hx.resolve_right (fun h => h rfl))]
    | cons a b => rfl
set_option maxRecDepth 100000 in
set_option maxHeartbeats 1000000 in
theorem wencode_is {w : World} (hT : TU w) {a : Option Addr} {c : Nat} {l : List Tk} (hm : Toks w a c l) : Calls Tryd.prog 12 #[.slice a l.length c] w fun e w' => ((enc l = none ∧ e = .returned (.tuple #[.slice none 0 0, .int .i64 1])) ∨ ∃ x a' c', enc l = some x ∧ e = .returned (.tuple #[.slice a' x.length c', .int .i64 0]) ∧ OwnBytes w' w.heap.size (.slice a' x.length c') x ∧ Bys x) ∧ Below w.heap.size w w' := by
  have hlm : (l.length : Int) ≤ 9223372036854775807 := by have h3 := Nat.le_trans hm.1.2.1 hm.1.2.2.1; unfold maxLen at h3; omega
  by_cases h6 : 600 < l.length
  · have h6' : (600 : Int) < (l.length : Int) := by omega
    have hno : Hid (enc l = none) := by show _ = _; unfold enc; rw [if_pos h6]
    go_enter Tryd.func12, Tryd.ntmps12
    go_wp2_with fail
    exact bodyPost_ret (results_tmp2 Tryd.results12 _ _ _) rfl ⟨.inl ⟨hno.out, rfl⟩, Below.refl _ _⟩
  · have h6' : ¬ (600 : Int) < (l.length : Int) := by omega
    have hB1 := alloc_below w (.cells #[.slice a l.length c, .slice none 0 0] 53)
    have hW := show Hid _ from (⟨hB1, own_new w _ _, Nat.le_refl _, hm, ownBytes_nil _ _, fun g hg => (by cases hg), fun y hy => (by cases hy), (by decide)⟩ : Wr w (w.alloc (.cells #[.slice a l.length c, .slice none 0 0] 53)) w.heap.size a c l (.slice none 0 0) [])
    have hcall := show Hid _ from witem_is hT 6 (by decide) 1 (by decide) _ _ _ _ _ _ _ hW.out
    clear hB1
    go_enter Tryd.func12, Tryd.ntmps12
    go_upto_region 4 with fail
    go_wp2_with fail
    refine Calls.mono (Hid.out hcall) ?_
    rintro e w2 (⟨rfl, hB2, ho⟩ | ⟨y, R, a2, c2, v2, ho, rfl, hW2, -⟩)
    · have hno : Hid (enc l = none) := enc_no (ho.imp id fun ⟨y, R, h, hl⟩ => ⟨y, R, h, .inl (by simpa using hl)⟩)
      clear ho
      go_wp2_with fail
      exact bodyPost_ret (results_tmp2 Tryd.results12 _ _ _) rfl ⟨.inl ⟨hno.out, rfl⟩, hB2⟩
    · obtain ⟨d0, d1⟩ := own_two hW2.own
      rw [List.nil_append] at hW2
      have hRl : (R.length : Int) ≤ 9223372036854775807 := by have h3 := Nat.le_trans hW2.toks.1.2.1 hW2.toks.1.2.2.1; unfold maxLen at h3; omega
      cases R with
      | cons t R =>
        have hno : Hid (enc l = none) := enc_no (.inr ⟨y, _, ho, .inr (by simp)⟩)
        have hp : (0 : Int) < (((t :: R).length : Nat) : Int) := by simp
        clear ho
        have hBb := hW2.below
        go_wp2_with fail
        exact bodyPost_ret (results_tmp2 Tryd.results12 _ _ _) rfl ⟨.inl ⟨hno.out, rfl⟩, hBb⟩
      | nil =>
        have hyes : Hid (enc l = some y) := enc_of (by omega) ho hW2.len
        rw [List.length_nil] at d0
        obtain ⟨b, cb, rfl, -⟩ := hW2.text
        have hW2 := show Hid _ from hW2
        clear ho
        go_wp2_with fail
        exact bodyPost_ret (results_tmp2 Tryd.results12 _ _ _) rfl ⟨.inr ⟨y, b, cb, hyes.out, rfl, hW2.out.bytes, hW2.out.bys⟩, hW2.out.below⟩
set_option maxRecDepth 100000 in
theorem wcheck_is {w : World} (hT : TU w) {a : Option Addr} {c : Nat} {l : List Tk} (hm : Toks w a c l) : Calls Tryd.prog 13 #[.slice a l.length c] w fun e w' => e = .returned (.int .i64 (if (enc l).isSome = true then 0 else 1)) ∧ Below w.heap.size w w' := by
  have hcall := show Hid _ from wencode_is hT hm
  obtain ⟨z, Hz⟩ : ∃ z : Int, Hid ((if (enc l).isSome = true then 0 else 1) = z) := ⟨_, rfl⟩
  rw [Hz.out]
  go_enter Tryd.func13, Tryd.ntmps13
  go_wp2_with fail
  refine Calls.mono (Hid.out hcall) ?_
  rintro e w1 ⟨⟨hn, rfl⟩ | ⟨x, a1, c1, hx, rfl, -, -⟩, hB⟩
  · have hz : z = 1 := by rw [← Hz.out, hn]; rfl
    subst hz
    clear Hz
    go_wp2_with fail
    go_ret
    exact ⟨rfl, hB⟩
  · have hz : z = 0 := by rw [← Hz.out, hx]; rfl
    subst hz
    clear Hz
    go_wp2_with fail
    go_ret
    exact ⟨rfl, hB⟩
end Go.Proofs.YtaabcllghniaoaaDoor
