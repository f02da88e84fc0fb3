/- The page's Encode. -/
import Derived.Test.YtaabcllghniaoabDoorCK
namespace Go.Proofs.YtaabcllghniaoabDoor
open Go Go.RowKit
/-- What an Encode tells: a row's bytes, or that there are none. -/
def EncSaid (w w' : World) (o : Option (List Int)) (e : Ending) : Prop :=
  (o = none ∧ e = .returned (.tuple #[.slice none 0 0, .bool false])) ∨
  ∃ x a c, o = some x ∧ e = .returned (.tuple #[.slice a x.length c, .bool true]) ∧ OwnBytes w' w.heap.size (.slice a x.length c) x ∧ Bys x
theorem enc_none_of {l : List Tk} (h : item 6 l = none ∨ ∃ x r, item 6 l = some (x, r) ∧ (32768 < x.length ∨ r ≠ [])) : enc l = none := by
  unfold enc
  by_cases h1 : 600 < l.length
  · rw [if_pos h1]
  rw [if_neg h1]
  rcases h with h | ⟨x, r, h, hx⟩
  · rw [h]
  · rw [h]
    cases r with
    | nil =>
      simp only
      rw [if_pos (hx.resolve_right (fun h => h rfl))]
    | cons a b => rfl
set_option maxRecDepth 100000 in
set_option maxHeartbeats 2000000 in
theorem pencode_is {a : Option Addr} {cap : Nat} {l : List Tk} {w : World} (hm : Toks w a cap l) (hl : Light l) : Calls Tryd.prog 15 #[.slice a l.length cap] w fun e w' => EncSaid w w' (enc l) e ∧ Below w.heap.size w w' := by
  have hlen : (l.length : Int) ≤ 1000 := by have := hl.1; omega
  obtain ⟨o, Ho⟩ : ∃ o, Hid (enc l = o) := ⟨_, rfl⟩
  rw [Ho.out]
  by_cases h6 : 600 < l.length
  · have h6' : (600 : Int) < (l.length : Int) := by omega
    have hn : Hid (o = none) := by show _ = _; rw [← Ho.out]; unfold enc; rw [if_pos h6]
    go_enter Tryd.func15, Tryd.ntmps15
    go_wp2_with fail
    exact bodyPost_ret (results_tmp2 Tryd.results15 _ _ _) rfl ⟨.inl ⟨hn.out, rfl⟩, Below.refl _ _⟩
  have h6' : ¬ (600 : Int) < (l.length : Int) := by omega
  have IH : Hid (Calls Tryd.prog 23 #[.slice a l.length cap, .int .i64 0, .int .i64 0] w fun e w' => ItemSaid w w' l.length (item 6 (l.drop 0)) e ∧ Below w.heap.size w w') := pitem_is hl (a := a) (cap := cap) 6 (by decide) 0 w (Nat.zero_le _) hm
  go_enter Tryd.func15, Tryd.ntmps15
  go_wp2_with fail
  refine Calls.mono (Hid.out IH) ?_
  rintro e w1 ⟨hS, hb1⟩
  rw [List.drop_zero] at hS
  rcases hS with ⟨rfl, hbad⟩ | ⟨x, r, ax, cx, hx, hr', rfl, hOx, hBx, hx200⟩
  · have hn : Hid (o = none) := by
      show _ = _
      rw [← Ho.out]
      exact enc_none_of (hbad.imp id fun ⟨x, r, h, hx⟩ => ⟨x, r, h, .inl hx⟩)
    clear hbad
    simp only [wkv]
    go_wp2_with fail
    refine bodyPost_ret (results_tmp2 Tryd.results15 _ _ _) rfl ⟨.inl ⟨hn.out, rfl⟩, ?_⟩
    exact hb1.alloc hb1.size _
  · have hrl : (r.length : Int) ≤ (l.length : Int) := by omega
    have hr0 : (0 : Int) ≤ (r.length : Int) := by omega
    have hx0 : (x.length : Int) ≤ 200000 := by omega
    have hx := show Hid _ from hx
    have hBx := show Hid _ from hBx
    obtain ⟨n, Hn⟩ : ∃ n : Int, Hid ((l.length : Int) - (r.length : Int) = n) := ⟨_, rfl⟩
    rw [Hn.out]
    simp only [wkv]
    by_cases hr : r = []
    · have hne : Hid (n = (l.length : Int)) := by show _ = _; rw [← Hn.out, hr]; simp
      have e1 : (n == (l.length : Int)) = true := beq_iff_eq.2 hne.out
      have e2 : (n != (l.length : Int)) = false := by rw [bne, e1]; rfl
      by_cases hlong : 32768 < x.length
      · have hlong' : (32768 : Int) < (x.length : Int) := by omega
        have hn : Hid (o = none) := by
          show _ = _
          rw [← Ho.out]
          exact enc_none_of (.inr ⟨x, r, hx.out, .inl hlong⟩)
        go_wp2_with fail
        refine bodyPost_ret (results_tmp2 Tryd.results15 _ _ _) rfl ⟨.inl ⟨hn.out, rfl⟩, ?_⟩
        exact hb1.alloc hb1.size _
      · have hlong' : ¬ (32768 : Int) < (x.length : Int) := by omega
        have hn : Hid (o = some x) := by
          show _ = _
          rw [← Ho.out]
          exact enc_of (by omega) (by rw [hx.out, hr]) (by omega)
        go_wp2_with fail
        refine bodyPost_ret (results_tmp2 Tryd.results15 _ _ _) rfl ⟨.inr ⟨x, ax, cx, hn.out, rfl, hOx.below (alloc_below _ _), hBx.out⟩, ?_⟩
        exact hb1.alloc hb1.size _
    · have hrp : 0 < r.length := by
        cases r with
        | nil => exact absurd rfl hr
        | cons a b => simp
      have e1 : (n == (l.length : Int)) = false := beq_eq_false_iff_ne.2 (by rw [← Hn.out]; omega)
      have e2 : (n != (l.length : Int)) = true := by rw [bne, e1]; rfl
      have hn : Hid (o = none) := by
        show _ = _
        rw [← Ho.out]
        exact enc_none_of (.inr ⟨x, r, hx.out, .inr hr⟩)
      clear hr
      go_wp2_with fail
      refine bodyPost_ret (results_tmp2 Tryd.results15 _ _ _) rfl ⟨.inl ⟨hn.out, rfl⟩, ?_⟩
      exact hb1.alloc hb1.size _
end Go.Proofs.YtaabcllghniaoabDoor
