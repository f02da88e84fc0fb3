/- What the program's arrays and maps hold. -/
import Derived.Test.YtaabcllghniaoaaDoorWE
namespace Go.Proofs.YtaabcllghniaoaaDoor
open Go Go.RowKit
set_option maxRecDepth 100000 in
set_option maxHeartbeats 1000000 in
theorem wheld_list {w0 : World} (d : Nat) (IH : HI w0 d) (D : Int) (hD : D = 7 - (d : Int)) (w : World) (gw : Nat) (a : Option Addr) (cap : Nat) (L : List Tk) (v : Value) (x : List Int) (n : Nat) (hn : n ≤ 64) (hW : Wr w0 w gw a cap L v x) : Calls Tryd.prog 31 #[.pointer (some ⟨gw, 0, none⟩), .int .i64 n, .bool false, .int .i64 D] w fun e w' => WSaid w0 w w' gw v x (heldO (item d) n false L) e := by
  replace hD := show Hid (D = 7 - (d : Int)) from hD
  have IH := show Hid _ from IH D hD.out
  have hn' : (n : Int) ≤ 64 := by omega
  go_enter Tryd.func31, Tryd.ntmps31
  go_upto_region 3 with fail
  go_loopw [9, 13] (fun _ iv wr => ∃ i : Nat, i ≤ n ∧ iv = .int .i64 (i : Int) ∧ ∃ xs R a' c' v', Hid (runs (item d) i L = some (xs, R)) ∧ Wr w0 wr gw a' c' R v' (x ++ xs.flatten) ∧ Hid (Gr w wr gw v x.length v')) (fun _ iv _ => n - (intOf iv).toNat)
  case atStart => exact ⟨0, Nat.zero_le _, rfl, [], L, a, cap, v, rfl, by rw [List.flatten_nil, List.append_nil]; exact hW, Gr.refl _ _ _ _⟩
  case round =>
    obtain ⟨i, hi, rfl, xs, R, a1, c1, v1, hrun, hW1, hG1⟩ := hrel
    clear hW
    by_cases hlt : i < n
    · have hi' : (i : Int) < (n : Int) := by omega
      have hi0 : (0 : Int) ≤ (i : Int) := by omega
      obtain ⟨b, cb, rfl, -⟩ := hW1.text
      obtain ⟨d0, d1⟩ := own_two hW1.own
      have hcall := show Hid _ from IH.out wr gw a1 c1 R _ _ hW1
      have hcnt : Hid (i < if false = true then 2 * n else n) := hlt
      go_wp2_with fail
      refine Calls.mono (Hid.out hcall) ?_
      rintro e w2 (⟨rfl, hB2, ho⟩ | ⟨y, R2, a2, c2, v2, ho, rfl, hW2, hG2⟩)
      · have hfail : Hid (heldO (item d) n false L = none ∨ ∃ Y Q, heldO (item d) n false L = some (Y, Q) ∧ 32768 < x.length + Y.length) := by
          rcases ho with h | ⟨y, Q, h, hl⟩
          · exact .inl (held_stop hrun.out hcnt.out h)
          · rw [List.length_append] at hl
            exact held_long hrun.out hcnt.out h hl
        clear ho
        go_wp2_with fail
        go_ret
        exact .inl ⟨rfl, hB2, hfail.out⟩
      · have hrun2 : Hid (runs (item d) (i + 1) L = some (xs ++ [y], R2)) := runs_snoc hrun.out ho
        have hG3 : Hid (Gr w w2 gw v x.length v2) := hG1.out.trans hG2 (by rw [List.length_append]; omega)
        rw [List.append_assoc, show xs.flatten ++ y = (xs ++ [y]).flatten by simp] at hW2
        clear ho
        go_wp2_with fail
        go_roundw
        case rel => exact ⟨i + 1, hlt, by go_num, xs ++ [y], R2, a2, c2, v2, hrun2, hW2, hG3⟩
        case measure => simp [intOf]; omega
    · obtain rfl : i = n := by omega
      have hi' : ¬ (i : Int) < (i : Int) := by omega
      have hall : Hid (heldO (item d) i false L = some (xs.flatten, R)) := held_all (by rw [if_neg (by decide)]; exact hrun.out) (fun h => by cases h)
      go_wp2_with fail
      go_ret
      exact .inr ⟨_, R, a1, c1, v1, hall.out, rfl, hW1, hG1.out⟩
/-- The last key of a map's items. -/
def lastK (xs : List (List Int)) : List Int := xs.getD (xs.length - 2) []
theorem lastK_two (xs : List (List Int)) (y z : List Int) : lastK (xs ++ [y] ++ [z]) = y := by
  unfold lastK
  rw [List.append_assoc, List.length_append, show xs.length + ([y] ++ [z]).length - 2 = xs.length by simp]
  simp [List.getD]
theorem keys_next {xs : List (List Int)} {y : List Int} (he : xs.length % 2 = 0) (hu : keysUp xs = true) (hy : 0 < y.length) : keysUp (xs ++ [y]) = ahead (lastK xs) y := by
  rcases Nat.eq_zero_or_pos xs.length with h | h
  · obtain rfl := List.eq_nil_of_length_eq_zero h
    cases y with
    | nil => cases hy
    | cons a b => rfl
  · rw [keysUp_key y he h, hu, Bool.true_and]
    rfl
/-- The bytes that a writer has put last, as a text. -/
theorem Wr.key {w0 w : World} {gw cap : Nat} {a : Option Addr} {L : List Tk} {v : Value} {X y : List Int} (h : Wr w0 w gw a cap L v (X ++ y)) (hy : 0 < y.length) : ∃ g cb, v = .slice (some ⟨g, 0, none⟩) (X ++ y).length cb ∧ KeyT w gw v (X ++ y).length (.slice (cutAddr (some ⟨g, 0, none⟩) cb X.length) ((X ++ y).length - X.length) (cb - X.length)) y := by
  have hO := h.bytes
  obtain ⟨b, cb, rfl, hX⟩ := h.text
  have hl : (X ++ y).length = X.length + y.length := List.length_append
  obtain ⟨-, ⟨e, -⟩ | ⟨g, cp, cur, e, g2, g3, g4, g5, g6, g7⟩⟩ := hO
  · simp only [Value.slice.injEq] at e; omega
  · simp only [Value.slice.injEq] at e
    obtain ⟨rfl, -, rfl⟩ := e
    refine ⟨g, cb, rfl, _, _, by rw [hl, Nat.add_sub_cancel_left], ?_, fun b off e hp => ?_⟩
    · have := hX.1.drop X.length (by omega)
      rw [List.drop_left, hl, Nat.add_sub_cancel_left] at this
      exact this
    · rw [cutAddr, if_neg (by omega), Option.map_some, Addr.add_mid, Nat.zero_add] at e
      simp only [Option.some.injEq, Addr.mk.injEq, and_true] at e
      obtain ⟨rfl, rfl⟩ := e
      exact ⟨h.ne g (.head _), fun _ => by omega⟩
set_option maxRecDepth 100000 in
set_option maxHeartbeats 1000000 in
theorem wheld_map {w0 : World} (d : Nat) (IH : HI w0 d) (D : Int) (hD : D = 7 - (d : Int)) (w : World) (gw : Nat) (a : Option Addr) (cap : Nat) (L : List Tk) (v : Value) (x : List Int) (n : Nat) (hn : n ≤ 64) (hW : Wr w0 w gw a cap L v x) : Calls Tryd.prog 31 #[.pointer (some ⟨gw, 0, none⟩), .int .i64 n, .bool true, .int .i64 D] w fun e w' => WSaid w0 w w' gw v x (heldO (item d) n true L) e := by
  replace hD := show Hid (D = 7 - (d : Int)) from hD
  have IH := show Hid _ from IH D hD.out
  have hn' : (n : Int) ≤ 64 := by omega
  go_enter Tryd.func31, Tryd.ntmps31
  go_upto_region 3 with fail
  go_loopw [9, 13] (fun lv iv wr => ∃ i : Nat, i ≤ n ∧ iv = .int .i64 (i : Int) ∧ ∃ xs R a' c' v', Hid (runs (item d) (2 * i) L = some (xs, R)) ∧ Hid (keysUp xs = true) ∧ Wr w0 wr gw a' c' R v' (x ++ xs.flatten) ∧ Hid (Gr w wr gw v x.length v') ∧ KeyT wr gw v' (x ++ xs.flatten).length lv (lastK xs)) (fun _ iv _ => n - (intOf iv).toNat)
  case atStart => exact ⟨0, Nat.zero_le _, rfl, [], L, a, cap, v, rfl, rfl, by rw [List.flatten_nil, List.append_nil]; exact hW, Gr.refl _ _ _ _, none, 0, rfl, (txt_nil w).1, fun b off e => by cases e⟩
  case round =>
    obtain ⟨i, hi, rfl, xs, R, a1, c1, v1, hrun, hup, hW1, hG1, hK1⟩ := hrel
    clear hW
    by_cases hlt : i < n
    · have hi' : (i : Int) < (n : Int) := by omega
      have hi0 : (0 : Int) ≤ (i : Int) := by omega
      obtain ⟨b, cb, rfl, -⟩ := hW1.text
      obtain ⟨d0, d1⟩ := own_two hW1.own
      have hcall := show Hid _ from IH.out wr gw a1 c1 R _ _ hW1
      have hcnt : Hid (2 * i < if true = true then 2 * n else n) := by show _ < _; rw [if_pos rfl]; omega
      have heven : Hid (xs.length % 2 = 0) := by show _ = _; rw [runs_length hrun.out]; omega
      obtain ⟨X, HX⟩ : ∃ X, Hid (x ++ xs.flatten = X) := ⟨_, rfl⟩
      rw [HX.out] at hcall hW1 hK1 d1 hG1
      have hxX : Hid (x.length ≤ X.length) := by show _ ≤ _; rw [← HX.out, List.length_append]; omega
      have hlX : Hid (X.length = x.length + xs.flatten.length) := by show _ = _; rw [← HX.out, List.length_append]
      have hXN : (X.length : Int) ≤ 32768 := by have := hW1.len; omega
      go_wp2_with fail
      refine Calls.mono (Hid.out hcall) ?_
      rintro e w2 (⟨rfl, hB2, ho⟩ | ⟨y, R2, a2, c2, v2, ho, rfl, hW2, hG2⟩)
      · have hfail : Hid (heldO (item d) n true L = none ∨ ∃ Y Q, heldO (item d) n true L = some (Y, Q) ∧ 32768 < x.length + Y.length) := by
          rcases ho with h | ⟨y, Q, h, hl⟩
          · exact .inl (held_stop hrun.out hcnt.out h)
          · rw [hlX.out] at hl
            exact held_long hrun.out hcnt.out h hl
        clear ho
        go_wp2_with fail
        go_ret
        exact .inl ⟨rfl, hB2, hfail.out⟩
      · have hyp := item_pos ho
        have ho := show Hid _ from ho
        obtain ⟨g2, cb2, rfl, hK2⟩ := hW2.key hyp
        obtain ⟨d0, d1⟩ := own_two hW2.own
        have hK1 := hK1.keep hG2 (show X.length ≤ (X ++ y).length by rw [List.length_append]; omega)
        have hle : X.length ≤ (X ++ y).length := by rw [List.length_append]; omega
        obtain ⟨a3, Ha3⟩ : ∃ z, Hid (cutAddr (some ⟨g2, 0, none⟩) cb2 X.length = z) := ⟨_, rfl⟩
        obtain ⟨n3, Hn3⟩ : ∃ z, Hid ((X ++ y).length - X.length = z) := ⟨_, rfl⟩
        obtain ⟨c3, Hc3⟩ : ∃ z, Hid (cb2 - X.length = z) := ⟨_, rfl⟩
        rw [Ha3.out, Hn3.out, Hc3.out] at hK2
        obtain ⟨a4, c4, e4, hV4, -⟩ := id hK2
        obtain ⟨a5, c5, e5, hV5, -⟩ := id hK1
        simp only [Value.slice.injEq] at e4
        obtain ⟨rfl, rfl, rfl⟩ := e4
        subst e5
        have hcmp := show Hid _ from compare_is hV5 hV4
        obtain ⟨M, HM⟩ : ∃ M, Hid ((X ++ y).length = M) := ⟨_, rfl⟩
        rw [HM.out] at hle d1 hK2 hK1
        have hW2 := show Hid _ from hW2
        have hG2 := show Hid _ from hG2
        have hrun2 : Hid (runs (item d) (2 * i + 1) L = some (xs ++ [y], R2)) := runs_snoc hrun.out ho.out
        have hkn : Hid (keysUp (xs ++ [y]) = ahead (lastK xs) y) := keys_next heven.out hup.out hyp
        go_wp2_with (refine wpList_slice_from (by rfl) 25 (.tmp 29) (.tmp 30) (by rfl) 5 Tryd.underlying25 info5s (some ⟨g2, 0, none⟩) M cb2 X.length (by rfl) (by rfl) hle ?_; rw [Ha3.out, ← HM.out, Hn3.out, Hc3.out, HM.out])
        refine Calls.mono (Hid.out hcmp) ?_
        rintro e w3 ⟨⟨z, rfl, hz⟩, rfl⟩
        rw [← hkn.out] at hz
        cases hu2 : keysUp (xs ++ [y]) with
        | false =>
          rw [hu2] at hz
          have hz0 : 0 ≤ z := by simpa using hz
          have hno : Hid (heldO (item d) n true L = none) := held_order hrun.out (show 2 * i < 2 * n by omega) ho.out hu2
          clear hz hu2
          go_wp2_with fail
          go_ret
          exact wsaid_no rfl hW2.out.below hno.out
        | true =>
          rw [hu2] at hz
          have hz0 : ¬ 0 ≤ z := by simpa using hz
          have hup2 : Hid (keysUp (xs ++ [y]) = true) := hu2
          have hcall2 := show Hid _ from IH.out w3 gw a2 c2 R2 _ _ hW2.out
          rw [HM.out] at hcall2
          have hcnt2 : Hid (2 * i + 1 < if true = true then 2 * n else n) := by show _ < _; rw [if_pos rfl]; omega
          have hMl : Hid (M = x.length + (xs ++ [y]).flatten.length) := by show _ = _; rw [← HM.out, List.length_append, hlX.out, List.flatten_append, List.length_append]; simp; omega
          have hMx : Hid (x.length ≤ M) := by show _ ≤ _; rw [hMl.out]; omega
          have hG12 : Hid (Gr w w3 gw v x.length (.slice (some ⟨g2, 0, none⟩) M cb2)) := by have := hG2.out; rw [HM.out] at this; exact hG1.out.trans this hxX.out
          clear hz hu2 hcmp hcall
          go_wp2_with fail
          refine Calls.mono (Hid.out hcall2) ?_
          rintro e w4 (⟨rfl, hB4, ho4⟩ | ⟨y4, R4, a6, c6, v4, ho4, rfl, hW4, hG4⟩)
          · have hfail : Hid (heldO (item d) n true L = none ∨ ∃ Y Q, heldO (item d) n true L = some (Y, Q) ∧ 32768 < x.length + Y.length) := by
              rcases ho4 with h | ⟨y4, Q, h, hl⟩
              · exact .inl (held_stop hrun2.out hcnt2.out h)
              · rw [HM.out, hMl.out] at hl
                exact held_long hrun2.out hcnt2.out h hl
            clear ho4
            go_wp2_with fail
            go_ret
            exact .inl ⟨rfl, hB4, hfail.out⟩
          · have hrun4 : Hid (runs (item d) (2 * (i + 1)) L = some (xs ++ [y] ++ [y4], R4)) := runs_snoc hrun2.out ho4
            have hup4 : Hid (keysUp (xs ++ [y] ++ [y4]) = true) := by
              show _ = _
              rw [keysUp_value y4 (by rw [List.length_append, List.length_singleton]; have := heven.out; omega)]
              exact hup2.out
            have hG4' : Gr w3 w4 gw (.slice (some ⟨g2, 0, none⟩) M cb2) M v4 := by rw [HM.out] at hG4; exact hG4
            have hG5 : Hid (Gr w w4 gw v x.length v4) := hG12.out.trans hG4' hMx.out
            have hlen4 : Hid (M ≤ (x ++ (xs ++ [y] ++ [y4]).flatten).length) := by
              show _ ≤ _
              rw [hMl.out, List.length_append, show (xs ++ [y] ++ [y4]).flatten = (xs ++ [y]).flatten ++ [y4].flatten from List.flatten_append, List.length_append]; omega
            have hK4 : Hid (KeyT w4 gw v4 (x ++ (xs ++ [y] ++ [y4]).flatten).length (.slice a3 y.length c3) (lastK (xs ++ [y] ++ [y4]))) := by
              show KeyT _ _ _ _ _ _
              rw [lastK_two]; exact hK2.keep hG4' hlen4.out
            have hW5 : Hid (Wr w0 w4 gw a6 c6 R4 v4 (x ++ (xs ++ [y] ++ [y4]).flatten)) := by
              have e : X ++ y ++ y4 = x ++ (xs ++ [y] ++ [y4]).flatten := by rw [← HX.out]; simp
              rw [e] at hW4; exact hW4
            clear ho4 hW4 hG4 hG4'
            go_wp2_with fail
            go_roundw
            case rel => exact ⟨i + 1, hlt, by go_num, _, R4, a6, c6, v4, hrun4, hup4, hW5.out, hG5, hK4.out⟩
            case measure => simp [intOf]; omega
    · obtain rfl : i = n := by omega
      have hi' : ¬ (i : Int) < (i : Int) := by omega
      have hall : Hid (heldO (item d) i true L = some (xs.flatten, R)) := held_all (by rw [if_pos rfl]; exact hrun.out) (fun _ => hup.out)
      go_wp2_with fail
      go_ret
      exact .inr ⟨_, R, a1, c1, v1, hall.out, rfl, hW1, hG1.out⟩
theorem wheld_step {w0 : World} (d : Nat) (IH : HI w0 d) : HH w0 d := by
  intro D hD w gw a cap L v x n pairs hn hW
  cases pairs with
  | false => exact wheld_list d IH D hD w gw a cap L v x n hn hW
  | true => exact wheld_map d IH D hD w gw a cap L v x n hn hW
/-- The program's item, however deep. -/
theorem witem_is {w0 : World} (hT : TU w0) : ∀ d, d ≤ 6 → HI w0 d := fun d => by
  induction d with
  | zero => exact fun _ => witem_step hT 0 (by decide) (fun _ h => by cases h)
  | succ d ih => exact fun h => witem_step hT (d + 1) h (fun d' e => by
      cases e
      exact wheld_step d (ih (by omega)))
end Go.Proofs.YtaabcllghniaoaaDoor
