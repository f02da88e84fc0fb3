/- The page's tokens of bytes, whole; its Decode. -/
import Derived.Test.YtaabcllghniaoaaDoorCR
import Derived.Test.YtaabcllghniaoaaDoorCL
import Derived.Test.YtaabcllghniaoaaDoorCM2
namespace Go.Proofs.YtaabcllghniaoaaDoor
open Go Go.RowKit
theorem ptok_is {w0 : World} {a : Option Addr} {cap : Nat} {m : List Int} (hm : Txt w0 a cap m) (hl : m.length ≤ 100000) : ∀ d, d ≤ 6 → IHt w0 a cap m d (6 - (d : Int)) := fun d => by
  induction d with
  | zero => exact fun _ => ptok_step hm hl 0 (by decide) _ rfl (fun _ h => by cases h)
  | succ d ih => exact fun h => ptok_step hm hl (d + 1) h _ rfl (fun d' e => by
      cases e
      have := ih (by omega)
      rwa [show 6 - (d : Int) = 6 - ((d + 1 : Nat) : Int) + 1 by omega] at this)
/-- What a Decode tells: the tokens, or that there are none. -/
def DecSaid (w w' : World) (o : Option (List Tk)) (e : Ending) : Prop :=
  (o = none ∧ e = .returned (.tuple #[.slice none 0 0, .bool false])) ∨
  ∃ l a c, o = some l ∧ e = .returned (.tuple #[.slice a l.length c, .bool true]) ∧ OwnToks w' w.heap.size (.slice a l.length c) l
set_option maxRecDepth 100000 in
set_option maxHeartbeats 2000000 in
theorem pdecode_is {a : Option Addr} {cap : Nat} {m : List Int} {w : World} (hm : Txt w a cap m) : Calls Tryd.prog 19 #[.slice a m.length cap] w fun e w' => DecSaid w w' (dec m) e ∧ Below w.heap.size w w' := by
  have hlm : (m.length : Int) ≤ 9223372036854775807 := by have h3 := Nat.le_trans hm.1.2.1 hm.1.2.2.1; unfold maxLen at h3; omega
  obtain ⟨O, HO⟩ : ∃ O, Hid (dec m = O) := ⟨_, rfl⟩
  rw [HO.out]
  by_cases hlong : 32768 < m.length
  · have hlong' : (32768 : Int) < (m.length : Int) := by omega
    have hr : Hid (O = none) := by show _ = _; rw [← HO.out]; exact dec_long hlong
    go_enter Tryd.func19, Tryd.ntmps19
    go_wp2_with fail
    exact bodyPost_ret (results_tmp2 Tryd.results19 _ _ _) rfl ⟨.inl ⟨hr.out, rfl⟩, Below.refl _ _⟩
  have hlong' : ¬ (32768 : Int) < (m.length : Int) := by omega
  clear hlm
  have IH : Hid (Calls Tryd.prog 25 #[.slice a m.length cap, .int .i64 0, .slice none 0 0, .int .i64 0] w fun e w' => TokSaid w w' m [] (toks 6 (m.drop 0)) e ∧ Below w.heap.size w w') := ptok_is hm (by omega) 6 (by decide) 0 w none 0 [] (Nat.zero_le _) (by decide) (Below.refl _ _) (ownToks_nil _ _)
  go_enter Tryd.func19, Tryd.ntmps19
  go_wp2_with fail
  refine Calls.mono (Hid.out IH) ?_
  rintro e w1 ⟨hS, hB1⟩
  rw [List.drop_zero] at hS
  rcases hS with ⟨rfl, hbad⟩ | ⟨ts, q, a1, c1, hts, hq, hlen, rfl, hO1⟩
  · have hr : Hid (O = none) := by
      show _ = _
      rw [← HO.out]
      refine dec_none_of (hbad.imp id fun ⟨ts, r, h, hx⟩ => ⟨ts, r, h, .inl ?_⟩)
      simpa using hx
    clear hbad
    go_wp2_with fail
    exact bodyPost_ret (results_tmp2 Tryd.results19 _ _ _) rfl ⟨.inl ⟨hr.out, rfl⟩, hB1⟩
  · rw [List.nil_append] at hO1
    rw [show ([] : List Tk).length + ts.length = ts.length by simp] at hlen hO1 ⊢
    have hts := show Hid _ from hts
    have hO1 : Hid (OwnToks w1 w.heap.size (.slice a1 ts.length c1) ts) := hO1
    have hq0 : (0 : Int) ≤ (q : Int) := by omega
    by_cases hqe : q = m.length
    · have e1 : ((q : Int) == (m.length : Int)) = true := beq_iff_eq.2 (by omega)
      have e2 : ((q : Int) != (m.length : Int)) = false := by rw [bne, e1]; rfl
      have hts2 : Hid (toks 6 m = some (ts, [])) := by show _ = _; rw [hts.out, hqe, List.drop_length]
      have hlt : Light ts := ⟨by omega, fun t ht => by have := (toks_light 6 hts.out).1 t ht; omega⟩
      obtain ⟨ax, cx, ex, hT1⟩ := hO1.out.form
      simp only [Value.slice.injEq] at ex
      obtain ⟨rfl, -, rfl⟩ := ex
      have hencc := show Hid _ from pencode_is hT1 hlt
      have hts60 : (ts.length : Int) ≤ 600 := by omega
      clear hqe
      go_wp2_with fail
      refine Calls.mono (Hid.out hencc) ?_
      rintro e w2 ⟨hE, hb2⟩
      have hB2 := hB1.trans (hb2.mono hB1.size)
      rcases hE with ⟨hn, rfl⟩ | ⟨x, ax2, cx2, hx, rfl, hOx, hBx⟩
      · have hr : Hid (O = none) := by
          show _ = _
          rw [← HO.out]
          exact dec_none_of (.inr ⟨ts, [], hts2.out, .inr (.inr (by rw [hn]; exact fun h => by cases h))⟩)
        clear hn
        go_wp2_with fail
        exact bodyPost_ret (results_tmp2 Tryd.results19 _ _ _) rfl ⟨.inl ⟨hr.out, rfl⟩, hB2⟩
      · have hx := show Hid _ from hx
        have hcmp := show Hid _ from bytes_tx (txt_same hOx hBx).2 (hm.below hB2)
        go_wp2_with fail
        refine Calls.mono (Hid.out hcmp) ?_
        rintro e w3 ⟨rfl, hb3⟩
        have hB3 := hB2.trans (hb3.mono hB2.size)
        by_cases hxm : x = m
        · have hr : Hid (O = some ts) := by
            show _ = _
            rw [← HO.out]
            exact dec_of (by rw [← hxm]; exact hx.out)
          rw [decide_eq_true hxm]
          clear hxm
          go_wp2_with fail
          exact bodyPost_ret (results_tmp2 Tryd.results19 _ _ _) rfl ⟨.inr ⟨ts, a1, c1, hr.out, rfl, (hO1.out.below hb2).below hb3⟩, hB3⟩
        · have hr : Hid (O = none) := by
            show _ = _
            rw [← HO.out]
            exact dec_none_of (.inr ⟨ts, [], hts2.out, .inr (.inr (by rw [hx.out]; exact fun h => hxm (Option.some.inj h)))⟩)
          rw [decide_eq_false hxm]
          clear hxm
          go_wp2_with fail
          exact bodyPost_ret (results_tmp2 Tryd.results19 _ _ _) rfl ⟨.inl ⟨hr.out, rfl⟩, hB3⟩
    · have e1 : ((q : Int) == (m.length : Int)) = false := beq_eq_false_iff_ne.2 (by omega)
      have e2 : ((q : Int) != (m.length : Int)) = true := by rw [bne, e1]; rfl
      have hr : Hid (O = none) := by
        show _ = _
        rw [← HO.out]
        refine dec_none_of (.inr ⟨ts, m.drop q, hts.out, .inr (.inl fun h => ?_)⟩)
        have := congrArg List.length h
        rw [List.length_drop, List.length_nil] at this
        omega
      clear hqe
      go_wp2_with fail
      exact bodyPost_ret (results_tmp2 Tryd.results19 _ _ _) rfl ⟨.inl ⟨hr.out, rfl⟩, hB1⟩
end Go.Proofs.YtaabcllghniaoaaDoor
