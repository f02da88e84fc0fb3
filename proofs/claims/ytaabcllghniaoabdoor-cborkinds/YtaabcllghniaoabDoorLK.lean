/- The law CborKinds, over contracts. -/
import Derived.Test.YtaabcllghniaoabDoorCV
namespace Go.Proofs.YtaabcllghniaoabDoor
open Go Go.RowKit
/-- One token is encoded. -/
theorem enc1 {T : World → Prop} (F : Cbor T) {w0 w : World} (hT : T w0) (hB : Below w0.heap.size w0 w) (k n : Int) (b : List Int) (ht : (⟨k, n, b⟩ : Tk).wf) (hl : b.length ≤ 100000) {v : Value} (hv : Tx w v b) : Calls Tryd.prog 10 #[.slice (some ⟨w.heap.size, 0, none⟩) 1 1] (w.alloc (.cells #[.int .i64 k, .int .i64 n, v] 30)) fun e w' =>
    ((enc [⟨k, n, b⟩] = none ∧ ∃ a' c', e = .returned (.tuple #[.slice a' 0 c', .int .i64 1]) ∧ Txt w' a' c' []) ∨ ∃ x a c, enc [⟨k, n, b⟩] = some x ∧ e = .returned (.tuple #[.slice a x.length c, .int .i64 0]) ∧ Txt w' a c x) ∧ Below w.heap.size w w' ∧ Below w0.heap.size w0 w' := by
  have hB1 := alloc_below w (.cells #[.int .i64 k, .int .i64 n, v] 30)
  have hB2 := hB.trans (hB1.mono hB.size)
  refine (F.encode _ _ [⟨k, n, b⟩] ⟨by simp, fun s hs => by obtain rfl := List.mem_singleton.1 hs; exact hl⟩ _ (F.keep _ _ hT hB2) (toks_one (t := ⟨k, n, b⟩) (P := fun _ => True) (own_new _ _ _) ht (hv.below hB1) (fun _ _ _ => trivial))).mono ?_
  rintro e w' ⟨h, hb⟩
  refine ⟨h.imp id fun ⟨x, a, c, h1, h2, h3, h4⟩ => ⟨x, a, c, h1, h2, (txt_same h3 h4).2⟩, hB1.trans (hb.mono hB1.size), hB2.trans (hb.mono hB2.size)⟩
set_option maxRecDepth 100000 in
set_option maxHeartbeats 4000000 in
theorem ckinds_is {T : World → Prop} (F : Cbor T) {a : Option Addr} {cap : Nat} {m : List Int} {n : Int} {w : World} (hT : T w) (hm : Txt w a cap m) : Calls Tryd.prog 4 #[.slice a m.length cap, .int .i64 n] w fun e w' => e = .returned (.bool true) ∧ Below w.heap.size w w' := by
  have hwk := show Hid _ from cwakes F
  have hlm : (m.length : Int) ≤ 9223372036854775807 := by have h3 := Nat.le_trans hm.1.2.1 hm.1.2.2.1; unfold maxLen at h3; omega
  by_cases hlong : 300 < m.length
  · have hlong' : (300 : Int) < (m.length : Int) := by omega
    go_enter Tryd.func4, Tryd.ntmps4
    go_wp2_with fail
    go_ret
    exact ⟨rfl, Below.refl _ _⟩
  have hlong' : ¬ (300 : Int) < (m.length : Int) := by omega
  clear hlm
  obtain ⟨N, hN, hN1⟩ := and_max n
  have hN1 : Hid (N < 9223372036854775808) := hN1
  have x1 : Hid (enc [⟨3, 0, m⟩] = some (hd 2 m.length ++ m)) := by show _ = _; rw [enc_bytes, if_pos (by rw [List.length_append, hd_length]; have := hsize_le m.length; omega)]
  have x2 : Hid (enc [⟨4, 0, m⟩] = if utf8 m = true then some (hd 3 m.length ++ m) else none) := enc_text (by omega)
  have x3 : Hid (enc [⟨1, (N : Int), []⟩] = some (hd 0 N)) := enc_int hN1.out
  have x4 : Hid (enc [⟨2, (N : Int), []⟩] = some (hd 1 N)) := enc_neg hN1.out
  have wf1 : ∀ k : Int, -9223372036854775808 ≤ k → k < 9223372036854775808 → (⟨k, 0, m⟩ : Tk).wf := fun k h1 h2 => ⟨⟨h1, h2⟩, by show (-9223372036854775808 : Int) ≤ 0; decide, by show (0 : Int) < 9223372036854775808; decide⟩
  have wf2 : ∀ k : Int, -9223372036854775808 ≤ k → k < 9223372036854775808 → (⟨k, (N : Int), []⟩ : Tk).wf := fun k h1 h2 => ⟨⟨h1, h2⟩, by show (-9223372036854775808 : Int) ≤ (N : Int); omega, by show (N : Int) < 9223372036854775808; have := hN1.out; omega⟩
  have hml : m.length ≤ 100000 := by omega
  have q1 := show Hid _ from enc1 F hT (Below.refl _ _) 3 0 m (wf1 3 (by decide) (by decide)) hml (v := .slice a m.length cap) ⟨a, cap, rfl, hm⟩
  have q2 : Hid (∀ w1, Below w.heap.size w w1 → Calls _ _ _ _ _) := fun w1 hB => enc1 F hT hB 4 0 m (wf1 4 (by decide) (by decide)) hml (v := .slice a m.length cap) ⟨a, cap, rfl, hm.below hB⟩
  have q3 : Hid (∀ w1, Below w.heap.size w w1 → Calls _ _ _ _ _) := fun w1 hB => enc1 F hT hB 1 (N : Int) [] (wf2 1 (by decide) (by decide)) (by decide) (v := .slice none 0 0) ⟨none, 0, rfl, txt_nil _⟩
  have q4 : Hid (∀ w1, Below w.heap.size w w1 → Calls _ _ _ _ _) := fun w1 hB => enc1 F hT hB 2 (N : Int) [] (wf2 2 (by decide) (by decide)) (by decide) (v := .slice none 0 0) ⟨none, 0, rfl, txt_nil _⟩
  clear wf1 wf2
  go_enter Tryd.func4, Tryd.ntmps4
  go_wp2_with fail
  refine Calls.mono (Hid.out q1) ?_
  rintro e w1 ⟨⟨hn, -⟩ | ⟨x, a1, c1, hx, rfl, hX1⟩, -, hB1⟩
  · rw [x1.out] at hn; cases hn
  rw [x1.out] at hx
  obtain rfl := Option.some.inj hx
  obtain ⟨A1, HA1⟩ : ∃ L, Hid (hd 2 m.length ++ m = L) := ⟨_, rfl⟩
  rw [HA1.out] at hX1 ⊢
  clear hx q1
  go_wp2_with fail
  refine Calls.mono (q2.out w1 hB1) ?_
  rintro e w2 ⟨hS2, hb2, hB2⟩
  have hX1 := hX1.below hb2
  have hm2 := hm.below hB2
  obtain ⟨A2, a2, c2, f2, rfl, hX2, hf2, hne2⟩ : ∃ A2 a2 c2, ∃ f2 : Int, e = .returned (.tuple #[.slice a2 (A2 : List Int).length c2, .int .i64 f2]) ∧ Txt w2 a2 c2 A2 ∧ Hid (f2 = if utf8 m = true then 0 else 1) ∧ Hid (A1 ≠ A2) := by
    rcases hS2 with ⟨hn, a2, c2, rfl, hX2⟩ | ⟨x, a2, c2, hx, rfl, hX2⟩
    · rw [x2.out] at hn
      refine ⟨[], a2, c2, 1, rfl, hX2, ?_, fun h => ?_⟩
      · show _ = _
        cases hu : utf8 m with
        | true => rw [hu] at hn; cases hn
        | false => rfl
      · rw [← HA1.out] at h
        have := congrArg List.length h
        rw [List.length_append, hd_length] at this
        simp at this
    · rw [x2.out] at hx
      cases hu : utf8 m with
      | false => rw [hu] at hx; cases hx
      | true =>
        rw [hu, if_pos rfl] at hx
        obtain rfl := Option.some.inj hx
        exact ⟨_, a2, c2, 0, rfl, hX2, (by show _ = _; rw [if_pos rfl]), by show _ ≠ _; rw [← HA1.out]; exact hd_unlike (by decide) _ _⟩
  clear hS2 q2
  go_wp2_with fail
  refine Calls.mono (q3.out w2 hB2) ?_
  rintro e w3 ⟨⟨hn, -⟩ | ⟨x, a3, c3, hx, rfl, hX3⟩, hb3, hB3⟩
  · rw [x3.out] at hn; cases hn
  rw [x3.out] at hx
  obtain rfl := Option.some.inj hx
  obtain ⟨A3, HA3⟩ : ∃ L, Hid (hd 0 N = L) := ⟨_, rfl⟩
  rw [HA3.out] at hX3 ⊢
  have hX1 := hX1.below hb3
  have hX2 := hX2.below hb3
  clear hx q3
  go_wp2_with fail
  refine Calls.mono (q4.out w3 hB3) ?_
  rintro e w4 ⟨⟨hn, -⟩ | ⟨x, a4, c4, hx, rfl, hX4⟩, hb4, hB4⟩
  · rw [x4.out] at hn; cases hn
  rw [x4.out] at hx
  obtain rfl := Option.some.inj hx
  obtain ⟨A4, HA4⟩ : ∃ L, Hid (hd 1 N = L) := ⟨_, rfl⟩
  rw [HA4.out] at hX4 ⊢
  have hne4 : Hid (A3 ≠ A4) := by
    show _ ≠ _
    rw [← HA3.out, ← HA4.out]
    have := hd_unlike (mj := 0) (mj' := 1) (n := N) (n' := N) (by decide) [] []
    simpa using this
  have hX1 := hX1.below hb4
  have hX2 := hX2.below hb4
  have hX3 := hX3.below hb4
  clear hx q4
  have hut := show Hid _ from F.utf8 a cap m hml w4 (F.keep _ _ hT hB4) (hm.below hB4)
  go_wp2_with fail
  refine Calls.mono (Hid.out hut) ?_
  rintro e w5 ⟨rfl, hb5⟩
  have hB5 := hB4.trans (hb5.mono hB4.size)
  have hX1 := hX1.below hb5
  have hX2 := hX2.below hb5
  have hX3 := hX3.below hb5
  have hX4 := hX4.below hb5
  have hf2' : ((f2 == 0) == utf8 m) = true := by rw [hf2.out]; cases utf8 m <;> rfl
  have hf2'' : ((f2 == 0) != utf8 m) = false := by rw [bne, hf2']; rfl
  have hA1l : A1.length ≤ 100000 := by rw [← HA1.out, List.length_append, hd_length]; have := hsize_le m.length; omega
  have hdc := show Hid _ from F.decode a1 c1 A1 hA1l w5 (F.keep _ _ hT hB5) hX1
  clear hut
  go_wp2_with fail
  refine Calls.mono (Hid.out hdc) ?_
  rintro e w6 ⟨⟨hn, -⟩ | ⟨l, a6, c6, hl, rfl, hT6⟩, hb6⟩
  · rw [← HA1.out, dec_iff.2 x1.out] at hn; cases hn
  rw [← HA1.out, dec_iff.2 x1.out] at hl
  obtain rfl := Option.some.inj hl
  have hB6 := hB5.trans (hb6.mono hB5.size)
  have hX1 := hX1.below hb6
  have hX2 := hX2.below hb6
  have hX3 := hX3.below hb6
  have hX4 := hX4.below hb6
  clear hl hdc
  obtain ⟨b6, o6, rfl, hat⟩ := hT6.1.at (i := 0) rfl
  rw [Nat.zero_mul, Nat.add_zero] at hat
  obtain ⟨t0, t1, _, t2, ⟨tx, tc, rfl, htx⟩, -⟩ := hat
  rw [show [(⟨3, 0, m⟩ : Tk)].length = 1 from rfl]
  go_wp2_with fail
  refine (bytes_tx htx (hm.below hB6)).mono ?_
  rintro e w7 ⟨rfl, hb7⟩
  rw [decide_eq_true rfl]
  have hB7 := hB6.trans (hb7.mono hB6.size)
  have hX1 := hX1.below hb7
  have hX2 := hX2.below hb7
  have hX3 := hX3.below hb7
  have hX4 := hX4.below hb7
  go_wp2_with fail
  refine (bytes_tx hX1 hX2).mono ?_
  rintro e w8 ⟨rfl, hb8⟩
  rw [decide_eq_false hne2.out]
  have hB8 := hB7.trans (hb8.mono hB7.size)
  have hX3 := hX3.below hb8
  have hX4 := hX4.below hb8
  go_wp2_with fail
  refine (bytes_tx hX3 hX4).mono ?_
  rintro e w9 ⟨rfl, hb9⟩
  rw [decide_eq_false hne4.out]
  have hB9 := hB8.trans (hb9.mono hB8.size)
  go_wp2_with fail
  refine (hwk.out w9 (F.keep _ _ hT hB9)).mono ?_
  rintro e w10 ⟨rfl, hb10⟩
  go_wp2_with fail
  go_ret
  exact ⟨rfl, hB9.trans (hb10.mono hB9.size)⟩
end Go.Proofs.YtaabcllghniaoabDoor
