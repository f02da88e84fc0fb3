/- The law CborExact, over contracts. -/
import Derived.Test.YtaabcllghniaoaaDoorCV
import Derived.Test.YtaabcllghniaoaaDoorCL
namespace Go.Proofs.YtaabcllghniaoaaDoor
open Go Go.RowKit
set_option maxRecDepth 100000 in
set_option maxHeartbeats 2000000 in
theorem cexact_is {T : World → Prop} (F : Cbor T) {a : Option Addr} {cap : Nat} {l : List Tk} {w : World} (hT : T w) (hm : Toks w a cap l) : Calls Tryd.prog 3 #[.slice a l.length cap] w fun e w' => e = .returned (.bool true) ∧ Below w.heap.size w w' := by
  have hwk := show Hid _ from cwakes F
  go_enter Tryd.func3, Tryd.ntmps3
  go_wp2_with fail
  refine (heavy_is hm).mono ?_
  rintro e w1 ⟨hS, rfl⟩
  rcases hS with rfl | ⟨rfl, hl7, hb3⟩
  · go_wp2_with fail
    go_ret
    exact ⟨rfl, Below.refl _ _⟩
  have hlight : Hid (Light l) := ⟨by omega, fun t ht => by have := hb3 t ht; omega⟩
  have hb3 := show Hid _ from hb3
  have hl7' : (l.length : Int) ≤ 700 := by omega
  go_wp2_with fail
  refine (twintoks_is hm (by omega) (fun t ht => by have := hb3.out t ht; omega)).mono ?_
  rintro e w2 ⟨a2, c2, rfl, hO2, hB2⟩
  obtain ⟨x2, y2, e2, hT2⟩ := hO2.form
  simp only [Value.slice.injEq] at e2
  obtain ⟨rfl, -, rfl⟩ := e2
  have hm2 := hm.below hB2
  go_wp2_with fail
  refine (pencode_is hm2 hlight.out).mono ?_
  rintro e w3 ⟨hS, hb3⟩
  have hB3 := hB2.trans (hb3.mono hB2.size)
  have hT3 := hT2.below hb3
  have hm3 := hm2.below hb3
  have hE := show Hid _ from F.encode a2 c2 l hlight.out w3 (F.keep _ _ hT hB3) hT3
  have hC := show Hid _ from fun w (hw : T w) h => F.check a2 c2 l hlight.out w hw h
  rcases hS with ⟨hn, rfl⟩ | ⟨x, a3, c3, hx, rfl, hO3, hBx⟩
  · have hn := show Hid _ from hn
    go_wp2_with fail
    refine Calls.mono (Hid.out hE) ?_
    rintro e w4 ⟨⟨-, a4, c4, rfl, hX4⟩ | ⟨x, _, _, hx, -⟩, hb4⟩
    · have hB4 := hB3.trans (hb4.mono hB3.size)
      have hT4 := hT3.below hb4
      go_wp2_with fail
      refine (hC.out w4 (F.keep _ _ hT hB4) hT4).mono ?_
      rintro e w5 ⟨rfl, hb5⟩
      rw [hn.out]
      have hB5 := hB4.trans (hb5.mono hB4.size)
      have hT5 := hT4.below hb5
      simp only [Option.isSome_none, Bool.false_eq_true, if_false]
      go_wp2_with fail
      refine (hC.out w5 (F.keep _ _ hT hB5) hT5).mono ?_
      rintro e w6 ⟨rfl, hb6⟩
      rw [hn.out]
      have hB6 := hB5.trans (hb6.mono hB5.size)
      simp only [Option.isSome_none, Bool.false_eq_true, if_false]
      go_wp2_with fail
      refine (toks_cmp (hT5.below hb6) (hm.below hB6)).mono ?_
      rintro e w7 ⟨rfl, hb7⟩
      rw [decide_eq_true rfl]
      have hB7 := hB6.trans (hb7.mono hB6.size)
      go_wp2_with fail
      refine (hwk.out w7 (F.keep _ _ hT hB7)).mono ?_
      rintro e w8 ⟨rfl, hb8⟩
      go_wp2_with fail
      go_ret
      exact ⟨rfl, hB7.trans (hb8.mono hB7.size)⟩
    · rw [hn.out] at hx; cases hx
  · have hx := show Hid _ from hx
    have hX3 := (txt_same hO3 hBx).2
    go_wp2_with fail
    refine Calls.mono (Hid.out hE) ?_
    rintro e w4 ⟨⟨hn, -⟩ | ⟨x', a4, c4, hx', rfl, hO4, hBx4⟩, hb4⟩
    · rw [hx.out] at hn; cases hn
    obtain rfl : x' = x := Option.some.inj (hx'.symm.trans hx.out)
    have hX4 := (txt_same hO4 hBx4).2
    clear hx' hE
    have hB4 := hB3.trans (hb4.mono hB3.size)
    have hT4 := hT3.below hb4
    have hX3' := hX3.below hb4
    have hxl := (enc_some hx.out).2.2
    go_wp2_with fail
    refine (hC.out w4 (F.keep _ _ hT hB4) hT4).mono ?_
    rintro e w5 ⟨rfl, hb5⟩
    rw [hx.out]
    have hB5 := hB4.trans (hb5.mono hB4.size)
    have hT5 := hT4.below hb5
    simp only [Option.isSome_some, if_true]
    go_wp2_with fail
    refine (toks_cmp hT5 (hm.below hB5)).mono ?_
    rintro e w6 ⟨rfl, hb6⟩
    rw [decide_eq_true rfl]
    have hB6 := hB5.trans (hb6.mono hB5.size)
    have hX4' := (hX4.below hb5).below hb6
    have hD := show Hid _ from F.decode a4 c4 x' (by omega) w6 (F.keep _ _ hT hB6) hX4'
    go_wp2_with fail
    refine Calls.mono (Hid.out hD) ?_
    rintro e w7 ⟨⟨hn, -⟩ | ⟨k, a7, c7, hk, rfl, hT7⟩, hb7⟩
    · rw [dec_iff.2 hx.out] at hn; cases hn
    obtain rfl : k = l := Option.some.inj (hk.symm.trans (dec_iff.2 hx.out))
    clear hk hD
    have hB7 := hB6.trans (hb7.mono hB6.size)
    go_wp2_with fail
    refine (bytes_tx (hX4'.below hb7) (((hX3'.below hb5).below hb6).below hb7)).mono ?_
    rintro e w8 ⟨rfl, hb8⟩
    rw [decide_eq_true rfl]
    have hB8 := hB7.trans (hb8.mono hB7.size)
    go_wp2_with fail
    refine (toks_cmp (hT7.below hb8) (hm.below hB8)).mono ?_
    rintro e w9 ⟨rfl, hb9⟩
    rw [decide_eq_true rfl]
    have hB9 := hB8.trans (hb9.mono hB8.size)
    go_wp2_with fail
    refine (hwk.out w9 (F.keep _ _ hT hB9)).mono ?_
    rintro e w10 ⟨rfl, hb10⟩
    go_wp2_with fail
    go_ret
    exact ⟨rfl, hB9.trans (hb10.mono hB9.size)⟩
end Go.Proofs.YtaabcllghniaoaaDoor
