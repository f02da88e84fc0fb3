/- The law CborReads, over contracts. -/
import Derived.Test.YtaabcllghniaoaaDoorCV
import Derived.Test.YtaabcllghniaoaaDoorCT
namespace Go.Proofs.YtaabcllghniaoaaDoor
open Go Go.RowKit
set_option maxRecDepth 100000 in
set_option maxHeartbeats 2000000 in
theorem creads_is {T : World → Prop} (F : Cbor T) {a : Option Addr} {cap : Nat} {m : List Int} {w : World} (hT : T w) (hm : Txt w a cap m) : Calls Tryd.prog 4 #[.slice a m.length cap] w fun e w' => e = .returned (.bool true) ∧ Below w.heap.size w w' := by
  have hlm : (m.length : Int) ≤ 9223372036854775807 := by have h3 := Nat.le_trans hm.1.2.1 hm.1.2.2.1; unfold maxLen at h3; omega
  have hwk := show Hid _ from cwakes F
  by_cases hlong : 3000 < m.length
  · have hlong' : (3000 : Int) < (m.length : Int) := by omega
    go_enter Tryd.func4, Tryd.ntmps4
    go_wp2_with fail
    go_ret
    exact ⟨rfl, Below.refl _ _⟩
  have hlong' : ¬ (3000 : Int) < (m.length : Int) := by omega
  clear hlm
  go_enter Tryd.func4, Tryd.ntmps4
  go_wp2_with fail
  refine (twin_is hm (by omega)).mono ?_
  rintro e w1 ⟨a1, c1, rfl, hO1, hX1, hb1⟩
  have hD := show Hid _ from F.decode a1 c1 m (by omega) w1 (F.keep _ _ hT hb1) hX1
  go_wp2_with fail
  refine Calls.mono (Hid.out hD) ?_
  rintro e w2 ⟨hS, hb2⟩
  have hB2 := hb1.trans (hb2.mono hb1.size)
  have hX2 := hX1.below hb2
  have hm2 := hm.below hB2
  clear hD
  rcases hS with ⟨hn, a2, c2, rfl, hT2⟩ | ⟨k, a2, c2, hk, rfl, hT2⟩
  · have hn := show Hid _ from hn
    go_wp2_with fail
    refine (pdecode_is hm2).mono ?_
    rintro e w3 ⟨hS, hb3⟩
    rcases hS with ⟨-, rfl⟩ | ⟨k, a3, c3, hk, -⟩
    · have hB3 := hB2.trans (hb3.mono hB2.size)
      go_wp2_with fail
      refine (toks_cmp (l := []) (m := []) (hT2.below hb3) (toks_none _ _)).mono ?_
      rintro e w4 ⟨rfl, hb4⟩
      rw [decide_eq_true rfl]
      have hB4 := hB3.trans (hb4.mono hB3.size)
      go_wp2_with fail
      refine (bytes_tx ((hX2.below hb3).below hb4) ((hm2.below hb3).below hb4)).mono ?_
      rintro e w5 ⟨rfl, hb5⟩
      rw [decide_eq_true rfl]
      have hB5 := hB4.trans (hb5.mono hB4.size)
      go_wp2_with fail
      refine (hwk.out w5 (F.keep _ _ hT hB5)).mono ?_
      rintro e w6 ⟨rfl, hb6⟩
      go_wp2_with fail
      go_ret
      exact ⟨rfl, hB5.trans (hb6.mono hB5.size)⟩
    · rw [hn.out] at hk; cases hk
  · have hlk : Hid (Light k) := dec_light hk
    have hk := show Hid _ from hk
    go_wp2_with fail
    refine (pdecode_is hm2).mono ?_
    rintro e w3 ⟨hS, hb3⟩
    rcases hS with ⟨hn, -⟩ | ⟨k', a3, c3, hk', rfl, hO3⟩
    · rw [hk.out] at hn; cases hn
    obtain rfl : k' = k := Option.some.inj (hk'.symm.trans hk.out)
    clear hk'
    have hB3 := hB2.trans (hb3.mono hB2.size)
    obtain ⟨x3, y3, e3, hT3⟩ := hO3.form
    simp only [Value.slice.injEq] at e3
    obtain ⟨rfl, -, rfl⟩ := e3
    go_wp2_with fail
    refine (toks_cmp (hT2.below hb3) hT3).mono ?_
    rintro e w4 ⟨rfl, hb4⟩
    rw [decide_eq_true rfl]
    have hB4 := hB3.trans (hb4.mono hB3.size)
    go_wp2_with fail
    refine (bytes_tx ((hX2.below hb3).below hb4) ((hm2.below hb3).below hb4)).mono ?_
    rintro e w5 ⟨rfl, hb5⟩
    rw [decide_eq_true rfl]
    have hB5 := hB4.trans (hb5.mono hB4.size)
    have hE := show Hid _ from F.encode a2 c2 k' hlk.out w5 (F.keep _ _ hT hB5) (((hT2.below hb3).below hb4).below hb5)
    go_wp2_with fail
    refine Calls.mono (Hid.out hE) ?_
    rintro e w6 ⟨⟨hn, -⟩ | ⟨x, a6, c6, hx, rfl, hO6, hBx⟩, hb6⟩
    · rw [dec_iff.1 hk.out] at hn; cases hn
    obtain rfl : x = m := Option.some.inj (hx.symm.trans (dec_iff.1 hk.out))
    have hX6 := (txt_same hO6 hBx).2
    clear hx hE
    have hB6 := hB5.trans (hb6.mono hB5.size)
    go_wp2_with fail
    refine (bytes_tx hX6 (hm.below hB6)).mono ?_
    rintro e w7 ⟨rfl, hb7⟩
    rw [decide_eq_true rfl]
    have hB7 := hB6.trans (hb7.mono hB6.size)
    go_wp2_with fail
    refine (hwk.out w7 (F.keep _ _ hT hB7)).mono ?_
    rintro e w8 ⟨rfl, hb8⟩
    go_wp2_with fail
    go_ret
    exact ⟨rfl, hB7.trans (hb8.mono hB7.size)⟩
end Go.Proofs.YtaabcllghniaoaaDoor
