/- The law CborUnlike, over contracts. -/
import Derived.Test.YtaabcllghniaoaaDoorCV
namespace Go.Proofs.YtaabcllghniaoaaDoor
open Go Go.RowKit
theorem txt_take {w : World} {a : Option Addr} {cap : Nat} {m : List Int} (h : Txt w a cap m) {q : Nat} (hq : q ≤ m.length) : Txt w a cap (m.take q) := by
  have h1 := h.1.take q hq
  have e : (m.take q).length = q := by rw [List.length_take]; omega
  exact ⟨by rw [e]; exact h1, h.2⟩
set_option maxRecDepth 100000 in
set_option maxHeartbeats 4000000 in
theorem cunlike_is {T : World → Prop} (F : Cbor T) {a a' : Option Addr} {cap cap' : Nat} {l k : List Tk} (cut y : Int) (hy : 0 ≤ y ∧ y < 256) {w : World} (hT : T w) (hm : Toks w a cap l) (hk : Toks w a' cap' k) : Calls Tryd.prog 6 #[.slice a l.length cap, .slice a' k.length cap', .int .i64 cut, .int .u8 y] w fun e w' => e = .returned (.bool true) ∧ Below w.heap.size w w' := by
  have hwk := show Hid _ from cwakes F
  have hy := show Hid _ from hy
  go_enter Tryd.func6, Tryd.ntmps6
  go_wp2_with fail
  refine (heavy_is hm).mono ?_
  rintro e w1 ⟨hS, rfl⟩
  rcases hS with rfl | ⟨rfl, hl7, hl3⟩
  · go_wp2_with fail
    go_ret
    exact ⟨rfl, Below.refl _ _⟩
  have hll : Hid (Light l) := ⟨by omega, fun t ht => by have := hl3 t ht; omega⟩
  clear hl3
  go_wp2_with fail
  refine (heavy_is hk).mono ?_
  rintro e w2 ⟨hS, rfl⟩
  rcases hS with rfl | ⟨rfl, hk7, hk3⟩
  · go_wp2_with fail
    go_ret
    exact ⟨rfl, Below.refl _ _⟩
  have hlk : Hid (Light k) := ⟨by omega, fun t ht => by have := hk3 t ht; omega⟩
  clear hk3
  have hE1 := show Hid _ from F.encode a cap l hll.out w2 hT hm
  go_wp2_with fail
  refine Calls.mono (Hid.out hE1) ?_
  rintro e w3 ⟨hS1, hb3⟩
  clear hE1
  have hT3 := show Hid (T w3) from F.keep _ _ hT hb3
  have hE2 := show Hid _ from F.encode a' cap' k hlk.out w3 hT3.out (hk.below hb3)
  have fin : Hid (∀ w', Below w2.heap.size w2 w' → Calls Tryd.prog 15 #[] w' fun e w'' => e = .returned (.bool true) ∧ Below w2.heap.size w2 w'') := fun w' hB => (hwk.out w' (F.keep _ _ hT hB)).mono fun e w'' ⟨h1, h2⟩ => ⟨h1, hB.trans (h2.mono hB.size)⟩
  rcases hS1 with ⟨hn1, a3, c3, rfl, -⟩ | ⟨x, a3, c3, hx, rfl, hO3, hBx⟩
  · clear hn1
    go_wp2_with fail
    refine Calls.mono (Hid.out hE2) ?_
    rintro e w4 ⟨hS2, hb4⟩
    have hB4 := hb3.trans (hb4.mono hb3.size)
    rcases hS2 with ⟨-, a4, c4, rfl, -⟩ | ⟨z, a4, c4, -, rfl, -, -⟩
    · go_wp2_with fail
      refine (fin.out w4 hB4).mono ?_
      rintro e w5 ⟨rfl, hB5⟩
      go_wp2_with fail
      go_ret
      exact ⟨rfl, hB5⟩
    · go_wp2_with fail
      refine (fin.out w4 hB4).mono ?_
      rintro e w5 ⟨rfl, hB5⟩
      go_wp2_with fail
      go_ret
      exact ⟨rfl, hB5⟩
  have hx := show Hid _ from hx
  have hxl := (enc_some hx.out).2.2
  have hxp := enc_pos hx.out
  have hX3 := (txt_same hO3 hBx).2
  have hxl' : (x.length : Int) ≤ 32768 := by omega
  go_wp2_with fail
  refine Calls.mono (Hid.out hE2) ?_
  rintro e w4 ⟨hS2, hb4⟩
  have hB4 := hb3.trans (hb4.mono hb3.size)
  clear hE2
  rcases hS2 with ⟨-, a4, c4, rfl, -⟩ | ⟨z, a4, c4, hz, rfl, hO4, hBz⟩
  · go_wp2_with fail
    refine (fin.out w4 hB4).mono ?_
    rintro e w5 ⟨rfl, hB5⟩
    go_wp2_with fail
    go_ret
    exact ⟨rfl, hB5⟩
  have hz := show Hid _ from hz
  have hX4 := (txt_same hO4 hBz).2
  have hxp' : ((x.length : Int) == 0) = false := beq_eq_false_iff_ne.2 (by omega)
  have hiff : Hid (decide (x = z) = decide (l = k)) := by
    show _ = _
    rw [decide_eq_decide]
    constructor
    · intro e
      exact enc_inj hx.out (by rw [e]; exact hz.out)
    · intro e
      have h1 := hx.out
      rw [e, hz.out] at h1
      exact (Option.some.inj h1).symm
  have hX34 := hX3.below hb4
  go_wp2_with fail
  refine (bytes_tx hX34 hX4).mono ?_
  rintro e w5 ⟨rfl, hb5⟩
  rw [hiff.out]
  have hB5 := hB4.trans (hb5.mono hB4.size)
  have hm5 := hm.below hB5
  have hk5 := hk.below hB5
  go_wp2_with fail
  refine (toks_cmp hm5 hk5).mono ?_
  rintro e w6 ⟨rfl, hb6⟩
  have hB6 := hB5.trans (hb6.mono hB5.size)
  have hX6 := (hX34.below hb5).below hb6
  generalize decide (l = k) = d
  have hdd : (d != d) = false := by cases d <;> rfl
  obtain ⟨r, Hr, hr⟩ := left_of cut x.length hxp (by omega)
  have Hr' := show Hid _ from Hr
  have hr' : (r : Int) < (x.length : Int) := by omega
  have hr0 : (0 : Int) ≤ (r : Int) := by omega
  obtain ⟨b3, o3, rfl, -⟩ := hX6.1.at 0 hxp
  have hcap : (x.length : Int) ≤ (c3 : Int) := by have := hX6.1.2.1; omega
  have hXr := show Hid _ from txt_take hX6 (Nat.le_of_lt hr)
  have hrl : Hid ((x.take r).length = r) := by show _ = _; rw [List.length_take]; omega
  have hdn : Hid (dec (x.take r) = none) := dec_cut hx.out hr
  have hD1 : Hid (Calls Tryd.prog 16 #[.slice (some ⟨b3, o3, none⟩) r c3] w6 fun e w' => (∃ a' c', e = .returned (.tuple #[.slice a' 0 c', .int .i64 3])) ∧ Below w6.heap.size w6 w') := by
    have h1 := F.decode (some ⟨b3, o3, none⟩) c3 (x.take r) (by rw [hrl.out]; omega) w6 (F.keep _ _ hT hB6) hXr.out
    rw [hrl.out] at h1
    refine h1.mono ?_
    rintro e w' ⟨⟨-, a', c', e1, -⟩ | ⟨_, _, _, e1, -⟩, hb⟩
    · exact ⟨⟨a', c', e1⟩, hb⟩
    · rw [hdn.out] at e1; cases e1
  go_upto_region 9 with fail
  go_wp2_with fail
  refine Calls.mono (Hid.out hD1) ?_
  rintro e w7 ⟨⟨a7, c7, rfl⟩, hb7⟩
  have hB7 := hB6.trans (hb7.mono hB6.size)
  have hX7 := hX6.below hb7
  go_wp2_with fail
  refine (twin_is hX7 (by omega)).mono ?_
  rintro e w8 ⟨a8, c8, rfl, hO8, hX8, hb8⟩
  have hB8 := hB7.trans (hb8.mono hB7.size)
  have hO8' : OwnBytes w8 w2.heap.size (.slice a8 x.length c8) x := by
    obtain ⟨h1, h2 | ⟨g, cap, cur, h2, h3, h4⟩⟩ := hO8
    · exact ⟨h1, .inl h2⟩
    · exact ⟨h1, .inr ⟨g, cap, cur, h2, Nat.le_trans hB7.size h3, h4⟩⟩
  go_wp2_with (at_builtin; refine wpList_append_bytes (by rfl) (.tmp 83) (.tmp 85) (by rfl) w2.heap.size _ _ (by rfl) (hO8'.below (alloc_below _ _)) hBx _ 1 1 [y] (by rfl) (bytesV_one _ _ hy.out) (fun h => by cases h) (by simp; omega) (hB8.alloc hB8.size _).size ?_; intro a9 c9 w9 hO9 hg9 hV9)
  have hB9 := (hB8.alloc hB8.size (.cells #[.int .u8 y] 5)).grown hg9 (hB8.alloc hB8.size _).size (fun g e => hO8'.base_le e)
  have hbys9 : Bys (x ++ [y]) := bys_snoc hBx hy.out
  have e9 : x.length + [y].length = (x ++ [y]).length := by rw [List.length_append]
  rw [e9] at hO9
  have hX9 := (txt_same hO9 hbys9).2
  have hdm : Hid (dec (x ++ [y]) = none) := dec_more hx.out y
  have hD2 : Calls Tryd.prog 16 #[.slice a9 (x.length + 1) c9] w9 fun e w' => (∃ a' c', e = .returned (.tuple #[.slice a' 0 c', .int .i64 3])) ∧ Below w9.heap.size w9 w' := by
    have h1 := F.decode a9 c9 (x ++ [y]) (by rw [List.length_append, List.length_singleton]; omega) w9 (F.keep _ _ hT hB9) hX9
    rw [List.length_append, List.length_singleton] at h1
    refine h1.mono ?_
    rintro e w' ⟨⟨-, a', c', e1, -⟩ | ⟨_, _, _, e1, -⟩, hb⟩
    · exact ⟨⟨a', c', e1⟩, hb⟩
    · rw [hdm.out] at e1; cases e1
  refine Calls.mono hD2 ?_
  rintro e w10 ⟨⟨a10, c10, rfl⟩, hb10⟩
  have hB10 := hB9.trans (hb10.mono hB9.size)
  clear hD2 e9 hO9
  go_wp2_with fail
  refine (fin.out w10 hB10).mono ?_
  rintro e w11 ⟨rfl, hB11⟩
  go_wp2_with fail
  go_ret
  exact ⟨rfl, hB11⟩
end Go.Proofs.YtaabcllghniaoaaDoor
