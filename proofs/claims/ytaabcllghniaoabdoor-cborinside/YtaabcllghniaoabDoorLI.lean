/- The law CborInside, over what the program answers. -/
import Derived.Test.YtaabcllghniaoabDoorLK
import Derived.Test.YtaabcllghniaoabDoorWJ
namespace Go.Proofs.YtaabcllghniaoabDoor
open Go Go.RowKit
theorem toks_in {w w' : World} {a : Option Addr} {c : Nat} {l : List Tk} (h : Toks w a c l) (hB : Below w.heap.size w w') : ToksP (fun g => g < w.heap.size) w' a c l := (h.mono fun _ _ h => h).below hB
theorem own1 {w : World} {base : Nat} {x : Int} (hb : base ≤ w.heap.size) : OwnBytes (w.alloc (.cells #[.int .u8 x] 5)) base (.slice (some ⟨w.heap.size, 0, none⟩) 1 1) [x] := ⟨rfl, .inr ⟨w.heap.size, 1, #[.int .u8 x], rfl, hb, own_new _ _ _, Nat.le_refl _, by decide, rfl, rfl⟩⟩
set_option maxRecDepth 100000 in
set_option maxHeartbeats 4000000 in
theorem cinside_is {a b c : Option Addr} {ca cb cc : Nat} {l k j : List Tk} {w : World} (hT : TU w) (ha : Toks w a ca l) (hb : Toks w b cb k) (hc : Toks w c cc j) : Calls Tryd.prog 3 #[.slice a l.length ca, .slice b k.length cb, .slice c j.length cc] w fun e w' => e = .returned (.bool true) ∧ Below w.heap.size w w' := by
  have hwk := show Hid _ from cwakes wcbor
  go_enter Tryd.func3, Tryd.ntmps3
  go_wp2_with fail
  refine (heavy_is ha).mono ?_
  rintro e w1 ⟨hS, rfl⟩
  rcases hS with rfl | ⟨rfl, hl7, hl3⟩
  · go_wp2_with fail
    go_ret
    exact ⟨rfl, Below.refl _ _⟩
  clear hl3
  go_wp2_with fail
  refine (heavy_is hb).mono ?_
  rintro e w2 ⟨hS, rfl⟩
  rcases hS with rfl | ⟨rfl, hk7, hk3⟩
  · go_wp2_with fail
    go_ret
    exact ⟨rfl, Below.refl _ _⟩
  clear hk3
  go_wp2_with fail
  refine (heavy_is hc).mono ?_
  rintro e w3 ⟨hS, rfl⟩
  rcases hS with rfl | ⟨rfl, hj7, hj3⟩
  · go_wp2_with fail
    go_ret
    exact ⟨rfl, Below.refl _ _⟩
  clear hj3
  have fin : Hid (∀ w', Below w3.heap.size w3 w' → Calls Tryd.prog 11 #[] w' fun e w'' => e = .returned (.bool true) ∧ Below w3.heap.size w3 w'') := fun w' hB => (hwk.out w' (hT.keep hB)).mono fun e w'' ⟨h1, h2⟩ => ⟨h1, hB.trans (h2.mono hB.size)⟩
  have hE1 := show Hid _ from wencode_is hT ha
  go_wp2_with fail
  refine Calls.mono (Hid.out hE1) ?_
  rintro e w4 ⟨hS1, hB4⟩
  have hE2 := show Hid _ from wencode_is (hT.keep hB4) (hb.below hB4)
  have o1 : ∃ (X : List Int) (a4 : Option Addr) (c4 : Nat) (f1 : Int), e = .returned (.tuple #[.slice a4 X.length c4, .int .i64 f1]) ∧ Txt w4 a4 c4 X ∧ ((f1 = 1 ∧ X = []) ∨ f1 = 0 ∧ enc l = some X ∧ X.length ≤ 32768) := by
    rcases hS1 with ⟨-, rfl⟩ | ⟨x, a4, c4, hx, rfl, hO, hBx⟩
    · exact ⟨[], none, 0, 1, rfl, txt_nil _, .inl ⟨rfl, rfl⟩⟩
    · exact ⟨x, a4, c4, 0, rfl, (txt_same hO hBx).2, .inr ⟨rfl, hx, (enc_some hx).2.2⟩⟩
  obtain ⟨X, a4, c4, f1, rfl, hX, hs1⟩ := o1
  have hs1 := show Hid _ from hs1
  clear hS1 hE1
  go_wp2_with fail
  refine Calls.mono (Hid.out hE2) ?_
  rintro e w5 ⟨hS2, hb5⟩
  have hB5 := hB4.trans (hb5.mono hB4.size)
  have hE3 := show Hid _ from wencode_is (hT.keep hB5) (hc.below hB5)
  have o2 : ∃ (Y : List Int) (a5 : Option Addr) (c5 : Nat) (f2 : Int), e = .returned (.tuple #[.slice a5 Y.length c5, .int .i64 f2]) ∧ Txt w5 a5 c5 Y ∧ ((f2 = 1 ∧ Y = []) ∨ f2 = 0 ∧ enc k = some Y ∧ Y.length ≤ 32768) := by
    rcases hS2 with ⟨-, rfl⟩ | ⟨x, a4, c4, hx, rfl, hO, hBx⟩
    · exact ⟨[], none, 0, 1, rfl, txt_nil _, .inl ⟨rfl, rfl⟩⟩
    · exact ⟨x, a4, c4, 0, rfl, (txt_same hO hBx).2, .inr ⟨rfl, hx, (enc_some hx).2.2⟩⟩
  obtain ⟨Y, a5, c5, f2, rfl, hY, hs2⟩ := o2
  have hs2 := show Hid _ from hs2
  have hX5 := hX.below hb5
  clear hS2 hE2
  go_wp2_with fail
  refine Calls.mono (Hid.out hE3) ?_
  rintro e w6 ⟨hS3, hb6⟩
  have hB6 := hB5.trans (hb6.mono hB5.size)
  have o3 : ∃ (Z : List Int) (a6 : Option Addr) (c6 : Nat) (f3 : Int), e = .returned (.tuple #[.slice a6 Z.length c6, .int .i64 f3]) ∧ Txt w6 a6 c6 Z ∧ ((f3 = 1 ∧ Z = []) ∨ f3 = 0 ∧ enc j = some Z ∧ Z.length ≤ 32768) := by
    rcases hS3 with ⟨-, rfl⟩ | ⟨x, a4, c4, hx, rfl, hO, hBx⟩
    · exact ⟨[], none, 0, 1, rfl, txt_nil _, .inl ⟨rfl, rfl⟩⟩
    · exact ⟨x, a4, c4, 0, rfl, (txt_same hO hBx).2, .inr ⟨rfl, hx, (enc_some hx).2.2⟩⟩
  obtain ⟨Z, a6, c6, f3, rfl, hZ, hs3⟩ := o3
  have hs3 := show Hid _ from hs3
  have hX6 := hX5.below hb6
  have hY6 := hY.below hb6
  clear hS3 hE3 hX hX5 hY
  rcases hs1.out with ⟨rfl, rfl⟩ | ⟨rfl, hx, hxl⟩
  · go_wp2_with fail
    refine (fin.out w6 hB6).mono ?_
    rintro e w7 ⟨rfl, hB7⟩
    go_wp2_with fail
    go_ret
    exact ⟨rfl, hB7⟩
  have hx := show Hid _ from hx
  rcases hs2.out with ⟨rfl, rfl⟩ | ⟨rfl, hy, hyl⟩
  · go_wp2_with fail
    refine (fin.out w6 hB6).mono ?_
    rintro e w7 ⟨rfl, hB7⟩
    go_wp2_with fail
    go_ret
    exact ⟨rfl, hB7⟩
  have hy := show Hid _ from hy
  rcases hs3.out with ⟨rfl, rfl⟩ | ⟨rfl, hz, hzl⟩
  · go_wp2_with fail
    refine (fin.out w6 hB6).mono ?_
    rintro e w7 ⟨rfl, hB7⟩
    go_wp2_with fail
    go_ret
    exact ⟨rfl, hB7⟩
  have hz := show Hid _ from hz
  clear hs1 hs2 hs3
  have hwf : (⟨5, 3, []⟩ : Tk).wf := ⟨⟨by show (-9223372036854775808 : Int) ≤ 5; decide, by show (5 : Int) < 9223372036854775808; decide⟩, by show (-9223372036854775808 : Int) ≤ 3; decide, by show (3 : Int) < 9223372036854775808; decide⟩
  have hwf := show Hid _ from hwf
  have hB7 := (Below.refl w6.heap.size w6).alloc (Nat.le_refl _) (.cells #[.int .i64 5, .int .i64 3, .slice none 0 0] 30)
  have ha7 : Hid (∀ w', Below w6.heap.size w6 w' → ToksP (fun g => g < w6.heap.size) w' a ca l) := fun w' hB => toks_in (ha.below hB6) hB
  have hb7 : Hid (∀ w', Below w6.heap.size w6 w' → ToksP (fun g => g < w6.heap.size) w' b cb k) := fun w' hB => toks_in (hb.below hB6) hB
  have hc7 : Hid (∀ w', Below w6.heap.size w6 w' → ToksP (fun g => g < w6.heap.size) w' c cc j) := fun w' hB => toks_in (hc.below hB6) hB
  have apart : ∀ {W : World} {v : Value} {xs : List Tk}, OwnToks W w6.heap.size v xs → ∀ g', g' < w6.heap.size → ∀ g ∈ blks v, g' ≠ g := fun h g' hg' g hg => by have := h.blk_base g hg; omega
  go_wp2_with (at_builtin; first
    | refine wpList_tokapp (by rfl) (.tmp 62) (.tmp 64) (by rfl) w6.heap.size (by rfl) (ownToks_nil _ _) (by rfl) (show 1 = [(⟨5, 3, []⟩ : Tk)].length from rfl) (toks_one (t := ⟨5, 3, []⟩) (P := fun _ => False) (own_new _ _ _) hwf.out ⟨none, 0, rfl, txt_nil _⟩ (fun h => absurd h (Nat.lt_irrefl 0))) (fun _ h => h.elim) (by decide) hB7.size ?_; intro a8 c8 w8 hO8 hb8
    | refine wpList_tokapp (by rfl) (.tmp 65) (.tmp 66) (by rfl) w6.heap.size (by rfl) hO8 (by rfl) rfl (ha7.out _ (hB7.trans hb8)) (apart hO8) (by simp only [List.nil_append, List.length_cons, List.length_nil]; omega) (hB7.trans hb8).size ?_; intro a9 c9 w9 hO9 hb9
    | refine wpList_tokapp (by rfl) (.tmp 67) (.tmp 68) (by rfl) w6.heap.size (by rfl) hO9 (by rfl) rfl (hb7.out _ ((hB7.trans hb8).trans hb9)) (apart hO9) (by simp only [List.nil_append, List.length_append, List.length_cons, List.length_nil]; omega) ((hB7.trans hb8).trans hb9).size ?_; intro a10 c10 w10 hO10 hb10
    | refine wpList_tokapp (by rfl) (.tmp 69) (.tmp 70) (by rfl) w6.heap.size (by rfl) hO10 (by rfl) rfl (hc7.out _ (((hB7.trans hb8).trans hb9).trans hb10)) (apart hO10) (by simp only [List.nil_append, List.length_append, List.length_cons, List.length_nil]; omega) (((hB7.trans hb8).trans hb9).trans hb10).size ?_; intro a11 c11 w11 hO11 hb11)
  have hB11 := ((((hB7.trans hb8).trans hb9).trans hb10).trans hb11)
  have hB11' := hB6.trans (hB11.mono hB6.size)
  have hX11 := hX6.below hB11
  have hY11 := hY6.below hB11
  have hZ11 := hZ.below hB11
  have hrow : Hid (([] : List Tk) ++ [⟨5, 3, []⟩] ++ l ++ k ++ j = ⟨5, 3, []⟩ :: (l ++ k ++ j)) := by show _ = _; simp
  have hlen : Hid ((⟨5, 3, []⟩ :: (l ++ k ++ j) : List Tk).length = l.length + k.length + 1 + j.length) := by show _ = _; simp; omega
  rw [hrow.out] at hO11
  obtain ⟨ax, cx, ex, hTk⟩ := hO11.form
  simp only [Value.slice.injEq] at ex
  obtain ⟨rfl, -, rfl⟩ := ex
  have hE := wencode_is (hT.keep hB11') hTk
  rw [hlen.out] at hE
  clear hO11 hO10 hO9 hO8 ha7 hb7 hc7 hX6 hY6 hZ
  refine Calls.mono hE ?_
  rintro e w12 ⟨hS, hb12⟩
  have hB12 := hB11'.trans (hb12.mono hB11'.size)
  rcases hS with ⟨hn, rfl⟩ | ⟨W, a12, c12, hW, rfl, hO, hBW⟩
  · clear hn
    go_wp2_with fail
    refine (fin.out w12 hB12).mono ?_
    rintro e w13 ⟨rfl, hB13⟩
    go_wp2_with fail
    go_ret
    exact ⟨rfl, hB13⟩
  have hall : Hid (W = 131 :: (X ++ Y ++ Z)) := enc_three hx.out hy.out hz.out hW
  have hX12 := hX11.below hb12
  have hY12 := hY11.below hb12
  have hZ12 := hZ11.below hb12
  have hWt := (txt_same hO hBW).2
  clear hW hO hE hX11 hY11 hZ11
  obtain ⟨LW, HLW⟩ : ∃ L, Hid (W.length = L) := ⟨_, rfl⟩
  have hB13 := (Below.refl w12.heap.size w12).alloc (Nat.le_refl _) (.cells #[.int .u8 131] 5)
  have bX : Bys X := hX12.1.2.2.2.1
  have bY : Bys Y := hY12.1.2.2.2.1
  have bZ : Bys Z := hZ12.1.2.2.2.1
  have b1 : Bys ([131] ++ X) := fun z hz => (List.mem_append.1 hz).elim (bys_of rfl z) (bX z)
  have b2 : Bys ([131] ++ X ++ Y) := fun z hz => (List.mem_append.1 hz).elim (b1 z) (bY z)
  go_wp2_with (at_builtin; first
    | refine wpList_app (by rfl) (.tmp 89) (.tmp 90) (by rfl) w12.heap.size (by rfl) (own1 (Nat.le_refl _)) (bys_of rfl) (by rfl) rfl (hX12.below hB13) (by simp only [List.length_cons, List.length_nil]; omega) hB13.size ?_; intro a14 c14 w14 hO14 hX14 hb14
    | refine wpList_app (by rfl) (.tmp 91) (.tmp 92) (by rfl) w12.heap.size (by rfl) hO14 b1 (by rfl) rfl (hY12.below (hB13.trans hb14)) (by simp only [List.length_append, List.length_cons, List.length_nil]; omega) (hB13.trans hb14).size ?_; intro a15 c15 w15 hO15 hX15 hb15
    | refine wpList_app (by rfl) (.tmp 93) (.tmp 94) (by rfl) w12.heap.size (by rfl) hO15 b2 (by rfl) rfl (hZ12.below ((hB13.trans hb14).trans hb15)) (by simp only [List.length_append, List.length_cons, List.length_nil]; omega) ((hB13.trans hb14).trans hb15).size ?_; intro a16 c16 w16 hO16 hX16 hb16)
  have hB16 := ((hB13.trans hb14).trans hb15).trans hb16
  have hB16' := hB12.trans (hB16.mono hB12.size)
  have hW16 := hWt.below hB16
  have hV16 : BytesV w16 a16 (X.length + Y.length + 1 + Z.length) c16 ([131] ++ X ++ Y ++ Z) := by
    have e : ([131] ++ X ++ Y ++ Z).length = X.length + Y.length + 1 + Z.length := by simp; omega
    rw [← e]; exact hX16.1
  have hsame : Hid (W = [131] ++ X ++ Y ++ Z) := by show _ = _; rw [hall.out]; simp
  clear hO16 hO15 hO14 hX16
  go_wp2_with fail
  refine (bytes_cmp hW16.1 hV16).mono ?_
  rintro e w17 ⟨rfl, hb17⟩
  rw [decide_eq_true hsame.out]
  have hB17 := hB16'.trans (hb17.mono hB16'.size)
  go_wp2_with fail
  refine (fin.out w17 hB17).mono ?_
  rintro e w18 ⟨rfl, hB18⟩
  go_wp2_with fail
  go_ret
  exact ⟨rfl, hB18⟩
end Go.Proofs.YtaabcllghniaoabDoor
