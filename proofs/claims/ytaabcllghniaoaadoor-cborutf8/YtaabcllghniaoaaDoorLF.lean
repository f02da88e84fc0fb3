/- The law CborUtf8, over contracts. -/
import Derived.Test.YtaabcllghniaoaaDoorCV
import Derived.Test.YtaabcllghniaoaaDoorCU
import Derived.Test.YtaabcllghniaoaaDoorUA
import Derived.Laws.IdiomStrings
namespace Go.Proofs.YtaabcllghniaoaaDoor
open Go Go.RowKit
theorem pre_txt {w : World} {g C k : Nat} {m : List Int} (hm : Txt w (some ⟨g, 0, none⟩) C m) (hk : k < m.length) : Txt w (some ⟨g, 0, none⟩) C (m.take k) := by
  have hlen : (m.take k).length = k := by rw [List.length_take]; omega
  have h := hm.part 0 k (by omega) (by have := hm.1.2.1; omega)
  rw [List.drop_zero, Nat.add_zero, Nat.sub_zero] at h
  exact ⟨by rw [hlen]; exact h, fun e => by cases e⟩
theorem suf_txt {w : World} {g C : Nat} {m : List Int} (hm : Txt w (some ⟨g, 0, none⟩) C m) (h1 : 1 < m.length) : Txt w (some ⟨g, 1, none⟩) (C - 1) (m.drop 1) := by
  have hlen : (m.drop 1).length = m.length - 1 := List.length_drop
  have h := hm.part 1 (m.length - 1) (by omega) (by have := hm.1.2.1; omega)
  rw [List.take_of_length_le (by omega)] at h
  exact ⟨by rw [hlen]; exact h, fun e => by cases e⟩
set_option maxRecDepth 100000 in
set_option maxHeartbeats 4000000 in
theorem cutf8_is {T : World → Prop} (F : Cbor T) {a : Option Addr} {cap : Nat} {m : List Int} {p q : Int} {w : World} (hT : T w) (hm : Txt w a cap m) : Calls Tryd.prog 5 #[.slice a m.length cap, .int .i64 p, .int .i64 q] w fun e w' => e = .returned (.bool true) ∧ Below w.heap.size w w' := by
  have hwk := show Hid _ from cwakes F
  obtain ⟨c, Hc, hc⟩ := rune_of p
  have hc0 : (0 : Int) ≤ (c : Int) := by omega
  have hc1 : (c : Int) < 1114112 := by omega
  go_enter Tryd.func5, Tryd.ntmps5
  by_cases h7 : 700 < m.length
  · have h7' : (700 : Int) < (m.length : Int) := by omega
    go_wp2_with fail
    go_ret
    exact ⟨rfl, Below.refl _ _⟩
  have h7' : ¬ (700 : Int) < (m.length : Int) := by omega
  go_wp2_with fail
  refine (F.utf8 a cap m (by omega) w hT hm).mono ?_
  rintro e w1 ⟨rfl, hB1⟩
  go_wp2_with fail
  refine (putf8_is (hm.below hB1) (by omega)).mono ?_
  rintro e w2 ⟨rfl, e2⟩
  subst e2
  obtain ⟨U, HU⟩ : ∃ U, Hid (utf8 m = U) := ⟨_, rfl⟩
  rw [HU.out]
  have hUU : (U != U) = false := by cases U <;> rfl
  have hconv : ∀ s : ByteArray, (convert 9 25 (.string s)).run Tryd.prog w2 = .ok (.slice (some ⟨w2.heap.size, 0, none⟩) s.size (grownCap w2 s.size 0 5)) (w2.drew.alloc (.cells (bytesRow s (grownCap w2 s.size 0 5)) 5 ((bytesRow s (grownCap w2 s.size 0 5)).size, (bytesRow s (grownCap w2 s.size 0 5)).size + 1))) := fun s => run_bytes_of_string w2 _ _ _ s Tryd.underlying9 Tryd.underlying25 Tryd.underlying5
  go_upto_region 7 with fail
  rw [Hc]
  obtain ⟨s, Hs⟩ : ∃ s, Hid (Utf8.encode (c : Int) = s) := ⟨_, rfl⟩
  rw [Hs.out]
  clear hconv
  by_cases hsur : 55296 ≤ c ∧ c ≤ 57343
  · have s1 : (55296 : Int) ≤ (c : Int) := by omega
    have s2 : (c : Int) ≤ 57343 := by omega
    have hB3 := (hB1.alloc hB1.size (.cells (bytesRow s (grownCap w2 s.size 0 5)) 5 ((bytesRow s (grownCap w2 s.size 0 5)).size, (bytesRow s (grownCap w2 s.size 0 5)).size + 1))).drew
    generalize (w2.alloc (.cells (bytesRow s (grownCap w2 s.size 0 5)) 5 ((bytesRow s (grownCap w2 s.size 0 5)).size, (bytesRow s (grownCap w2 s.size 0 5)).size + 1))).drew = w3 at hB3 ⊢
    go_wp2_with fail
    have e0 : (224 : Int) + (c : Int) / 4096 = ((224 + c / 4096 : Nat) : Int) := by omega
    have e1 : (c : Int) / 64 = ((c / 64 : Nat) : Int) := by omega
    rw [e0, e1, and_63, and_63, or_128 (Nat.mod_lt _ (by decide)), or_128 (Nat.mod_lt _ (by decide))]
    clear e0 e1
    have hbad := sur_bad hsur.1 hsur.2
    have hbs : Bys [((224 + c / 4096 : Nat) : Int), ((128 + c / 64 % 64 : Nat) : Int), ((128 + c % 64 : Nat) : Int)] := by
      intro x hx
      simp only [List.mem_cons, List.not_mem_nil, or_false] at hx
      omega
    generalize ((224 + c / 4096 : Nat) : Int) = x0 at hbad hbs ⊢
    generalize ((128 + c / 64 % 64 : Nat) : Int) = x1 at hbad hbs ⊢
    generalize ((128 + c % 64 : Nat) : Int) = x2 at hbad hbs ⊢
    have hX4 : Txt (w3.alloc (.cells #[.int .u8 x0, .int .u8 x1, .int .u8 x2] 5)) (some ⟨w3.heap.size, 0, none⟩) 3 [x0, x1, x2] := txt_cells (l := [x0, x1, x2]) (own_new w3 #[.int .u8 x0, .int .u8 x1, .int .u8 x2] 5) hbs (by simp)
    have hB4 := hB3.alloc hB3.size (.cells #[.int .u8 x0, .int .u8 x1, .int .u8 x2] 5)
    have hq : Hid (Calls Tryd.prog 20 #[.slice (some ⟨w3.heap.size, 0, none⟩) 3 3] (w3.alloc (.cells #[.int .u8 x0, .int .u8 x1, .int .u8 x2] 5)) fun e w' => e = .returned (.bool (utf8 [x0, x1, x2])) ∧ Below (w3.alloc (.cells #[.int .u8 x0, .int .u8 x1, .int .u8 x2] 5)).heap.size (w3.alloc (.cells #[.int .u8 x0, .int .u8 x1, .int .u8 x2] 5)) w') := F.utf8 _ 3 [x0, x1, x2] (by simp) _ (F.keep _ _ hT hB4) hX4
    generalize w3.alloc (.cells #[.int .u8 x0, .int .u8 x1, .int .u8 x2] 5) = w4 at hq hX4 hB4 ⊢
    refine Calls.mono (Hid.out hq) ?_
    rintro e w5 ⟨rfl, hb5⟩
    rw [hbad]
    have hB5 := hB4.trans (hb5.mono hB4.size)
    go_wp2_with fail
    refine (hwk.out w5 (F.keep _ _ hT hB5)).mono ?_
    rintro e w6 ⟨rfl, hb6⟩
    go_wp2_with fail
    go_ret
    exact ⟨rfl, hB5.trans (hb6.mono hB5.size)⟩
  have hsur : c < 55296 ∨ 57344 ≤ c := by omega
  have hX := rune_bytes hsur hc
  rw [Hs.out] at hX
  have hXl := rune_len c
  have hXb := show Hid _ from rune_bys hc
  have hXa := show Hid _ from rune_app hsur hc
  have hXc := show Hid _ from @rune_cut c hsur hc
  have hXt := show Hid _ from @rune_tail c
  have hsz : s.size = (runeB c).length := by rw [← hX, List.length_map, Array.length_toList]; rfl
  obtain ⟨hB3, hX3⟩ := rune_txt w2 s hX hXb.out (C := grownCap w2 s.size 0 5) (by rw [← hsz]; exact grownCap_ge _ _ _ _) (grownCap_le_maxLen _ _ _ _ (by rw [hsz]; unfold maxLen; omega)) ((bytesRow s (grownCap w2 s.size 0 5)).size, (bytesRow s (grownCap w2 s.size 0 5)).size + 1)
  rw [hsz]
  rw [hsz] at hB3 hX3
  replace hB3 := hB1.trans (hB3.mono hB1.size)
  generalize (w2.alloc (.cells (bytesRow s (grownCap w2 (runeB c).length 0 5)) 5 ((bytesRow s (grownCap w2 (runeB c).length 0 5)).size, (bytesRow s (grownCap w2 (runeB c).length 0 5)).size + 1))).drew = w3 at hB3 hX3 ⊢
  generalize grownCap w2 (runeB c).length 0 5 = C at hX3 ⊢
  have hXok : Hid (utf8 (runeB c) = true) := rune_ok hsur hc
  have hff : Hid (utf8 (runeB c ++ [255]) = false) := rune_ff hsur hc
  have hside : ¬ (55296 : Int) ≤ (c : Int) ∨ ((55296 : Int) ≤ (c : Int) ∧ ¬ (c : Int) ≤ 57343) := by omega
  clear hX hsz
  generalize runeB c = X at *
  obtain ⟨g, Hg⟩ : ∃ g, Hid (w2.heap.size = g) := ⟨_, rfl⟩
  rw [Hg.out] at hX3 ⊢
  rcases hside with s1 | ⟨s1, s2⟩
  all_goals
    go_wp2_with fail
    refine (F.utf8 _ C X (by omega) w3 (F.keep _ _ hT hB3) hX3).mono ?_
    rintro e w4 ⟨rfl, hb4⟩
    rw [hXok.out]
    have hB4 := hB3.trans (hb4.mono hB3.size)
    have hX4 := hX3.below hb4
    obtain ⟨N, HN⟩ : ∃ N, Hid (X.length = N) := ⟨_, rfl⟩
    have hN4 : N = 1 ∨ N = 2 ∨ N = 3 ∨ N = 4 := by have := HN.out; omega
    have hC4 : (N : Int) ≤ (C : Int) := by have := hX3.1.2.1; have := HN.out; omega
    rw [HN.out]
    clear hXl hb4 hB3 hX3
    rcases hN4 with rfl | rfl | rfl | rfl
  · clear hC4
    go_wp2_with fail
    have hB9 := hB4
    have hX9 := hX4
    clear hB4 hX4
    revert hB9 hX9
    generalize w4 = w9
    intro hB9 hX9
    have htw := show Hid _ from twin_is hX9 (by have := HN.out; omega)
    rw [HN.out] at htw
    refine Calls.mono (Hid.out htw) ?_
    rintro e w10 ⟨a10, c10, rfl, hO10, hX10, hb10⟩
    clear htw
    have hX9' := hX9.below hb10
    go_wp2_with (at_builtin; refine wpList_app (by rfl) (.tmp 77) (.tmp 78) (by rfl) w9.heap.size (by rfl) hO10 hXb.out (by rfl) HN.out.symm hX9' (by have := HN.out; omega) hb10.size ?_; intro a11 c11 w11 hO11 hX11 hb11)
    have hB11 := hB9.trans ((hb10.trans hb11).mono hB9.size)
    have hq : Hid (Calls Tryd.prog 20 #[.slice a11 (X.length + X.length) c11] w11 fun e w' => e = .returned (.bool true) ∧ Below w11.heap.size w11 w') := by
      have h := F.utf8 a11 c11 (X ++ X) (by rw [List.length_append]; have := HN.out; omega) w11 (F.keep _ _ hT hB11) hX11
      rw [List.length_append, hXa.out, hXok.out] at h
      exact h
    refine Calls.mono (Hid.out hq) ?_
    rintro e w12 ⟨rfl, hb12⟩
    clear hq hO11 hX11 hO10 hX10 hX9'
    have hB12 := hB11.trans (hb12.mono hB11.size)
    have hX12 := (hX9.below (hb10.trans hb11)).below hb12
    go_wp2_with fail
    have htw := show Hid _ from twin_is hX12 (by have := HN.out; omega)
    rw [HN.out] at htw
    refine Calls.mono (Hid.out htw) ?_
    rintro e w13 ⟨a13, c13, rfl, hO13, hX13, hb13⟩
    have hff13 : Txt (w13.alloc (.cells #[.int .u8 255] 5)) (some ⟨w13.heap.size, 0, none⟩) 1 [255] := txt_cells (l := [255]) (own_new w13 #[.int .u8 255] 5) (bys_of rfl) (by decide)
    have hO13' := OwnBytes.below hO13 (alloc_below w13 (.cells #[.int .u8 255] 5))
    have hb13' := hb13.alloc hb13.size (.cells #[.int .u8 255] 5)
    clear htw hX13
    go_wp2_with (at_builtin; refine wpList_app (by rfl) (.tmp 83) (.tmp 84) (by rfl) w12.heap.size (by rfl) hO13' hXb.out (by rfl) (show 1 = [(255 : Int)].length from rfl) hff13 (by have := HN.out; simp only [List.length_cons, List.length_nil]; omega) hb13'.size ?_; intro a14 c14 w14 hO14 hX14 hb14)
    have hB14 := hB12.trans ((hb13'.trans hb14).mono hB12.size)
    have hq : Hid (Calls Tryd.prog 20 #[.slice a14 (X.length + 1) c14] w14 fun e w' => e = .returned (.bool false) ∧ Below w14.heap.size w14 w') := by
      have h := F.utf8 a14 c14 (X ++ [255]) (by rw [List.length_append, HN.out]; decide) w14 (F.keep _ _ hT hB14) hX14
      rw [List.length_append, hff.out] at h
      exact h
    refine Calls.mono (Hid.out hq) ?_
    rintro e w15 ⟨rfl, hb15⟩
    clear hq hO14 hX14
    have hB15 := hB14.trans (hb15.mono hB14.size)
    go_wp2_with fail
    refine (hwk.out w15 (F.keep _ _ hT hB15)).mono ?_
    rintro e w16 ⟨rfl, hb16⟩
    go_wp2_with fail
    go_ret
    exact ⟨rfl, hB15.trans (hb16.mono hB15.size)⟩
  · obtain ⟨k, hk1⟩ : ∃ k : Nat, Hid (1 = k) := ⟨_, rfl⟩
    have hkX : Hid (k < 2 ∧ 1 ≤ k) := ⟨by have := hk1.out; omega, by have := hk1.out; omega⟩
    have hC1 : (1 : Int) ≤ (C : Int) := by omega
    have h1C : (1 : Int) < (C : Int) := by omega
    have h1C' : 1 < C := by omega
    have hXN : Hid (1 < X.length) := by show _ < _; have := HN.out; omega
    go_wp2_with fail
    rw [hk1.out]
    have hq : Hid (Calls Tryd.prog 20 #[.slice (some ⟨g, 0, none⟩) k C] w4 fun e w' => e = .returned (.bool false) ∧ Below w4.heap.size w4 w') := by
      have hkX' : k < X.length := by have := HN.out; have := hkX.out; omega
      have h := F.utf8 _ C (X.take k) (by rw [List.length_take]; have := HN.out; omega) w4 (F.keep _ _ hT hB4) (pre_txt hX4 hkX')
      rw [List.length_take, Nat.min_eq_left (by omega), hXc.out hkX.out.2 hkX'] at h
      exact h
    refine Calls.mono (Hid.out hq) ?_
    rintro e w5 ⟨rfl, hb5⟩
    have hB5 := hB4.trans (hb5.mono hB4.size)
    have hX5 := hX4.below hb5
    clear hq
    go_wp2_with fail
    have hq : Hid (Calls Tryd.prog 20 #[.slice (some ⟨g, 1, none⟩) 1 (C - 1)] w5 fun e w' => e = .returned (.bool false) ∧ Below w5.heap.size w5 w') := by
      have h := F.utf8 _ (C - 1) (X.drop 1) (by rw [List.length_drop, HN.out]; decide) w5 (F.keep _ _ hT hB5) (suf_txt hX5 hXN.out)
      rw [List.length_drop, HN.out, hXt.out hXN.out] at h
      exact h
    refine Calls.mono (Hid.out hq) ?_
    rintro e w9 ⟨rfl, hb9⟩
    have hB9 := hB5.trans (hb9.mono hB5.size)
    have hX9 := hX5.below hb9
    clear hq
    go_wp2_with fail
    clear hb5 hb9 hB5 hX5 hB4 hX4
    have htw := show Hid _ from twin_is hX9 (by have := HN.out; omega)
    rw [HN.out] at htw
    refine Calls.mono (Hid.out htw) ?_
    rintro e w10 ⟨a10, c10, rfl, hO10, hX10, hb10⟩
    clear htw
    have hX9' := hX9.below hb10
    go_wp2_with (at_builtin; refine wpList_app (by rfl) (.tmp 77) (.tmp 78) (by rfl) w9.heap.size (by rfl) hO10 hXb.out (by rfl) HN.out.symm hX9' (by have := HN.out; omega) hb10.size ?_; intro a11 c11 w11 hO11 hX11 hb11)
    have hB11 := hB9.trans ((hb10.trans hb11).mono hB9.size)
    have hq : Hid (Calls Tryd.prog 20 #[.slice a11 (X.length + X.length) c11] w11 fun e w' => e = .returned (.bool true) ∧ Below w11.heap.size w11 w') := by
      have h := F.utf8 a11 c11 (X ++ X) (by rw [List.length_append]; have := HN.out; omega) w11 (F.keep _ _ hT hB11) hX11
      rw [List.length_append, hXa.out, hXok.out] at h
      exact h
    refine Calls.mono (Hid.out hq) ?_
    rintro e w12 ⟨rfl, hb12⟩
    clear hq hO11 hX11 hO10 hX10 hX9'
    have hB12 := hB11.trans (hb12.mono hB11.size)
    have hX12 := (hX9.below (hb10.trans hb11)).below hb12
    go_wp2_with fail
    have htw := show Hid _ from twin_is hX12 (by have := HN.out; omega)
    rw [HN.out] at htw
    refine Calls.mono (Hid.out htw) ?_
    rintro e w13 ⟨a13, c13, rfl, hO13, hX13, hb13⟩
    have hff13 : Txt (w13.alloc (.cells #[.int .u8 255] 5)) (some ⟨w13.heap.size, 0, none⟩) 1 [255] := txt_cells (l := [255]) (own_new w13 #[.int .u8 255] 5) (bys_of rfl) (by decide)
    have hO13' := OwnBytes.below hO13 (alloc_below w13 (.cells #[.int .u8 255] 5))
    have hb13' := hb13.alloc hb13.size (.cells #[.int .u8 255] 5)
    clear htw hX13
    go_wp2_with (at_builtin; refine wpList_app (by rfl) (.tmp 83) (.tmp 84) (by rfl) w12.heap.size (by rfl) hO13' hXb.out (by rfl) (show 1 = [(255 : Int)].length from rfl) hff13 (by have := HN.out; simp only [List.length_cons, List.length_nil]; omega) hb13'.size ?_; intro a14 c14 w14 hO14 hX14 hb14)
    have hB14 := hB12.trans ((hb13'.trans hb14).mono hB12.size)
    have hq : Hid (Calls Tryd.prog 20 #[.slice a14 (X.length + 1) c14] w14 fun e w' => e = .returned (.bool false) ∧ Below w14.heap.size w14 w') := by
      have h := F.utf8 a14 c14 (X ++ [255]) (by rw [List.length_append, HN.out]; decide) w14 (F.keep _ _ hT hB14) hX14
      rw [List.length_append, hff.out] at h
      exact h
    refine Calls.mono (Hid.out hq) ?_
    rintro e w15 ⟨rfl, hb15⟩
    clear hq hO14 hX14
    have hB15 := hB14.trans (hb15.mono hB14.size)
    go_wp2_with fail
    refine (hwk.out w15 (F.keep _ _ hT hB15)).mono ?_
    rintro e w16 ⟨rfl, hb16⟩
    go_wp2_with fail
    go_ret
    exact ⟨rfl, hB15.trans (hb16.mono hB15.size)⟩
  · obtain ⟨r, Hr, hr⟩ := left_of q 2 (by decide) (by decide)
    have Hr : wrap64 ((IntKind.u64.wrap q).tmod 2) = (r : Int) := Hr
    obtain ⟨k, Hk⟩ : ∃ k : Nat, Hid (1 + r = k) := ⟨_, rfl⟩
    have hk : (1 : Int) + (r : Int) = (k : Int) := by have := Hk.out; omega
    have hr4 : (r : Int) ≤ 3 := by omega
    have hkX : Hid (k < 3 ∧ 1 ≤ k) := ⟨by have := Hk.out; omega, by have := Hk.out; omega⟩
    have hkC : (k : Int) ≤ (C : Int) := by have := hkX.out; omega
    have h1C : (1 : Int) < (C : Int) := by omega
    have h1C' : 1 < C := by omega
    have hXN : Hid (1 < X.length) := by show _ < _; have := HN.out; omega
    go_wp2_with fail
    have hq : Hid (Calls Tryd.prog 20 #[.slice (some ⟨g, 0, none⟩) k C] w4 fun e w' => e = .returned (.bool false) ∧ Below w4.heap.size w4 w') := by
      have hkX' : k < X.length := by have := HN.out; have := hkX.out; omega
      have h := F.utf8 _ C (X.take k) (by rw [List.length_take]; have := HN.out; omega) w4 (F.keep _ _ hT hB4) (pre_txt hX4 hkX')
      rw [List.length_take, Nat.min_eq_left (by omega), hXc.out hkX.out.2 hkX'] at h
      exact h
    refine Calls.mono (Hid.out hq) ?_
    rintro e w5 ⟨rfl, hb5⟩
    have hB5 := hB4.trans (hb5.mono hB4.size)
    have hX5 := hX4.below hb5
    clear hq
    go_wp2_with fail
    have hq : Hid (Calls Tryd.prog 20 #[.slice (some ⟨g, 1, none⟩) 2 (C - 1)] w5 fun e w' => e = .returned (.bool false) ∧ Below w5.heap.size w5 w') := by
      have h := F.utf8 _ (C - 1) (X.drop 1) (by rw [List.length_drop, HN.out]; decide) w5 (F.keep _ _ hT hB5) (suf_txt hX5 hXN.out)
      rw [List.length_drop, HN.out, hXt.out hXN.out] at h
      exact h
    refine Calls.mono (Hid.out hq) ?_
    rintro e w9 ⟨rfl, hb9⟩
    have hB9 := hB5.trans (hb9.mono hB5.size)
    have hX9 := hX5.below hb9
    clear hq
    go_wp2_with fail
    clear hb5 hb9 hB5 hX5 hB4 hX4
    have htw := show Hid _ from twin_is hX9 (by have := HN.out; omega)
    rw [HN.out] at htw
    refine Calls.mono (Hid.out htw) ?_
    rintro e w10 ⟨a10, c10, rfl, hO10, hX10, hb10⟩
    clear htw
    have hX9' := hX9.below hb10
    go_wp2_with (at_builtin; refine wpList_app (by rfl) (.tmp 77) (.tmp 78) (by rfl) w9.heap.size (by rfl) hO10 hXb.out (by rfl) HN.out.symm hX9' (by have := HN.out; omega) hb10.size ?_; intro a11 c11 w11 hO11 hX11 hb11)
    have hB11 := hB9.trans ((hb10.trans hb11).mono hB9.size)
    have hq : Hid (Calls Tryd.prog 20 #[.slice a11 (X.length + X.length) c11] w11 fun e w' => e = .returned (.bool true) ∧ Below w11.heap.size w11 w') := by
      have h := F.utf8 a11 c11 (X ++ X) (by rw [List.length_append]; have := HN.out; omega) w11 (F.keep _ _ hT hB11) hX11
      rw [List.length_append, hXa.out, hXok.out] at h
      exact h
    refine Calls.mono (Hid.out hq) ?_
    rintro e w12 ⟨rfl, hb12⟩
    clear hq hO11 hX11 hO10 hX10 hX9'
    have hB12 := hB11.trans (hb12.mono hB11.size)
    have hX12 := (hX9.below (hb10.trans hb11)).below hb12
    go_wp2_with fail
    have htw := show Hid _ from twin_is hX12 (by have := HN.out; omega)
    rw [HN.out] at htw
    refine Calls.mono (Hid.out htw) ?_
    rintro e w13 ⟨a13, c13, rfl, hO13, hX13, hb13⟩
    have hff13 : Txt (w13.alloc (.cells #[.int .u8 255] 5)) (some ⟨w13.heap.size, 0, none⟩) 1 [255] := txt_cells (l := [255]) (own_new w13 #[.int .u8 255] 5) (bys_of rfl) (by decide)
    have hO13' := OwnBytes.below hO13 (alloc_below w13 (.cells #[.int .u8 255] 5))
    have hb13' := hb13.alloc hb13.size (.cells #[.int .u8 255] 5)
    clear htw hX13
    go_wp2_with (at_builtin; refine wpList_app (by rfl) (.tmp 83) (.tmp 84) (by rfl) w12.heap.size (by rfl) hO13' hXb.out (by rfl) (show 1 = [(255 : Int)].length from rfl) hff13 (by have := HN.out; simp only [List.length_cons, List.length_nil]; omega) hb13'.size ?_; intro a14 c14 w14 hO14 hX14 hb14)
    have hB14 := hB12.trans ((hb13'.trans hb14).mono hB12.size)
    have hq : Hid (Calls Tryd.prog 20 #[.slice a14 (X.length + 1) c14] w14 fun e w' => e = .returned (.bool false) ∧ Below w14.heap.size w14 w') := by
      have h := F.utf8 a14 c14 (X ++ [255]) (by rw [List.length_append, HN.out]; decide) w14 (F.keep _ _ hT hB14) hX14
      rw [List.length_append, hff.out] at h
      exact h
    refine Calls.mono (Hid.out hq) ?_
    rintro e w15 ⟨rfl, hb15⟩
    clear hq hO14 hX14
    have hB15 := hB14.trans (hb15.mono hB14.size)
    go_wp2_with fail
    refine (hwk.out w15 (F.keep _ _ hT hB15)).mono ?_
    rintro e w16 ⟨rfl, hb16⟩
    go_wp2_with fail
    go_ret
    exact ⟨rfl, hB15.trans (hb16.mono hB15.size)⟩
  · obtain ⟨r, Hr, hr⟩ := left_of q 3 (by decide) (by decide)
    have Hr : wrap64 ((IntKind.u64.wrap q).tmod 3) = (r : Int) := Hr
    obtain ⟨k, Hk⟩ : ∃ k : Nat, Hid (1 + r = k) := ⟨_, rfl⟩
    have hk : (1 : Int) + (r : Int) = (k : Int) := by have := Hk.out; omega
    have hr4 : (r : Int) ≤ 3 := by omega
    have hkX : Hid (k < 4 ∧ 1 ≤ k) := ⟨by have := Hk.out; omega, by have := Hk.out; omega⟩
    have hkC : (k : Int) ≤ (C : Int) := by have := hkX.out; omega
    have h1C : (1 : Int) < (C : Int) := by omega
    have h1C' : 1 < C := by omega
    have hXN : Hid (1 < X.length) := by show _ < _; have := HN.out; omega
    go_wp2_with fail
    have hq : Hid (Calls Tryd.prog 20 #[.slice (some ⟨g, 0, none⟩) k C] w4 fun e w' => e = .returned (.bool false) ∧ Below w4.heap.size w4 w') := by
      have hkX' : k < X.length := by have := HN.out; have := hkX.out; omega
      have h := F.utf8 _ C (X.take k) (by rw [List.length_take]; have := HN.out; omega) w4 (F.keep _ _ hT hB4) (pre_txt hX4 hkX')
      rw [List.length_take, Nat.min_eq_left (by omega), hXc.out hkX.out.2 hkX'] at h
      exact h
    refine Calls.mono (Hid.out hq) ?_
    rintro e w5 ⟨rfl, hb5⟩
    have hB5 := hB4.trans (hb5.mono hB4.size)
    have hX5 := hX4.below hb5
    clear hq
    go_wp2_with fail
    have hq : Hid (Calls Tryd.prog 20 #[.slice (some ⟨g, 1, none⟩) 3 (C - 1)] w5 fun e w' => e = .returned (.bool false) ∧ Below w5.heap.size w5 w') := by
      have h := F.utf8 _ (C - 1) (X.drop 1) (by rw [List.length_drop, HN.out]; decide) w5 (F.keep _ _ hT hB5) (suf_txt hX5 hXN.out)
      rw [List.length_drop, HN.out, hXt.out hXN.out] at h
      exact h
    refine Calls.mono (Hid.out hq) ?_
    rintro e w9 ⟨rfl, hb9⟩
    have hB9 := hB5.trans (hb9.mono hB5.size)
    have hX9 := hX5.below hb9
    clear hq
    go_wp2_with fail
    clear hb5 hb9 hB5 hX5 hB4 hX4
    have htw := show Hid _ from twin_is hX9 (by have := HN.out; omega)
    rw [HN.out] at htw
    refine Calls.mono (Hid.out htw) ?_
    rintro e w10 ⟨a10, c10, rfl, hO10, hX10, hb10⟩
    clear htw
    have hX9' := hX9.below hb10
    go_wp2_with (at_builtin; refine wpList_app (by rfl) (.tmp 77) (.tmp 78) (by rfl) w9.heap.size (by rfl) hO10 hXb.out (by rfl) HN.out.symm hX9' (by have := HN.out; omega) hb10.size ?_; intro a11 c11 w11 hO11 hX11 hb11)
    have hB11 := hB9.trans ((hb10.trans hb11).mono hB9.size)
    have hq : Hid (Calls Tryd.prog 20 #[.slice a11 (X.length + X.length) c11] w11 fun e w' => e = .returned (.bool true) ∧ Below w11.heap.size w11 w') := by
      have h := F.utf8 a11 c11 (X ++ X) (by rw [List.length_append]; have := HN.out; omega) w11 (F.keep _ _ hT hB11) hX11
      rw [List.length_append, hXa.out, hXok.out] at h
      exact h
    refine Calls.mono (Hid.out hq) ?_
    rintro e w12 ⟨rfl, hb12⟩
    clear hq hO11 hX11 hO10 hX10 hX9'
    have hB12 := hB11.trans (hb12.mono hB11.size)
    have hX12 := (hX9.below (hb10.trans hb11)).below hb12
    go_wp2_with fail
    have htw := show Hid _ from twin_is hX12 (by have := HN.out; omega)
    rw [HN.out] at htw
    refine Calls.mono (Hid.out htw) ?_
    rintro e w13 ⟨a13, c13, rfl, hO13, hX13, hb13⟩
    have hff13 : Txt (w13.alloc (.cells #[.int .u8 255] 5)) (some ⟨w13.heap.size, 0, none⟩) 1 [255] := txt_cells (l := [255]) (own_new w13 #[.int .u8 255] 5) (bys_of rfl) (by decide)
    have hO13' := OwnBytes.below hO13 (alloc_below w13 (.cells #[.int .u8 255] 5))
    have hb13' := hb13.alloc hb13.size (.cells #[.int .u8 255] 5)
    clear htw hX13
    go_wp2_with (at_builtin; refine wpList_app (by rfl) (.tmp 83) (.tmp 84) (by rfl) w12.heap.size (by rfl) hO13' hXb.out (by rfl) (show 1 = [(255 : Int)].length from rfl) hff13 (by have := HN.out; simp only [List.length_cons, List.length_nil]; omega) hb13'.size ?_; intro a14 c14 w14 hO14 hX14 hb14)
    have hB14 := hB12.trans ((hb13'.trans hb14).mono hB12.size)
    have hq : Hid (Calls Tryd.prog 20 #[.slice a14 (X.length + 1) c14] w14 fun e w' => e = .returned (.bool false) ∧ Below w14.heap.size w14 w') := by
      have h := F.utf8 a14 c14 (X ++ [255]) (by rw [List.length_append, HN.out]; decide) w14 (F.keep _ _ hT hB14) hX14
      rw [List.length_append, hff.out] at h
      exact h
    refine Calls.mono (Hid.out hq) ?_
    rintro e w15 ⟨rfl, hb15⟩
    clear hq hO14 hX14
    have hB15 := hB14.trans (hb15.mono hB14.size)
    go_wp2_with fail
    refine (hwk.out w15 (F.keep _ _ hT hB15)).mono ?_
    rintro e w16 ⟨rfl, hb16⟩
    go_wp2_with fail
    go_ret
    exact ⟨rfl, hB15.trans (hb16.mono hB15.size)⟩
  · clear hC4
    go_wp2_with fail
    have hB9 := hB4
    have hX9 := hX4
    clear hB4 hX4
    revert hB9 hX9
    generalize w4 = w9
    intro hB9 hX9
    have htw := show Hid _ from twin_is hX9 (by have := HN.out; omega)
    rw [HN.out] at htw
    refine Calls.mono (Hid.out htw) ?_
    rintro e w10 ⟨a10, c10, rfl, hO10, hX10, hb10⟩
    clear htw
    have hX9' := hX9.below hb10
    go_wp2_with (at_builtin; refine wpList_app (by rfl) (.tmp 77) (.tmp 78) (by rfl) w9.heap.size (by rfl) hO10 hXb.out (by rfl) HN.out.symm hX9' (by have := HN.out; omega) hb10.size ?_; intro a11 c11 w11 hO11 hX11 hb11)
    have hB11 := hB9.trans ((hb10.trans hb11).mono hB9.size)
    have hq : Hid (Calls Tryd.prog 20 #[.slice a11 (X.length + X.length) c11] w11 fun e w' => e = .returned (.bool true) ∧ Below w11.heap.size w11 w') := by
      have h := F.utf8 a11 c11 (X ++ X) (by rw [List.length_append]; have := HN.out; omega) w11 (F.keep _ _ hT hB11) hX11
      rw [List.length_append, hXa.out, hXok.out] at h
      exact h
    refine Calls.mono (Hid.out hq) ?_
    rintro e w12 ⟨rfl, hb12⟩
    clear hq hO11 hX11 hO10 hX10 hX9'
    have hB12 := hB11.trans (hb12.mono hB11.size)
    have hX12 := (hX9.below (hb10.trans hb11)).below hb12
    go_wp2_with fail
    have htw := show Hid _ from twin_is hX12 (by have := HN.out; omega)
    rw [HN.out] at htw
    refine Calls.mono (Hid.out htw) ?_
    rintro e w13 ⟨a13, c13, rfl, hO13, hX13, hb13⟩
    have hff13 : Txt (w13.alloc (.cells #[.int .u8 255] 5)) (some ⟨w13.heap.size, 0, none⟩) 1 [255] := txt_cells (l := [255]) (own_new w13 #[.int .u8 255] 5) (bys_of rfl) (by decide)
    have hO13' := OwnBytes.below hO13 (alloc_below w13 (.cells #[.int .u8 255] 5))
    have hb13' := hb13.alloc hb13.size (.cells #[.int .u8 255] 5)
    clear htw hX13
    go_wp2_with (at_builtin; refine wpList_app (by rfl) (.tmp 83) (.tmp 84) (by rfl) w12.heap.size (by rfl) hO13' hXb.out (by rfl) (show 1 = [(255 : Int)].length from rfl) hff13 (by have := HN.out; simp only [List.length_cons, List.length_nil]; omega) hb13'.size ?_; intro a14 c14 w14 hO14 hX14 hb14)
    have hB14 := hB12.trans ((hb13'.trans hb14).mono hB12.size)
    have hq : Hid (Calls Tryd.prog 20 #[.slice a14 (X.length + 1) c14] w14 fun e w' => e = .returned (.bool false) ∧ Below w14.heap.size w14 w') := by
      have h := F.utf8 a14 c14 (X ++ [255]) (by rw [List.length_append, HN.out]; decide) w14 (F.keep _ _ hT hB14) hX14
      rw [List.length_append, hff.out] at h
      exact h
    refine Calls.mono (Hid.out hq) ?_
    rintro e w15 ⟨rfl, hb15⟩
    clear hq hO14 hX14
    have hB15 := hB14.trans (hb15.mono hB14.size)
    go_wp2_with fail
    refine (hwk.out w15 (F.keep _ _ hT hB15)).mono ?_
    rintro e w16 ⟨rfl, hb16⟩
    go_wp2_with fail
    go_ret
    exact ⟨rfl, hB15.trans (hb16.mono hB15.size)⟩
  · obtain ⟨k, hk1⟩ : ∃ k : Nat, Hid (1 = k) := ⟨_, rfl⟩
    have hkX : Hid (k < 2 ∧ 1 ≤ k) := ⟨by have := hk1.out; omega, by have := hk1.out; omega⟩
    have hC1 : (1 : Int) ≤ (C : Int) := by omega
    have h1C : (1 : Int) < (C : Int) := by omega
    have h1C' : 1 < C := by omega
    have hXN : Hid (1 < X.length) := by show _ < _; have := HN.out; omega
    go_wp2_with fail
    rw [hk1.out]
    have hq : Hid (Calls Tryd.prog 20 #[.slice (some ⟨g, 0, none⟩) k C] w4 fun e w' => e = .returned (.bool false) ∧ Below w4.heap.size w4 w') := by
      have hkX' : k < X.length := by have := HN.out; have := hkX.out; omega
      have h := F.utf8 _ C (X.take k) (by rw [List.length_take]; have := HN.out; omega) w4 (F.keep _ _ hT hB4) (pre_txt hX4 hkX')
      rw [List.length_take, Nat.min_eq_left (by omega), hXc.out hkX.out.2 hkX'] at h
      exact h
    refine Calls.mono (Hid.out hq) ?_
    rintro e w5 ⟨rfl, hb5⟩
    have hB5 := hB4.trans (hb5.mono hB4.size)
    have hX5 := hX4.below hb5
    clear hq
    go_wp2_with fail
    have hq : Hid (Calls Tryd.prog 20 #[.slice (some ⟨g, 1, none⟩) 1 (C - 1)] w5 fun e w' => e = .returned (.bool false) ∧ Below w5.heap.size w5 w') := by
      have h := F.utf8 _ (C - 1) (X.drop 1) (by rw [List.length_drop, HN.out]; decide) w5 (F.keep _ _ hT hB5) (suf_txt hX5 hXN.out)
      rw [List.length_drop, HN.out, hXt.out hXN.out] at h
      exact h
    refine Calls.mono (Hid.out hq) ?_
    rintro e w9 ⟨rfl, hb9⟩
    have hB9 := hB5.trans (hb9.mono hB5.size)
    have hX9 := hX5.below hb9
    clear hq
    go_wp2_with fail
    clear hb5 hb9 hB5 hX5 hB4 hX4
    have htw := show Hid _ from twin_is hX9 (by have := HN.out; omega)
    rw [HN.out] at htw
    refine Calls.mono (Hid.out htw) ?_
    rintro e w10 ⟨a10, c10, rfl, hO10, hX10, hb10⟩
    clear htw
    have hX9' := hX9.below hb10
    go_wp2_with (at_builtin; refine wpList_app (by rfl) (.tmp 77) (.tmp 78) (by rfl) w9.heap.size (by rfl) hO10 hXb.out (by rfl) HN.out.symm hX9' (by have := HN.out; omega) hb10.size ?_; intro a11 c11 w11 hO11 hX11 hb11)
    have hB11 := hB9.trans ((hb10.trans hb11).mono hB9.size)
    have hq : Hid (Calls Tryd.prog 20 #[.slice a11 (X.length + X.length) c11] w11 fun e w' => e = .returned (.bool true) ∧ Below w11.heap.size w11 w') := by
      have h := F.utf8 a11 c11 (X ++ X) (by rw [List.length_append]; have := HN.out; omega) w11 (F.keep _ _ hT hB11) hX11
      rw [List.length_append, hXa.out, hXok.out] at h
      exact h
    refine Calls.mono (Hid.out hq) ?_
    rintro e w12 ⟨rfl, hb12⟩
    clear hq hO11 hX11 hO10 hX10 hX9'
    have hB12 := hB11.trans (hb12.mono hB11.size)
    have hX12 := (hX9.below (hb10.trans hb11)).below hb12
    go_wp2_with fail
    have htw := show Hid _ from twin_is hX12 (by have := HN.out; omega)
    rw [HN.out] at htw
    refine Calls.mono (Hid.out htw) ?_
    rintro e w13 ⟨a13, c13, rfl, hO13, hX13, hb13⟩
    have hff13 : Txt (w13.alloc (.cells #[.int .u8 255] 5)) (some ⟨w13.heap.size, 0, none⟩) 1 [255] := txt_cells (l := [255]) (own_new w13 #[.int .u8 255] 5) (bys_of rfl) (by decide)
    have hO13' := OwnBytes.below hO13 (alloc_below w13 (.cells #[.int .u8 255] 5))
    have hb13' := hb13.alloc hb13.size (.cells #[.int .u8 255] 5)
    clear htw hX13
    go_wp2_with (at_builtin; refine wpList_app (by rfl) (.tmp 83) (.tmp 84) (by rfl) w12.heap.size (by rfl) hO13' hXb.out (by rfl) (show 1 = [(255 : Int)].length from rfl) hff13 (by have := HN.out; simp only [List.length_cons, List.length_nil]; omega) hb13'.size ?_; intro a14 c14 w14 hO14 hX14 hb14)
    have hB14 := hB12.trans ((hb13'.trans hb14).mono hB12.size)
    have hq : Hid (Calls Tryd.prog 20 #[.slice a14 (X.length + 1) c14] w14 fun e w' => e = .returned (.bool false) ∧ Below w14.heap.size w14 w') := by
      have h := F.utf8 a14 c14 (X ++ [255]) (by rw [List.length_append, HN.out]; decide) w14 (F.keep _ _ hT hB14) hX14
      rw [List.length_append, hff.out] at h
      exact h
    refine Calls.mono (Hid.out hq) ?_
    rintro e w15 ⟨rfl, hb15⟩
    clear hq hO14 hX14
    have hB15 := hB14.trans (hb15.mono hB14.size)
    go_wp2_with fail
    refine (hwk.out w15 (F.keep _ _ hT hB15)).mono ?_
    rintro e w16 ⟨rfl, hb16⟩
    go_wp2_with fail
    go_ret
    exact ⟨rfl, hB15.trans (hb16.mono hB15.size)⟩
  · obtain ⟨r, Hr, hr⟩ := left_of q 2 (by decide) (by decide)
    have Hr : wrap64 ((IntKind.u64.wrap q).tmod 2) = (r : Int) := Hr
    obtain ⟨k, Hk⟩ : ∃ k : Nat, Hid (1 + r = k) := ⟨_, rfl⟩
    have hk : (1 : Int) + (r : Int) = (k : Int) := by have := Hk.out; omega
    have hr4 : (r : Int) ≤ 3 := by omega
    have hkX : Hid (k < 3 ∧ 1 ≤ k) := ⟨by have := Hk.out; omega, by have := Hk.out; omega⟩
    have hkC : (k : Int) ≤ (C : Int) := by have := hkX.out; omega
    have h1C : (1 : Int) < (C : Int) := by omega
    have h1C' : 1 < C := by omega
    have hXN : Hid (1 < X.length) := by show _ < _; have := HN.out; omega
    go_wp2_with fail
    have hq : Hid (Calls Tryd.prog 20 #[.slice (some ⟨g, 0, none⟩) k C] w4 fun e w' => e = .returned (.bool false) ∧ Below w4.heap.size w4 w') := by
      have hkX' : k < X.length := by have := HN.out; have := hkX.out; omega
      have h := F.utf8 _ C (X.take k) (by rw [List.length_take]; have := HN.out; omega) w4 (F.keep _ _ hT hB4) (pre_txt hX4 hkX')
      rw [List.length_take, Nat.min_eq_left (by omega), hXc.out hkX.out.2 hkX'] at h
      exact h
    refine Calls.mono (Hid.out hq) ?_
    rintro e w5 ⟨rfl, hb5⟩
    have hB5 := hB4.trans (hb5.mono hB4.size)
    have hX5 := hX4.below hb5
    clear hq
    go_wp2_with fail
    have hq : Hid (Calls Tryd.prog 20 #[.slice (some ⟨g, 1, none⟩) 2 (C - 1)] w5 fun e w' => e = .returned (.bool false) ∧ Below w5.heap.size w5 w') := by
      have h := F.utf8 _ (C - 1) (X.drop 1) (by rw [List.length_drop, HN.out]; decide) w5 (F.keep _ _ hT hB5) (suf_txt hX5 hXN.out)
      rw [List.length_drop, HN.out, hXt.out hXN.out] at h
      exact h
    refine Calls.mono (Hid.out hq) ?_
    rintro e w9 ⟨rfl, hb9⟩
    have hB9 := hB5.trans (hb9.mono hB5.size)
    have hX9 := hX5.below hb9
    clear hq
    go_wp2_with fail
    clear hb5 hb9 hB5 hX5 hB4 hX4
    have htw := show Hid _ from twin_is hX9 (by have := HN.out; omega)
    rw [HN.out] at htw
    refine Calls.mono (Hid.out htw) ?_
    rintro e w10 ⟨a10, c10, rfl, hO10, hX10, hb10⟩
    clear htw
    have hX9' := hX9.below hb10
    go_wp2_with (at_builtin; refine wpList_app (by rfl) (.tmp 77) (.tmp 78) (by rfl) w9.heap.size (by rfl) hO10 hXb.out (by rfl) HN.out.symm hX9' (by have := HN.out; omega) hb10.size ?_; intro a11 c11 w11 hO11 hX11 hb11)
    have hB11 := hB9.trans ((hb10.trans hb11).mono hB9.size)
    have hq : Hid (Calls Tryd.prog 20 #[.slice a11 (X.length + X.length) c11] w11 fun e w' => e = .returned (.bool true) ∧ Below w11.heap.size w11 w') := by
      have h := F.utf8 a11 c11 (X ++ X) (by rw [List.length_append]; have := HN.out; omega) w11 (F.keep _ _ hT hB11) hX11
      rw [List.length_append, hXa.out, hXok.out] at h
      exact h
    refine Calls.mono (Hid.out hq) ?_
    rintro e w12 ⟨rfl, hb12⟩
    clear hq hO11 hX11 hO10 hX10 hX9'
    have hB12 := hB11.trans (hb12.mono hB11.size)
    have hX12 := (hX9.below (hb10.trans hb11)).below hb12
    go_wp2_with fail
    have htw := show Hid _ from twin_is hX12 (by have := HN.out; omega)
    rw [HN.out] at htw
    refine Calls.mono (Hid.out htw) ?_
    rintro e w13 ⟨a13, c13, rfl, hO13, hX13, hb13⟩
    have hff13 : Txt (w13.alloc (.cells #[.int .u8 255] 5)) (some ⟨w13.heap.size, 0, none⟩) 1 [255] := txt_cells (l := [255]) (own_new w13 #[.int .u8 255] 5) (bys_of rfl) (by decide)
    have hO13' := OwnBytes.below hO13 (alloc_below w13 (.cells #[.int .u8 255] 5))
    have hb13' := hb13.alloc hb13.size (.cells #[.int .u8 255] 5)
    clear htw hX13
    go_wp2_with (at_builtin; refine wpList_app (by rfl) (.tmp 83) (.tmp 84) (by rfl) w12.heap.size (by rfl) hO13' hXb.out (by rfl) (show 1 = [(255 : Int)].length from rfl) hff13 (by have := HN.out; simp only [List.length_cons, List.length_nil]; omega) hb13'.size ?_; intro a14 c14 w14 hO14 hX14 hb14)
    have hB14 := hB12.trans ((hb13'.trans hb14).mono hB12.size)
    have hq : Hid (Calls Tryd.prog 20 #[.slice a14 (X.length + 1) c14] w14 fun e w' => e = .returned (.bool false) ∧ Below w14.heap.size w14 w') := by
      have h := F.utf8 a14 c14 (X ++ [255]) (by rw [List.length_append, HN.out]; decide) w14 (F.keep _ _ hT hB14) hX14
      rw [List.length_append, hff.out] at h
      exact h
    refine Calls.mono (Hid.out hq) ?_
    rintro e w15 ⟨rfl, hb15⟩
    clear hq hO14 hX14
    have hB15 := hB14.trans (hb15.mono hB14.size)
    go_wp2_with fail
    refine (hwk.out w15 (F.keep _ _ hT hB15)).mono ?_
    rintro e w16 ⟨rfl, hb16⟩
    go_wp2_with fail
    go_ret
    exact ⟨rfl, hB15.trans (hb16.mono hB15.size)⟩
  · obtain ⟨r, Hr, hr⟩ := left_of q 3 (by decide) (by decide)
    have Hr : wrap64 ((IntKind.u64.wrap q).tmod 3) = (r : Int) := Hr
    obtain ⟨k, Hk⟩ : ∃ k : Nat, Hid (1 + r = k) := ⟨_, rfl⟩
    have hk : (1 : Int) + (r : Int) = (k : Int) := by have := Hk.out; omega
    have hr4 : (r : Int) ≤ 3 := by omega
    have hkX : Hid (k < 4 ∧ 1 ≤ k) := ⟨by have := Hk.out; omega, by have := Hk.out; omega⟩
    have hkC : (k : Int) ≤ (C : Int) := by have := hkX.out; omega
    have h1C : (1 : Int) < (C : Int) := by omega
    have h1C' : 1 < C := by omega
    have hXN : Hid (1 < X.length) := by show _ < _; have := HN.out; omega
    go_wp2_with fail
    have hq : Hid (Calls Tryd.prog 20 #[.slice (some ⟨g, 0, none⟩) k C] w4 fun e w' => e = .returned (.bool false) ∧ Below w4.heap.size w4 w') := by
      have hkX' : k < X.length := by have := HN.out; have := hkX.out; omega
      have h := F.utf8 _ C (X.take k) (by rw [List.length_take]; have := HN.out; omega) w4 (F.keep _ _ hT hB4) (pre_txt hX4 hkX')
      rw [List.length_take, Nat.min_eq_left (by omega), hXc.out hkX.out.2 hkX'] at h
      exact h
    refine Calls.mono (Hid.out hq) ?_
    rintro e w5 ⟨rfl, hb5⟩
    have hB5 := hB4.trans (hb5.mono hB4.size)
    have hX5 := hX4.below hb5
    clear hq
    go_wp2_with fail
    have hq : Hid (Calls Tryd.prog 20 #[.slice (some ⟨g, 1, none⟩) 3 (C - 1)] w5 fun e w' => e = .returned (.bool false) ∧ Below w5.heap.size w5 w') := by
      have h := F.utf8 _ (C - 1) (X.drop 1) (by rw [List.length_drop, HN.out]; decide) w5 (F.keep _ _ hT hB5) (suf_txt hX5 hXN.out)
      rw [List.length_drop, HN.out, hXt.out hXN.out] at h
      exact h
    refine Calls.mono (Hid.out hq) ?_
    rintro e w9 ⟨rfl, hb9⟩
    have hB9 := hB5.trans (hb9.mono hB5.size)
    have hX9 := hX5.below hb9
    clear hq
    go_wp2_with fail
    clear hb5 hb9 hB5 hX5 hB4 hX4
    have htw := show Hid _ from twin_is hX9 (by have := HN.out; omega)
    rw [HN.out] at htw
    refine Calls.mono (Hid.out htw) ?_
    rintro e w10 ⟨a10, c10, rfl, hO10, hX10, hb10⟩
    clear htw
    have hX9' := hX9.below hb10
    go_wp2_with (at_builtin; refine wpList_app (by rfl) (.tmp 77) (.tmp 78) (by rfl) w9.heap.size (by rfl) hO10 hXb.out (by rfl) HN.out.symm hX9' (by have := HN.out; omega) hb10.size ?_; intro a11 c11 w11 hO11 hX11 hb11)
    have hB11 := hB9.trans ((hb10.trans hb11).mono hB9.size)
    have hq : Hid (Calls Tryd.prog 20 #[.slice a11 (X.length + X.length) c11] w11 fun e w' => e = .returned (.bool true) ∧ Below w11.heap.size w11 w') := by
      have h := F.utf8 a11 c11 (X ++ X) (by rw [List.length_append]; have := HN.out; omega) w11 (F.keep _ _ hT hB11) hX11
      rw [List.length_append, hXa.out, hXok.out] at h
      exact h
    refine Calls.mono (Hid.out hq) ?_
    rintro e w12 ⟨rfl, hb12⟩
    clear hq hO11 hX11 hO10 hX10 hX9'
    have hB12 := hB11.trans (hb12.mono hB11.size)
    have hX12 := (hX9.below (hb10.trans hb11)).below hb12
    go_wp2_with fail
    have htw := show Hid _ from twin_is hX12 (by have := HN.out; omega)
    rw [HN.out] at htw
    refine Calls.mono (Hid.out htw) ?_
    rintro e w13 ⟨a13, c13, rfl, hO13, hX13, hb13⟩
    have hff13 : Txt (w13.alloc (.cells #[.int .u8 255] 5)) (some ⟨w13.heap.size, 0, none⟩) 1 [255] := txt_cells (l := [255]) (own_new w13 #[.int .u8 255] 5) (bys_of rfl) (by decide)
    have hO13' := OwnBytes.below hO13 (alloc_below w13 (.cells #[.int .u8 255] 5))
    have hb13' := hb13.alloc hb13.size (.cells #[.int .u8 255] 5)
    clear htw hX13
    go_wp2_with (at_builtin; refine wpList_app (by rfl) (.tmp 83) (.tmp 84) (by rfl) w12.heap.size (by rfl) hO13' hXb.out (by rfl) (show 1 = [(255 : Int)].length from rfl) hff13 (by have := HN.out; simp only [List.length_cons, List.length_nil]; omega) hb13'.size ?_; intro a14 c14 w14 hO14 hX14 hb14)
    have hB14 := hB12.trans ((hb13'.trans hb14).mono hB12.size)
    have hq : Hid (Calls Tryd.prog 20 #[.slice a14 (X.length + 1) c14] w14 fun e w' => e = .returned (.bool false) ∧ Below w14.heap.size w14 w') := by
      have h := F.utf8 a14 c14 (X ++ [255]) (by rw [List.length_append, HN.out]; decide) w14 (F.keep _ _ hT hB14) hX14
      rw [List.length_append, hff.out] at h
      exact h
    refine Calls.mono (Hid.out hq) ?_
    rintro e w15 ⟨rfl, hb15⟩
    clear hq hO14 hX14
    have hB15 := hB14.trans (hb15.mono hB14.size)
    go_wp2_with fail
    refine (hwk.out w15 (F.keep _ _ hT hB15)).mono ?_
    rintro e w16 ⟨rfl, hb16⟩
    go_wp2_with fail
    go_ret
    exact ⟨rfl, hB15.trans (hb16.mono hB15.size)⟩
end Go.Proofs.YtaabcllghniaoaaDoor
