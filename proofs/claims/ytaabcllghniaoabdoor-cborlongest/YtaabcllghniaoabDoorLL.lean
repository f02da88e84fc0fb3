/- The law CborLongest, over contracts. -/
import Derived.Test.YtaabcllghniaoabDoorLK
import Derived.Test.YtaabcllghniaoabDoorHP
namespace Go.Proofs.YtaabcllghniaoabDoor
open Go Go.RowKit
/-- Noughts, as a text. -/
theorem zeros_txt {w : World} {g n : Nat} (h : Own w g (Array.replicate n (.int .u8 0)) 5) (hn : n ≤ 1000000) : Txt w (some ⟨g, 0, none⟩) n (List.replicate n 0) := by
  have e : (u8s (List.replicate n 0)).toArray = Array.replicate n (Value.int .u8 0) := by
    apply Array.ext'
    simp [u8s]
  have h' : Own w g (u8s (List.replicate n 0)).toArray 5 := by rw [e]; exact h
  have := txt_cells h' (fun x hx => by obtain ⟨-, rfl⟩ := List.mem_replicate.1 hx; omega) (by rw [List.length_replicate]; exact hn)
  rwa [List.length_replicate] at this
theorem hd_mid {n : Nat} (h : 256 ≤ n) (h' : n < 65536) (mj : Nat) : (hd mj n).length = 3 := by
  rw [hd_length]
  unfold hsize
  rw [if_neg (by omega), if_neg (by omega), if_pos (by omega)]
set_option maxRecDepth 100000 in
set_option maxHeartbeats 4000000 in
theorem clongest_is {T : World → Prop} (F : Cbor T) {over : Int} {w : World} (hT : T w) : Calls Tryd.prog 6 #[.int .i64 over] w fun e w' => e = .returned (.bool true) ∧ Below w.heap.size w w' := by
  have hwk := show Hid _ from cwakes F
  obtain ⟨r, Hr, hr⟩ := left_of over 2 (by decide) (by decide)
  have Hr : wrap64 ((IntKind.u64.wrap over).tmod 2) = (r : Int) := Hr
  have hr0 : (0 : Int) ≤ (r : Int) := by omega
  have hr2 : (r : Int) < 2 := by omega
  obtain ⟨n, Hn⟩ : ∃ n, Hid (32765 + r = n) := ⟨_, rfl⟩
  have hnc : (32765 : Int) + (r : Int) = (n : Int) := by have := Hn.out; omega
  have hn2 : n ≤ 100000 := by have := Hn.out; omega
  go_enter Tryd.func6, Tryd.ntmps6
  go_wp2_with (refine wpList_make_room _ (by rfl) (.tmp 15) (.tmp 15) 24 (by rfl) 5 (.int .u8 0) Tryd.underlying24 (by' := 1) info5 rfl .i64 .i64 (n : Int) (n : Int) n n (by rfl) (by rfl) rfl rfl (Nat.le_refl _) (by omega) (by unfold maxLen; omega) ?_; intro w1 hO1 hg1)
  have hB1 : Below w.heap.size w w1 := (Below.refl _ _).grown hg1 (Nat.le_refl _) (fun k e => by cases e)
  have hZ := zeros_txt hO1 (by omega)
  have hzl : Hid ((List.replicate n (0 : Int)).length = n) := List.length_replicate
  generalize List.replicate n (0 : Int) = zs at hZ hzl
  have hen : Hid (enc [⟨3, 0, zs⟩] = if (hd 2 n ++ zs).length ≤ 32768 then some (hd 2 n ++ zs) else none) := by show _ = _; rw [enc_bytes, hzl.out]
  have hhl : Hid ((hd 2 n ++ zs).length = 3 + n) := by show _ = _; rw [List.length_append, hzl.out, hd_mid (by have := Hn.out; omega) (by omega)]
  have hwf : (⟨3, 0, zs⟩ : Tk).wf := ⟨⟨by show (-9223372036854775808 : Int) ≤ 3; decide, by show (3 : Int) < 9223372036854775808; decide⟩, by show (-9223372036854775808 : Int) ≤ 0; decide, by show (0 : Int) < 9223372036854775808; decide⟩
  obtain ⟨g0, Hg0⟩ : ∃ g, Hid (w.heap.size = g) := ⟨_, rfl⟩
  rw [Hg0.out] at hZ
  have htx : Tx w1 (.slice (some ⟨g0, 0, none⟩) n n) zs := ⟨some ⟨g0, 0, none⟩, n, by rw [hzl.out], hZ⟩
  have hq := show Hid _ from enc1 F hT hB1 3 0 zs hwf (by rw [hzl.out]; exact hn2) htx
  have hTk : Toks (w1.alloc (.cells #[.int .i64 3, .int .i64 0, .slice (some ⟨g0, 0, none⟩) n n] 30)) (some ⟨w1.heap.size, 0, none⟩) 1 [⟨3, 0, zs⟩] := toks_one (t := ⟨3, 0, zs⟩) (P := fun _ => True) (own_new _ _ _) hwf (htx.below (alloc_below _ _)) (fun _ _ _ => trivial)
  have hB2 := hB1.alloc hB1.size (.cells #[.int .i64 3, .int .i64 0, .slice (some ⟨g0, 0, none⟩) n n] 30)
  have hq : Hid (Calls Tryd.prog 10 #[.slice (some ⟨w1.heap.size, 0, none⟩) 1 1] (w1.alloc (.cells #[.int .i64 3, .int .i64 0, .slice (some ⟨g0, 0, none⟩) n n] 30)) fun e w' => ((enc [⟨3, 0, zs⟩] = none ∧ ∃ a' c', e = .returned (.tuple #[.slice a' 0 c', .int .i64 1]) ∧ Txt w' a' c' []) ∨ ∃ x a c, enc [⟨3, 0, zs⟩] = some x ∧ e = .returned (.tuple #[.slice a x.length c, .int .i64 0]) ∧ Txt w' a c x) ∧ Below (w1.alloc (.cells #[.int .i64 3, .int .i64 0, .slice (some ⟨g0, 0, none⟩) n n] 30)).heap.size (w1.alloc (.cells #[.int .i64 3, .int .i64 0, .slice (some ⟨g0, 0, none⟩) n n] 30)) w') := by
    refine (F.encode _ _ [⟨3, 0, zs⟩] ⟨by simp, fun s hs => by obtain rfl := List.mem_singleton.1 hs; show zs.length ≤ _; rw [hzl.out]; exact hn2⟩ _ (F.keep _ _ hT hB2) hTk).mono ?_
    rintro e w' ⟨h, hb⟩
    exact ⟨h.imp id fun ⟨x, a, c, h1, h2, h3, h4⟩ => ⟨x, a, c, h1, h2, (txt_same h3 h4).2⟩, hb⟩
  obtain ⟨g1, Hg1⟩ : ∃ g, Hid (w1.heap.size = g) := ⟨_, rfl⟩
  rw [Hg0.out, Hg1.out]
  rw [Hg1.out] at hq hTk
  generalize w1.alloc (.cells #[.int .i64 3, .int .i64 0, .slice (some ⟨g0, 0, none⟩) n n] 30) = w2 at hq hTk hB2 ⊢
  refine Calls.mono (Hid.out hq) ?_
  rintro e w3 ⟨hS, hb3⟩
  have hTk3 := hTk.below hb3
  have hB3 := hB2.trans (hb3.mono hB2.size)
  clear hq
  have hcase : r = 0 ∨ r = 1 := by omega
  rcases hcase with rfl | rfl
  · have hyes : Hid (enc [⟨3, 0, zs⟩] = some (hd 2 n ++ zs)) := by show _ = _; rw [hen.out, if_pos (by rw [hhl.out]; have := Hn.out; omega)]
    rcases hS with ⟨hn, -⟩ | ⟨x, a3, c3, hx, rfl, hX3⟩
    · rw [hyes.out] at hn; cases hn
    rw [hyes.out] at hx
    obtain rfl := Option.some.inj hx
    obtain ⟨X, HX⟩ : ∃ X, Hid (hd 2 n ++ zs = X) := ⟨_, rfl⟩
    rw [HX.out] at hX3 ⊢
    have hXl : Hid (X.length = 32768) := by show _ = _; rw [← HX.out, hhl.out]; have := Hn.out; omega
    have hXe : ((X.length : Int) == 32768) = true := beq_iff_eq.2 (by have := hXl.out; omega)
    have hdc := show Hid _ from F.decode a3 c3 X (by have := hXl.out; omega) w3 (F.keep _ _ hT hB3) hX3
    clear hx
    go_wp2_with fail
    refine Calls.mono (Hid.out hdc) ?_
    rintro e w4 ⟨⟨hn, -⟩ | ⟨l, a4, c4, hl, rfl, hT4⟩, hb4⟩
    · rw [← HX.out, dec_iff.2 hyes.out] at hn; cases hn
    rw [← HX.out, dec_iff.2 hyes.out] at hl
    obtain rfl := Option.some.inj hl
    have hB4 := hB3.trans (hb4.mono hB3.size)
    have hTk4 := hTk3.below hb4
    clear hl hdc
    go_wp2_with fail
    refine (toks_cmp hT4 hTk4).mono ?_
    rintro e w5 ⟨rfl, hb5⟩
    rw [decide_eq_true rfl]
    have hB5 := hB4.trans (hb5.mono hB4.size)
    go_wp2_with fail
    refine (hwk.out w5 (F.keep _ _ hT hB5)).mono ?_
    rintro e w6 ⟨rfl, hb6⟩
    go_wp2_with fail
    go_ret
    exact ⟨rfl, hB5.trans (hb6.mono hB5.size)⟩
  · have hno : Hid (enc [⟨3, 0, zs⟩] = none) := by show _ = _; rw [hen.out, if_neg (by rw [hhl.out]; have := Hn.out; omega)]
    rcases hS with ⟨-, a3, c3, rfl, hX3⟩ | ⟨x, a3, c3, hx, -⟩
    rotate_left
    · rw [hno.out] at hx; cases hx
    obtain ⟨b6, o6, e6, hat⟩ := hTk3.1.at (i := 0) rfl
    simp only [Option.some.injEq, Addr.mk.injEq, and_true] at e6
    obtain ⟨rfl, rfl⟩ := e6
    rw [Nat.zero_mul, Nat.zero_add] at hat
    obtain ⟨t0, t1, _, t2, ⟨ta, tc, rfl, htz⟩, -⟩ := hat
    simp only at htz t2
    obtain ⟨L, HL⟩ : ∃ L, Hid (zs.length = L) := ⟨_, rfl⟩
    have hbz : Bys zs := htz.1.2.2.2.1
    have hB4 := hB3.alloc hB3.size (.cells #[.int .u8 89, .int .u8 127, .int .u8 254] 5)
    have hO4 : OwnBytes (w3.alloc (.cells #[.int .u8 89, .int .u8 127, .int .u8 254] 5)) w.heap.size (.slice (some ⟨w3.heap.size, 0, none⟩) 3 3) [89, 127, 254] := ⟨rfl, .inr ⟨w3.heap.size, 3, #[.int .u8 89, .int .u8 127, .int .u8 254], rfl, hB3.size, own_new _ _ _, Nat.le_refl _, by decide, rfl, rfl⟩⟩
    have htz4 := htz.below (alloc_below w3 (.cells #[.int .u8 89, .int .u8 127, .int .u8 254] 5))
    have t24 : (w3.alloc (.cells #[.int .u8 89, .int .u8 127, .int .u8 254] 5)).cell? ⟨g1, 2, none⟩ = some (.slice ta zs.length tc) := by
      rw [(alloc_below w3 (.cells #[.int .u8 89, .int .u8 127, .int .u8 254] 5)).cell (p := ⟨g1, 2, none⟩) (World.block_lt_of_cell? w3 _ t2)]; exact t2
    go_wp2_with (at_builtin; refine wpList_app (by rfl) (.tmp 27) (.tmp 31) (by rfl) w.heap.size (by rfl) hO4 (bys_of rfl) (by rfl) rfl htz4 (by rw [hzl.out]; simp; omega) hB4.size ?_; intro a5 c5 w5 hO5 hX5 hb5)
    have hB5 := hB4.trans hb5
    have hlong : Hid (dec ([89, 127, 254] ++ zs) = none) := dec_long (by rw [List.length_append, hzl.out]; have := Hn.out; simp only [List.length_cons, List.length_nil]; omega)
    have hdc : Hid (Calls Tryd.prog 14 #[.slice a5 (3 + zs.length) c5] w5 fun e w' => (∃ a' c', e = .returned (.tuple #[.slice a' 0 c', .int .i64 3])) ∧ Below w5.heap.size w5 w') := by
      have h := F.decode a5 c5 ([89, 127, 254] ++ zs) (by rw [List.length_append, hzl.out]; simp only [List.length_cons, List.length_nil]; omega) w5 (F.keep _ _ hT hB5) hX5
      rw [List.length_append] at h
      refine Calls.mono h ?_
      rintro e w' ⟨⟨-, a', c', e1, -⟩ | ⟨_, _, _, e1, -⟩, hb⟩
      · exact ⟨⟨a', c', e1⟩, hb⟩
      · rw [hlong.out] at e1; cases e1
    refine Calls.mono (Hid.out hdc) ?_
    rintro e w6 ⟨⟨a6, c6, rfl⟩, hb6⟩
    have hB6 := hB5.trans (hb6.mono hB5.size)
    clear hO5 hX5 hdc
    go_wp2_with fail
    refine (hwk.out w6 (F.keep _ _ hT hB6)).mono ?_
    rintro e w7 ⟨rfl, hb7⟩
    go_wp2_with fail
    go_ret
    exact ⟨rfl, hB6.trans (hb7.mono hB6.size)⟩
end Go.Proofs.YtaabcllghniaoabDoor
