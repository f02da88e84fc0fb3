/- The law HeadShort, over contracts. -/
import Derived.Test.YthcmcaomnndpcaaHB4
namespace Go.Proofs.Ythcmcaomnndpcaa
open Go Go.RowKit
theorem left_of (x : Int) (n : Nat) (h0 : 0 < n) (hn : n ≤ 1000000) : ∃ r : Nat, wrap64 ((IntKind.u64.wrap x).tmod (n : Int)) = (r : Int) ∧ r < n := by
  have h0' : 0 ≤ IntKind.u64.wrap x := wrap_u64_nonneg x
  rw [Int.tmod_eq_emod_of_nonneg h0']
  have h1 := Int.emod_nonneg (IntKind.u64.wrap x) (show (n : Int) ≠ 0 by omega)
  have h2 := Int.emod_lt_of_pos (IntKind.u64.wrap x) (show 0 < (n : Int) by omega)
  refine ⟨(IntKind.u64.wrap x % (n : Int)).toNat, ?_, by omega⟩
  rw [Int.toNat_of_nonneg h1]
  generalize IntKind.u64.wrap x % (n : Int) = y at *
  unfold wrap64
  omega
theorem long_none {mj M low size : Nat} (h : lsize low = size) (h1 : 24 ≤ low) (h2 : low ≤ 27) (hM : M < 256 ^ size) (hlt : hsize M < size) (h63 : M < 9223372036854775808) : hgetR (((32 * mj + low : Nat) : Int) :: be M size) 0 = (0, 0, 0, 3) := by
  have e1 : (32 * mj + low) % 32 = low := by omega
  have e2 : (32 * mj + low) / 32 = mj := by omega
  have e3 : hnum low (be M size) = M := by
    unfold hnum
    rw [if_neg (by omega), h, List.take_of_length_le (by rw [be_length]; exact Nat.le_refl _), val_be, Nat.zero_mul, Nat.zero_add, Nat.mod_eq_of_lt hM]
  have h0 := hgetR_some (m := ((32 * mj + low : Nat) : Int) :: be M size) (q := 0) (c := 32 * mj + low) (n := M) (by simp) (by simp [List.getD]) (by omega) (by rw [e1, h]; simp [be_length]) (by rw [e1]; exact e3) h63
  rw [if_neg] at h0
  · exact h0
  · rw [e1, e2]
    intro e
    have := congrArg List.length e
    rw [hd_length, h] at this
    simp [be_length] at this
    omega
theorem byte_cast (M i : Nat) : ((M / 256 ^ i % 256 : Nat) : Int) = (M : Int) / 2 ^ (8 * i) % 256 := by
  have e : (256 : Nat) ^ i = 2 ^ (8 * i) := by rw [Nat.pow_mul]
  rw [e, Int.natCast_emod, Int.natCast_ediv, Int.natCast_pow]
  rfl
theorem low_none {mj low : Nat} {l : List Int} (h1 : 27 < low) (h2 : low < 32) : hgetR (((32 * mj + low : Nat) : Int) :: l) 0 = (0, 0, 0, 3) :=
  hgetR_none (m := ((32 * mj + low : Nat) : Int) :: l) (q := 0) (c := 32 * mj + low) (by simp) (by simp [List.getD]) (.inl (by omega))
theorem big_none {mj : Nat} : hgetR (((32 * mj + 27 : Nat) : Int) :: [128, 0, 0, 0, 0, 0, 0, 0]) 0 = (0, 0, 0, 3) :=
  hgetR_big (m := ((32 * mj + 27 : Nat) : Int) :: [128, 0, 0, 0, 0, 0, 0, 0]) (q := 0) (c := 32 * mj + 27) (by simp) (by simp [List.getD]) (by
    rw [show (32 * mj + 27) % 32 = 27 by omega]
    exact Nat.le_of_eq rfl)
theorem or_head {mj : Nat} {b : Int} (hb0 : 0 ≤ b) (hb : b < 32) (hm : mj ≤ 7) : bits .or .i64 ((mj : Int) * 32) b = (mj : Int) * 32 + b :=
  bits_join .i64 63 (by decide) (fun n h0 h1 => by rw [IntKind.wrap_i64]; omega) 5 _ _ (by omega) (by omega) (by omega) (by omega) (by omega) (by omega)
theorem nine_txt {w : World} {g : Nat} {l : List Int} (hb : Bys l) (hl : l.length = 9) (h : Own w g (u8s l).toArray 5) : Txt w (some ⟨g, 0, none⟩) 9 l :=
  ⟨⟨rfl, by rw [hl]; exact Nat.le_refl _, by decide, hb, fun _ => ⟨g, 0, rfl, h.range⟩⟩, fun e => by cases e⟩
set_option maxRecDepth 100000 in
set_option maxHeartbeats 16000000 in
theorem hshort_is {T : World → Prop} (F : Hed T) (x y z : Int) (w : World) (hT : T w) : Calls Try.prog 5 #[.int .i64 x, .int .i64 y, .int .i64 z] w fun e w' => e = .returned (.bool true) ∧ Below w.heap.size w w' := by
  obtain ⟨mj, Hmj, hmj⟩ := left_of x 8 (by decide) (by decide)
  obtain ⟨k, Hk, hk⟩ := left_of y 4 (by decide) (by decide)
  obtain ⟨l, Hl, hl⟩ := left_of z 2 (by decide) (by decide)
  have hget : Hid (∀ (l : List Int) (a : Option Addr) (c n : Nat) w, hgetR l 0 = (0, 0, 0, 3) → n = l.length → l.length ≤ 100000 → T w → Txt w a c l → Calls Try.prog 13 #[.slice a n c, .int .i64 0] w fun e w' => e = .returned (.tuple #[.int .i64 0, .int .i64 0, .int .i64 0, .int .i64 3]) ∧ Below w.heap.size w w') := fun l a c n w e1 e2 hl hT hm => by
    subst e2
    have h := F.get 0 (by decide) (by decide) a c l hl w hT hm
    rw [e1] at h
    exact h
  have hwk := show Hid _ from hwakes F
  go_enter Try.func5, Try.ntmps5
  go_upto_region 2 with fail
  rw [show wrap64 ((IntKind.u64.wrap x).tmod 8) = (mj : Int) from Hmj, show wrap64 ((IntKind.u64.wrap y).tmod 4) = (k : Int) from Hk, show wrap64 ((IntKind.u64.wrap z).tmod 2) = (l : Int) from Hl]
  generalize (IntKind.u64.wrap x).tmod 8 = x8
  generalize (IntKind.u64.wrap y).tmod 4 = y4
  generalize (IntKind.u64.wrap z).tmod 2 = z2
  generalize IntKind.u64.wrap x = x0
  generalize IntKind.u64.wrap y = y0
  generalize IntKind.u64.wrap z = z0
  clear Hmj Hk Hl
  have hmj7 : mj ≤ 7 := by omega
  have hmj0 : (0 : Int) ≤ (mj : Int) := by omega
  have hmj8 : (mj : Int) ≤ 7 := by omega
  have ho24 : bits .or .i64 ((mj : Int) * 32) 24 = (mj : Int) * 32 + 24 := or_head (by decide) (by decide) hmj7
  have ho28 : bits .or .i64 ((mj : Int) * 32) 28 = (mj : Int) * 32 + 28 := or_head (by decide) (by decide) hmj7
  have ho27 : bits .or .i64 ((mj : Int) * 32) 27 = (mj : Int) * 32 + 27 := or_head (by decide) (by decide) hmj7
  obtain ⟨ki, Hki⟩ : ∃ ki : Int, (k : Int) = ki := ⟨_, rfl⟩
  obtain ⟨li, Hli⟩ : ∃ li : Int, (l : Int) = li := ⟨_, rfl⟩
  rw [Hki, Hli]
  have hk4 : ki = 0 ∨ ki = 1 ∨ ki = 2 ∨ ki = 3 := by omega
  have hl2 : li = 0 ∨ li = 1 := by omega
  clear hk hl Hki Hli
  rcases hk4 with rfl | rfl | rfl | rfl
  · rcases hl2 with rfl | rfl
    · have hlen : Hid (([] ++ hd mj 24).length = 2) := by show _ = _; rw [List.nil_append, hd_length]; rfl
      go_wp2_with fail
      refine (F.put mj 24 hmj7 (by decide) none 0 [] (by decide) _ (F.keep _ _ hT (alloc_below w _)) (txt_nil _)).mono ?_
      rintro e w1 ⟨v, rfl, hO, hb1⟩
      obtain ⟨a1, c1, rfl, hV⟩ := hO.form (hd_bytes hmj7)
      rw [hlen.out]
      have hB1 := bel (alloc_below w _) hb1
      clear hO hV hb1
      go_upto_region 13 with fail
      have hBa := hB1
      have hO := (own_one (w := w1) (x := (mj : Int) * 32 + 24) hBa.size).below (alloc_below _ (.cells #[.int .i64 24, .int .i64 256, .int .i64 65536, .int .i64 4294967296] 3))
      have hB2 := hBa.alloc hBa.size (.cells #[.int .u8 ((mj : Int) * 32 + 24)] 5)
      have hB3 := hB2.alloc hB2.size (.cells #[.int .i64 24, .int .i64 256, .int .i64 65536, .int .i64 4294967296] 3)
      clear hB2
      generalize (w1.alloc (.cells #[.int .u8 ((mj : Int) * 32 + 24)] 5)).alloc (.cells #[.int .i64 24, .int .i64 256, .int .i64 65536, .int .i64 4294967296] 3) = W3 at *
      generalize w1.heap.size = g at *
      clear hBa
      have Hf : Hid ((((mj : Int) * 32 + 24 : Int)) = ((32 * mj + 24 : Nat) : Int)) := by show _ = _; omega
      obtain ⟨f0, Hf0⟩ : ∃ f0, Hid ((mj : Int) * 32 + 24 = f0) := ⟨_, rfl⟩
      rw [Hf0.out] at hO Hf
      have hfb : Hid (0 ≤ f0 ∧ f0 < 256) := by show _ ∧ _; rw [← Hf0.out]; omega
      go_loopw [12, 14] (fun v i wr => ∃ (j : Nat) (a : Option Addr) (c : Nat), j ≤ 1 ∧ i = .int .i64 ((0 : Int) - j) ∧ v = .slice a (1 + j) c ∧ OwnBytes wr w.heap.size (.slice a (1 + j) c) (f0 :: (be 23 1).take j) ∧ Below w.heap.size w wr) (fun _ i _ => (intOf i + 1).toNat)
      case atStart => exact ⟨0, _, _, Nat.zero_le _, rfl, rfl, hO, hB3⟩
      case round =>
        clear hO hB3
        obtain ⟨j, a, c, hj, rfl, rfl, hO, hb⟩ := hrel
        have hlj : (f0 :: (be 23 1).take j).length = 1 + j := by rw [List.length_cons, List.length_take, be_length, Nat.min_eq_left hj, Nat.add_comm]
        have bO : Bys (f0 :: (be 23 1).take j) := fun x hx => (List.mem_cons.1 hx).elim (fun e => by rw [e]; exact hfb.out) (fun h => be_bys _ _ x (List.mem_of_mem_take h))
        by_cases hlt : j < 1
        · obtain ⟨i, Hi, hi8⟩ : ∃ i : Nat, Hid (1 = i + 1 + j) ∧ i ≤ 0 := ⟨0 - j, show 1 = 0 - j + 1 + j by omega, by omega⟩
          have ei : (0 : Int) - (j : Int) = (i : Int) := by have := Hi.out; omega
          rw [ei]
          have EI := show Hid _ from ei
          clear ei
          have hi0 : (0 : Int) ≤ (i : Int) := by omega
          have hi7 : (i : Int) ≤ 0 := by omega
          have HT : Hid ((be 23 1).take (j + 1) = (be 23 1).take j ++ [(23 : Int) / 2 ^ (8 * i) % 256]) := by
            show _ = _
            rw [be_take 23 1 j hlt, show 1 - 1 - j = i by have := Hi.out; omega, byte_cast]
            rfl
          have HX : Hid (0 ≤ (23 : Int) / 2 ^ (8 * i) % 256 ∧ (23 : Int) / 2 ^ (8 * i) % 256 < 256) := by show _ ∧ _; generalize (23 : Int) / 2 ^ (8 * i) = y; omega
          go_wp2_with (at_builtin; refine wpList_append_bytes (by rfl) (.tmp 88) (.tmp 95) (by rfl) w.heap.size _ _ (by rfl) (hO.below (alloc_below _ _)) bO _ 1 1 [(23 : Int) / 2 ^ (8 * i) % 256] (by rfl) (bytesV_one _ _ HX.out) (fun h => by cases h) (by rw [hlj]; simp; omega) (by have := hb.size; simp; omega) ?_; intro a3 c3 w3 hO3 hg3 hV3)
          go_roundw
          case rel =>
            have hb3 : Below w.heap.size w w3 := by
              have h2 := hb.alloc hb.size (.cells #[.int .u8 ((23 : Int) / 2 ^ (8 * i) % 256)] 5)
              exact h2.grown hg3 h2.size (fun g e => hO.base_le e)
            rw [hlj] at hO3
            refine ⟨j + 1, a3, c3, hlt, by have := Hi.out; congr 1; omega, rfl, ?_, hb3⟩
            rw [HT.out, ← List.cons_append]
            exact hO3
          case measure => simp [intOf]
        · obtain rfl : j = 1 := by omega
          have hneg : ¬ (0 : Int) ≤ (0 : Int) - ((1 : Nat) : Int) := by omega
          rw [List.take_of_length_le (by rw [be_length]; exact Nat.le_refl _)] at hO bO
          obtain ⟨hln, hmL⟩ := txt_same hO bO
          replace hln := show Hid _ from hln
          have hg1 : Hid (hgetR (f0 :: be 23 1) 0 = (0, 0, 0, 3)) := by
            show _ = _
            rw [Hf.out]
            exact long_none rfl (by decide) (by decide) (by decide) (by decide) (by decide)
          clear hlj hO
          go_wp2_with fail
          refine Calls.mono (hget.out (f0 :: be 23 1) a c _ wr hg1.out (by rw [← hln.out]) (by rw [← hln.out]; decide) (F.keep _ _ hT hb) hmL) ?_
          rintro e w4 ⟨rfl, hb4⟩
          have hB4 := bel hb hb4
          clear hmL bO
          go_wp2_with fail
          have e28 : (mj : Int) * 32 + 28 = ((32 * mj + 28 : Nat) : Int) := by omega
          have hx2 := own_new w4 (u8s [(mj : Int) * 32 + 28, 0, 0, 0, 0, 0, 0, 0, 0]).toArray 5
          have hb2 : Bys [(mj : Int) * 32 + 28, 0, 0, 0, 0, 0, 0, 0, 0] := fun y hy => by
            simp only [List.mem_cons, List.not_mem_nil, or_false] at hy
            omega
          have hBn := bel hB4 (alloc_below w4 (.cells (u8s [(mj : Int) * 32 + 28, 0, 0, 0, 0, 0, 0, 0, 0]).toArray 5))
          refine Calls.mono (hget.out [(mj : Int) * 32 + 28, 0, 0, 0, 0, 0, 0, 0, 0] _ _ 9 _ (by rw [e28]; exact low_none (by decide) (by decide)) rfl (by simp) (F.keep _ _ hT hBn) (nine_txt hb2 rfl hx2)) ?_
          rintro e w5 ⟨rfl, hb5⟩
          have hB5 := bel hBn hb5
          clear hx2 hb2 hBn hb5 hB4 e28
          go_wp2_with fail
          have e27 : (mj : Int) * 32 + 27 = ((32 * mj + 27 : Nat) : Int) := by omega
          have hx2 := own_new w5 (u8s [(mj : Int) * 32 + 27, 128, 0, 0, 0, 0, 0, 0, 0]).toArray 5
          have hb2 : Bys [(mj : Int) * 32 + 27, 128, 0, 0, 0, 0, 0, 0, 0] := fun y hy => by
            simp only [List.mem_cons, List.not_mem_nil, or_false] at hy
            omega
          have hBn := bel hB5 (alloc_below w5 (.cells (u8s [(mj : Int) * 32 + 27, 128, 0, 0, 0, 0, 0, 0, 0]).toArray 5))
          refine Calls.mono (hget.out [(mj : Int) * 32 + 27, 128, 0, 0, 0, 0, 0, 0, 0] _ _ 9 _ (by rw [e27]; exact big_none) rfl (by simp) (F.keep _ _ hT hBn) (nine_txt hb2 rfl hx2)) ?_
          rintro e w6 ⟨rfl, hb6⟩
          have hB6 := bel hBn hb6
          clear hx2 hb2 hBn hb6 e27
          go_wp2_with fail
          refine Calls.mono (hwk.out w6 (F.keep _ _ hT hB6)) ?_
          rintro e w7 ⟨rfl, hb7⟩
          go_wp2_with fail
          go_ret
          exact ⟨rfl, bel hB6 hb7⟩
    · have hlen : Hid (([] ++ hd mj 23).length = 1) := by show _ = _; rw [List.nil_append, hd_length]; rfl
      go_wp2_with fail
      refine (F.put mj 23 hmj7 (by decide) none 0 [] (by decide) _ (F.keep _ _ hT (alloc_below w _)) (txt_nil _)).mono ?_
      rintro e w1 ⟨v, rfl, hO, hb1⟩
      obtain ⟨a1, c1, rfl, hV⟩ := hO.form (hd_bytes hmj7)
      rw [hlen.out]
      have hB1 := bel (alloc_below w _) hb1
      clear hO hV hb1
      go_upto_region 13 with fail
      have hBa := hB1.alloc hB1.size (.cells #[.int .i64 1, .int .i64 2, .int .i64 3, .int .i64 5] 3)
      have hO := (own_one (w := (w1.alloc (.cells #[.int .i64 1, .int .i64 2, .int .i64 3, .int .i64 5] 3))) (x := (mj : Int) * 32 + 24) hBa.size).below (alloc_below _ (.cells #[.int .i64 24, .int .i64 256, .int .i64 65536, .int .i64 4294967296] 3))
      have hB2 := hBa.alloc hBa.size (.cells #[.int .u8 ((mj : Int) * 32 + 24)] 5)
      have hB3 := hB2.alloc hB2.size (.cells #[.int .i64 24, .int .i64 256, .int .i64 65536, .int .i64 4294967296] 3)
      rw [World.size_alloc] at hO
      generalize ((w1.alloc (.cells #[.int .i64 1, .int .i64 2, .int .i64 3, .int .i64 5] 3)).alloc (.cells #[.int .u8 ((mj : Int) * 32 + 24)] 5)).alloc (.cells #[.int .i64 24, .int .i64 256, .int .i64 65536, .int .i64 4294967296] 3) = W3 at *
      generalize w1.heap.size + 1 = g at *
      clear hB2 hBa
      have Hf : Hid ((((mj : Int) * 32 + 24 : Int)) = ((32 * mj + 24 : Nat) : Int)) := by show _ = _; omega
      obtain ⟨f0, Hf0⟩ : ∃ f0, Hid ((mj : Int) * 32 + 24 = f0) := ⟨_, rfl⟩
      rw [Hf0.out] at hO Hf
      have hfb : Hid (0 ≤ f0 ∧ f0 < 256) := by show _ ∧ _; rw [← Hf0.out]; omega
      go_loopw [12, 14] (fun v i wr => ∃ (j : Nat) (a : Option Addr) (c : Nat), j ≤ 1 ∧ i = .int .i64 ((0 : Int) - j) ∧ v = .slice a (1 + j) c ∧ OwnBytes wr w.heap.size (.slice a (1 + j) c) (f0 :: (be 23 1).take j) ∧ Below w.heap.size w wr) (fun _ i _ => (intOf i + 1).toNat)
      case atStart => exact ⟨0, _, _, Nat.zero_le _, rfl, rfl, hO, hB3⟩
      case round =>
        clear hO hB3
        obtain ⟨j, a, c, hj, rfl, rfl, hO, hb⟩ := hrel
        have hlj : (f0 :: (be 23 1).take j).length = 1 + j := by rw [List.length_cons, List.length_take, be_length, Nat.min_eq_left hj, Nat.add_comm]
        have bO : Bys (f0 :: (be 23 1).take j) := fun x hx => (List.mem_cons.1 hx).elim (fun e => by rw [e]; exact hfb.out) (fun h => be_bys _ _ x (List.mem_of_mem_take h))
        by_cases hlt : j < 1
        · obtain ⟨i, Hi, hi8⟩ : ∃ i : Nat, Hid (1 = i + 1 + j) ∧ i ≤ 0 := ⟨0 - j, show 1 = 0 - j + 1 + j by omega, by omega⟩
          have ei : (0 : Int) - (j : Int) = (i : Int) := by have := Hi.out; omega
          rw [ei]
          have EI := show Hid _ from ei
          clear ei
          have hi0 : (0 : Int) ≤ (i : Int) := by omega
          have hi7 : (i : Int) ≤ 0 := by omega
          have HT : Hid ((be 23 1).take (j + 1) = (be 23 1).take j ++ [(23 : Int) / 2 ^ (8 * i) % 256]) := by
            show _ = _
            rw [be_take 23 1 j hlt, show 1 - 1 - j = i by have := Hi.out; omega, byte_cast]
            rfl
          have HX : Hid (0 ≤ (23 : Int) / 2 ^ (8 * i) % 256 ∧ (23 : Int) / 2 ^ (8 * i) % 256 < 256) := by show _ ∧ _; generalize (23 : Int) / 2 ^ (8 * i) = y; omega
          go_wp2_with (at_builtin; refine wpList_append_bytes (by rfl) (.tmp 88) (.tmp 95) (by rfl) w.heap.size _ _ (by rfl) (hO.below (alloc_below _ _)) bO _ 1 1 [(23 : Int) / 2 ^ (8 * i) % 256] (by rfl) (bytesV_one _ _ HX.out) (fun h => by cases h) (by rw [hlj]; simp; omega) (by have := hb.size; simp; omega) ?_; intro a3 c3 w3 hO3 hg3 hV3)
          go_roundw
          case rel =>
            have hb3 : Below w.heap.size w w3 := by
              have h2 := hb.alloc hb.size (.cells #[.int .u8 ((23 : Int) / 2 ^ (8 * i) % 256)] 5)
              exact h2.grown hg3 h2.size (fun g e => hO.base_le e)
            rw [hlj] at hO3
            refine ⟨j + 1, a3, c3, hlt, by have := Hi.out; congr 1; omega, rfl, ?_, hb3⟩
            rw [HT.out, ← List.cons_append]
            exact hO3
          case measure => simp [intOf]
        · obtain rfl : j = 1 := by omega
          have hneg : ¬ (0 : Int) ≤ (0 : Int) - ((1 : Nat) : Int) := by omega
          rw [List.take_of_length_le (by rw [be_length]; exact Nat.le_refl _)] at hO bO
          obtain ⟨hln, hmL⟩ := txt_same hO bO
          replace hln := show Hid _ from hln
          have hg1 : Hid (hgetR (f0 :: be 23 1) 0 = (0, 0, 0, 3)) := by
            show _ = _
            rw [Hf.out]
            exact long_none rfl (by decide) (by decide) (by decide) (by decide) (by decide)
          clear hlj hO
          go_wp2_with fail
          refine Calls.mono (hget.out (f0 :: be 23 1) a c _ wr hg1.out (by rw [← hln.out]) (by rw [← hln.out]; decide) (F.keep _ _ hT hb) hmL) ?_
          rintro e w4 ⟨rfl, hb4⟩
          have hB4 := bel hb hb4
          clear hmL bO
          go_wp2_with fail
          have e28 : (mj : Int) * 32 + 28 = ((32 * mj + 28 : Nat) : Int) := by omega
          have hx2 := own_new w4 (u8s [(mj : Int) * 32 + 28, 0, 0, 0, 0, 0, 0, 0, 0]).toArray 5
          have hb2 : Bys [(mj : Int) * 32 + 28, 0, 0, 0, 0, 0, 0, 0, 0] := fun y hy => by
            simp only [List.mem_cons, List.not_mem_nil, or_false] at hy
            omega
          have hBn := bel hB4 (alloc_below w4 (.cells (u8s [(mj : Int) * 32 + 28, 0, 0, 0, 0, 0, 0, 0, 0]).toArray 5))
          refine Calls.mono (hget.out [(mj : Int) * 32 + 28, 0, 0, 0, 0, 0, 0, 0, 0] _ _ 9 _ (by rw [e28]; exact low_none (by decide) (by decide)) rfl (by simp) (F.keep _ _ hT hBn) (nine_txt hb2 rfl hx2)) ?_
          rintro e w5 ⟨rfl, hb5⟩
          have hB5 := bel hBn hb5
          clear hx2 hb2 hBn hb5 hB4 e28
          go_wp2_with fail
          have e27 : (mj : Int) * 32 + 27 = ((32 * mj + 27 : Nat) : Int) := by omega
          have hx2 := own_new w5 (u8s [(mj : Int) * 32 + 27, 128, 0, 0, 0, 0, 0, 0, 0]).toArray 5
          have hb2 : Bys [(mj : Int) * 32 + 27, 128, 0, 0, 0, 0, 0, 0, 0] := fun y hy => by
            simp only [List.mem_cons, List.not_mem_nil, or_false] at hy
            omega
          have hBn := bel hB5 (alloc_below w5 (.cells (u8s [(mj : Int) * 32 + 27, 128, 0, 0, 0, 0, 0, 0, 0]).toArray 5))
          refine Calls.mono (hget.out [(mj : Int) * 32 + 27, 128, 0, 0, 0, 0, 0, 0, 0] _ _ 9 _ (by rw [e27]; exact big_none) rfl (by simp) (F.keep _ _ hT hBn) (nine_txt hb2 rfl hx2)) ?_
          rintro e w6 ⟨rfl, hb6⟩
          have hB6 := bel hBn hb6
          clear hx2 hb2 hBn hb6 e27
          go_wp2_with fail
          refine Calls.mono (hwk.out w6 (F.keep _ _ hT hB6)) ?_
          rintro e w7 ⟨rfl, hb7⟩
          go_wp2_with fail
          go_ret
          exact ⟨rfl, bel hB6 hb7⟩
  · rcases hl2 with rfl | rfl
    · have hlen : Hid (([] ++ hd mj 256).length = 3) := by show _ = _; rw [List.nil_append, hd_length]; rfl
      go_wp2_with fail
      refine (F.put mj 256 hmj7 (by decide) none 0 [] (by decide) _ (F.keep _ _ hT (alloc_below w _)) (txt_nil _)).mono ?_
      rintro e w1 ⟨v, rfl, hO, hb1⟩
      obtain ⟨a1, c1, rfl, hV⟩ := hO.form (hd_bytes hmj7)
      rw [hlen.out]
      have hB1 := bel (alloc_below w _) hb1
      clear hO hV hb1
      go_upto_region 13 with fail
      have hBa := hB1
      have hO := (own_one (w := w1) (x := (mj : Int) * 32 + 24 + 1) hBa.size).below (alloc_below _ (.cells #[.int .i64 24, .int .i64 256, .int .i64 65536, .int .i64 4294967296] 3))
      have hB2 := hBa.alloc hBa.size (.cells #[.int .u8 ((mj : Int) * 32 + 24 + 1)] 5)
      have hB3 := hB2.alloc hB2.size (.cells #[.int .i64 24, .int .i64 256, .int .i64 65536, .int .i64 4294967296] 3)
      clear hB2
      generalize (w1.alloc (.cells #[.int .u8 ((mj : Int) * 32 + 24 + 1)] 5)).alloc (.cells #[.int .i64 24, .int .i64 256, .int .i64 65536, .int .i64 4294967296] 3) = W3 at *
      generalize w1.heap.size = g at *
      clear hBa
      have Hf : Hid ((((mj : Int) * 32 + 24 + 1 : Int)) = ((32 * mj + 25 : Nat) : Int)) := by show _ = _; omega
      obtain ⟨f0, Hf0⟩ : ∃ f0, Hid ((mj : Int) * 32 + 24 + 1 = f0) := ⟨_, rfl⟩
      rw [Hf0.out] at hO Hf
      have hfb : Hid (0 ≤ f0 ∧ f0 < 256) := by show _ ∧ _; rw [← Hf0.out]; omega
      go_loopw [12, 14] (fun v i wr => ∃ (j : Nat) (a : Option Addr) (c : Nat), j ≤ 2 ∧ i = .int .i64 ((1 : Int) - j) ∧ v = .slice a (1 + j) c ∧ OwnBytes wr w.heap.size (.slice a (1 + j) c) (f0 :: (be 255 2).take j) ∧ Below w.heap.size w wr) (fun _ i _ => (intOf i + 1).toNat)
      case atStart => exact ⟨0, _, _, Nat.zero_le _, rfl, rfl, hO, hB3⟩
      case round =>
        clear hO hB3
        obtain ⟨j, a, c, hj, rfl, rfl, hO, hb⟩ := hrel
        have hlj : (f0 :: (be 255 2).take j).length = 1 + j := by rw [List.length_cons, List.length_take, be_length, Nat.min_eq_left hj, Nat.add_comm]
        have bO : Bys (f0 :: (be 255 2).take j) := fun x hx => (List.mem_cons.1 hx).elim (fun e => by rw [e]; exact hfb.out) (fun h => be_bys _ _ x (List.mem_of_mem_take h))
        by_cases hlt : j < 2
        · obtain ⟨i, Hi, hi8⟩ : ∃ i : Nat, Hid (2 = i + 1 + j) ∧ i ≤ 1 := ⟨1 - j, show 2 = 1 - j + 1 + j by omega, by omega⟩
          have ei : (1 : Int) - (j : Int) = (i : Int) := by have := Hi.out; omega
          rw [ei]
          have EI := show Hid _ from ei
          clear ei
          have hi0 : (0 : Int) ≤ (i : Int) := by omega
          have hi7 : (i : Int) ≤ 1 := by omega
          have HT : Hid ((be 255 2).take (j + 1) = (be 255 2).take j ++ [(255 : Int) / 2 ^ (8 * i) % 256]) := by
            show _ = _
            rw [be_take 255 2 j hlt, show 2 - 1 - j = i by have := Hi.out; omega, byte_cast]
            rfl
          have HX : Hid (0 ≤ (255 : Int) / 2 ^ (8 * i) % 256 ∧ (255 : Int) / 2 ^ (8 * i) % 256 < 256) := by show _ ∧ _; generalize (255 : Int) / 2 ^ (8 * i) = y; omega
          go_wp2_with (at_builtin; refine wpList_append_bytes (by rfl) (.tmp 88) (.tmp 95) (by rfl) w.heap.size _ _ (by rfl) (hO.below (alloc_below _ _)) bO _ 1 1 [(255 : Int) / 2 ^ (8 * i) % 256] (by rfl) (bytesV_one _ _ HX.out) (fun h => by cases h) (by rw [hlj]; simp; omega) (by have := hb.size; simp; omega) ?_; intro a3 c3 w3 hO3 hg3 hV3)
          go_roundw
          case rel =>
            have hb3 : Below w.heap.size w w3 := by
              have h2 := hb.alloc hb.size (.cells #[.int .u8 ((255 : Int) / 2 ^ (8 * i) % 256)] 5)
              exact h2.grown hg3 h2.size (fun g e => hO.base_le e)
            rw [hlj] at hO3
            refine ⟨j + 1, a3, c3, hlt, by have := Hi.out; congr 1; omega, rfl, ?_, hb3⟩
            rw [HT.out, ← List.cons_append]
            exact hO3
          case measure => simp [intOf]
        · obtain rfl : j = 2 := by omega
          have hneg : ¬ (0 : Int) ≤ (1 : Int) - ((2 : Nat) : Int) := by omega
          rw [List.take_of_length_le (by rw [be_length]; exact Nat.le_refl _)] at hO bO
          obtain ⟨hln, hmL⟩ := txt_same hO bO
          replace hln := show Hid _ from hln
          have hg1 : Hid (hgetR (f0 :: be 255 2) 0 = (0, 0, 0, 3)) := by
            show _ = _
            rw [Hf.out]
            exact long_none rfl (by decide) (by decide) (by decide) (by decide) (by decide)
          clear hlj hO
          go_wp2_with fail
          refine Calls.mono (hget.out (f0 :: be 255 2) a c _ wr hg1.out (by rw [← hln.out]) (by rw [← hln.out]; decide) (F.keep _ _ hT hb) hmL) ?_
          rintro e w4 ⟨rfl, hb4⟩
          have hB4 := bel hb hb4
          clear hmL bO
          go_wp2_with fail
          have e28 : (mj : Int) * 32 + 28 + 1 = ((32 * mj + 29 : Nat) : Int) := by omega
          have hx2 := own_new w4 (u8s [(mj : Int) * 32 + 28 + 1, 0, 0, 0, 0, 0, 0, 0, 0]).toArray 5
          have hb2 : Bys [(mj : Int) * 32 + 28 + 1, 0, 0, 0, 0, 0, 0, 0, 0] := fun y hy => by
            simp only [List.mem_cons, List.not_mem_nil, or_false] at hy
            omega
          have hBn := bel hB4 (alloc_below w4 (.cells (u8s [(mj : Int) * 32 + 28 + 1, 0, 0, 0, 0, 0, 0, 0, 0]).toArray 5))
          refine Calls.mono (hget.out [(mj : Int) * 32 + 28 + 1, 0, 0, 0, 0, 0, 0, 0, 0] _ _ 9 _ (by rw [e28]; exact low_none (by decide) (by decide)) rfl (by simp) (F.keep _ _ hT hBn) (nine_txt hb2 rfl hx2)) ?_
          rintro e w5 ⟨rfl, hb5⟩
          have hB5 := bel hBn hb5
          clear hx2 hb2 hBn hb5 hB4 e28
          go_wp2_with fail
          have e27 : (mj : Int) * 32 + 27 = ((32 * mj + 27 : Nat) : Int) := by omega
          have hx2 := own_new w5 (u8s [(mj : Int) * 32 + 27, 128, 0, 0, 0, 0, 0, 0, 0]).toArray 5
          have hb2 : Bys [(mj : Int) * 32 + 27, 128, 0, 0, 0, 0, 0, 0, 0] := fun y hy => by
            simp only [List.mem_cons, List.not_mem_nil, or_false] at hy
            omega
          have hBn := bel hB5 (alloc_below w5 (.cells (u8s [(mj : Int) * 32 + 27, 128, 0, 0, 0, 0, 0, 0, 0]).toArray 5))
          refine Calls.mono (hget.out [(mj : Int) * 32 + 27, 128, 0, 0, 0, 0, 0, 0, 0] _ _ 9 _ (by rw [e27]; exact big_none) rfl (by simp) (F.keep _ _ hT hBn) (nine_txt hb2 rfl hx2)) ?_
          rintro e w6 ⟨rfl, hb6⟩
          have hB6 := bel hBn hb6
          clear hx2 hb2 hBn hb6 e27
          go_wp2_with fail
          refine Calls.mono (hwk.out w6 (F.keep _ _ hT hB6)) ?_
          rintro e w7 ⟨rfl, hb7⟩
          go_wp2_with fail
          go_ret
          exact ⟨rfl, bel hB6 hb7⟩
    · have hlen : Hid (([] ++ hd mj 255).length = 2) := by show _ = _; rw [List.nil_append, hd_length]; rfl
      go_wp2_with fail
      refine (F.put mj 255 hmj7 (by decide) none 0 [] (by decide) _ (F.keep _ _ hT (alloc_below w _)) (txt_nil _)).mono ?_
      rintro e w1 ⟨v, rfl, hO, hb1⟩
      obtain ⟨a1, c1, rfl, hV⟩ := hO.form (hd_bytes hmj7)
      rw [hlen.out]
      have hB1 := bel (alloc_below w _) hb1
      clear hO hV hb1
      go_upto_region 13 with fail
      have hBa := hB1.alloc hB1.size (.cells #[.int .i64 1, .int .i64 2, .int .i64 3, .int .i64 5] 3)
      have hO := (own_one (w := (w1.alloc (.cells #[.int .i64 1, .int .i64 2, .int .i64 3, .int .i64 5] 3))) (x := (mj : Int) * 32 + 24 + 1) hBa.size).below (alloc_below _ (.cells #[.int .i64 24, .int .i64 256, .int .i64 65536, .int .i64 4294967296] 3))
      have hB2 := hBa.alloc hBa.size (.cells #[.int .u8 ((mj : Int) * 32 + 24 + 1)] 5)
      have hB3 := hB2.alloc hB2.size (.cells #[.int .i64 24, .int .i64 256, .int .i64 65536, .int .i64 4294967296] 3)
      rw [World.size_alloc] at hO
      generalize ((w1.alloc (.cells #[.int .i64 1, .int .i64 2, .int .i64 3, .int .i64 5] 3)).alloc (.cells #[.int .u8 ((mj : Int) * 32 + 24 + 1)] 5)).alloc (.cells #[.int .i64 24, .int .i64 256, .int .i64 65536, .int .i64 4294967296] 3) = W3 at *
      generalize w1.heap.size + 1 = g at *
      clear hB2 hBa
      have Hf : Hid ((((mj : Int) * 32 + 24 + 1 : Int)) = ((32 * mj + 25 : Nat) : Int)) := by show _ = _; omega
      obtain ⟨f0, Hf0⟩ : ∃ f0, Hid ((mj : Int) * 32 + 24 + 1 = f0) := ⟨_, rfl⟩
      rw [Hf0.out] at hO Hf
      have hfb : Hid (0 ≤ f0 ∧ f0 < 256) := by show _ ∧ _; rw [← Hf0.out]; omega
      go_loopw [12, 14] (fun v i wr => ∃ (j : Nat) (a : Option Addr) (c : Nat), j ≤ 2 ∧ i = .int .i64 ((1 : Int) - j) ∧ v = .slice a (1 + j) c ∧ OwnBytes wr w.heap.size (.slice a (1 + j) c) (f0 :: (be 255 2).take j) ∧ Below w.heap.size w wr) (fun _ i _ => (intOf i + 1).toNat)
      case atStart => exact ⟨0, _, _, Nat.zero_le _, rfl, rfl, hO, hB3⟩
      case round =>
        clear hO hB3
        obtain ⟨j, a, c, hj, rfl, rfl, hO, hb⟩ := hrel
        have hlj : (f0 :: (be 255 2).take j).length = 1 + j := by rw [List.length_cons, List.length_take, be_length, Nat.min_eq_left hj, Nat.add_comm]
        have bO : Bys (f0 :: (be 255 2).take j) := fun x hx => (List.mem_cons.1 hx).elim (fun e => by rw [e]; exact hfb.out) (fun h => be_bys _ _ x (List.mem_of_mem_take h))
        by_cases hlt : j < 2
        · obtain ⟨i, Hi, hi8⟩ : ∃ i : Nat, Hid (2 = i + 1 + j) ∧ i ≤ 1 := ⟨1 - j, show 2 = 1 - j + 1 + j by omega, by omega⟩
          have ei : (1 : Int) - (j : Int) = (i : Int) := by have := Hi.out; omega
          rw [ei]
          have EI := show Hid _ from ei
          clear ei
          have hi0 : (0 : Int) ≤ (i : Int) := by omega
          have hi7 : (i : Int) ≤ 1 := by omega
          have HT : Hid ((be 255 2).take (j + 1) = (be 255 2).take j ++ [(255 : Int) / 2 ^ (8 * i) % 256]) := by
            show _ = _
            rw [be_take 255 2 j hlt, show 2 - 1 - j = i by have := Hi.out; omega, byte_cast]
            rfl
          have HX : Hid (0 ≤ (255 : Int) / 2 ^ (8 * i) % 256 ∧ (255 : Int) / 2 ^ (8 * i) % 256 < 256) := by show _ ∧ _; generalize (255 : Int) / 2 ^ (8 * i) = y; omega
          go_wp2_with (at_builtin; refine wpList_append_bytes (by rfl) (.tmp 88) (.tmp 95) (by rfl) w.heap.size _ _ (by rfl) (hO.below (alloc_below _ _)) bO _ 1 1 [(255 : Int) / 2 ^ (8 * i) % 256] (by rfl) (bytesV_one _ _ HX.out) (fun h => by cases h) (by rw [hlj]; simp; omega) (by have := hb.size; simp; omega) ?_; intro a3 c3 w3 hO3 hg3 hV3)
          go_roundw
          case rel =>
            have hb3 : Below w.heap.size w w3 := by
              have h2 := hb.alloc hb.size (.cells #[.int .u8 ((255 : Int) / 2 ^ (8 * i) % 256)] 5)
              exact h2.grown hg3 h2.size (fun g e => hO.base_le e)
            rw [hlj] at hO3
            refine ⟨j + 1, a3, c3, hlt, by have := Hi.out; congr 1; omega, rfl, ?_, hb3⟩
            rw [HT.out, ← List.cons_append]
            exact hO3
          case measure => simp [intOf]
        · obtain rfl : j = 2 := by omega
          have hneg : ¬ (0 : Int) ≤ (1 : Int) - ((2 : Nat) : Int) := by omega
          rw [List.take_of_length_le (by rw [be_length]; exact Nat.le_refl _)] at hO bO
          obtain ⟨hln, hmL⟩ := txt_same hO bO
          replace hln := show Hid _ from hln
          have hg1 : Hid (hgetR (f0 :: be 255 2) 0 = (0, 0, 0, 3)) := by
            show _ = _
            rw [Hf.out]
            exact long_none rfl (by decide) (by decide) (by decide) (by decide) (by decide)
          clear hlj hO
          go_wp2_with fail
          refine Calls.mono (hget.out (f0 :: be 255 2) a c _ wr hg1.out (by rw [← hln.out]) (by rw [← hln.out]; decide) (F.keep _ _ hT hb) hmL) ?_
          rintro e w4 ⟨rfl, hb4⟩
          have hB4 := bel hb hb4
          clear hmL bO
          go_wp2_with fail
          have e28 : (mj : Int) * 32 + 28 + 1 = ((32 * mj + 29 : Nat) : Int) := by omega
          have hx2 := own_new w4 (u8s [(mj : Int) * 32 + 28 + 1, 0, 0, 0, 0, 0, 0, 0, 0]).toArray 5
          have hb2 : Bys [(mj : Int) * 32 + 28 + 1, 0, 0, 0, 0, 0, 0, 0, 0] := fun y hy => by
            simp only [List.mem_cons, List.not_mem_nil, or_false] at hy
            omega
          have hBn := bel hB4 (alloc_below w4 (.cells (u8s [(mj : Int) * 32 + 28 + 1, 0, 0, 0, 0, 0, 0, 0, 0]).toArray 5))
          refine Calls.mono (hget.out [(mj : Int) * 32 + 28 + 1, 0, 0, 0, 0, 0, 0, 0, 0] _ _ 9 _ (by rw [e28]; exact low_none (by decide) (by decide)) rfl (by simp) (F.keep _ _ hT hBn) (nine_txt hb2 rfl hx2)) ?_
          rintro e w5 ⟨rfl, hb5⟩
          have hB5 := bel hBn hb5
          clear hx2 hb2 hBn hb5 hB4 e28
          go_wp2_with fail
          have e27 : (mj : Int) * 32 + 27 = ((32 * mj + 27 : Nat) : Int) := by omega
          have hx2 := own_new w5 (u8s [(mj : Int) * 32 + 27, 128, 0, 0, 0, 0, 0, 0, 0]).toArray 5
          have hb2 : Bys [(mj : Int) * 32 + 27, 128, 0, 0, 0, 0, 0, 0, 0] := fun y hy => by
            simp only [List.mem_cons, List.not_mem_nil, or_false] at hy
            omega
          have hBn := bel hB5 (alloc_below w5 (.cells (u8s [(mj : Int) * 32 + 27, 128, 0, 0, 0, 0, 0, 0, 0]).toArray 5))
          refine Calls.mono (hget.out [(mj : Int) * 32 + 27, 128, 0, 0, 0, 0, 0, 0, 0] _ _ 9 _ (by rw [e27]; exact big_none) rfl (by simp) (F.keep _ _ hT hBn) (nine_txt hb2 rfl hx2)) ?_
          rintro e w6 ⟨rfl, hb6⟩
          have hB6 := bel hBn hb6
          clear hx2 hb2 hBn hb6 e27
          go_wp2_with fail
          refine Calls.mono (hwk.out w6 (F.keep _ _ hT hB6)) ?_
          rintro e w7 ⟨rfl, hb7⟩
          go_wp2_with fail
          go_ret
          exact ⟨rfl, bel hB6 hb7⟩
  · rcases hl2 with rfl | rfl
    · have hlen : Hid (([] ++ hd mj 65536).length = 5) := by show _ = _; rw [List.nil_append, hd_length]; rfl
      go_wp2_with fail
      refine (F.put mj 65536 hmj7 (by decide) none 0 [] (by decide) _ (F.keep _ _ hT (alloc_below w _)) (txt_nil _)).mono ?_
      rintro e w1 ⟨v, rfl, hO, hb1⟩
      obtain ⟨a1, c1, rfl, hV⟩ := hO.form (hd_bytes hmj7)
      rw [hlen.out]
      have hB1 := bel (alloc_below w _) hb1
      clear hO hV hb1
      go_upto_region 13 with fail
      have hBa := hB1
      have hO := (own_one (w := w1) (x := (mj : Int) * 32 + 24 + 2) hBa.size).below (alloc_below _ (.cells #[.int .i64 24, .int .i64 256, .int .i64 65536, .int .i64 4294967296] 3))
      have hB2 := hBa.alloc hBa.size (.cells #[.int .u8 ((mj : Int) * 32 + 24 + 2)] 5)
      have hB3 := hB2.alloc hB2.size (.cells #[.int .i64 24, .int .i64 256, .int .i64 65536, .int .i64 4294967296] 3)
      clear hB2
      generalize (w1.alloc (.cells #[.int .u8 ((mj : Int) * 32 + 24 + 2)] 5)).alloc (.cells #[.int .i64 24, .int .i64 256, .int .i64 65536, .int .i64 4294967296] 3) = W3 at *
      generalize w1.heap.size = g at *
      clear hBa
      have Hf : Hid ((((mj : Int) * 32 + 24 + 2 : Int)) = ((32 * mj + 26 : Nat) : Int)) := by show _ = _; omega
      obtain ⟨f0, Hf0⟩ : ∃ f0, Hid ((mj : Int) * 32 + 24 + 2 = f0) := ⟨_, rfl⟩
      rw [Hf0.out] at hO Hf
      have hfb : Hid (0 ≤ f0 ∧ f0 < 256) := by show _ ∧ _; rw [← Hf0.out]; omega
      go_loopw [12, 14] (fun v i wr => ∃ (j : Nat) (a : Option Addr) (c : Nat), j ≤ 4 ∧ i = .int .i64 ((3 : Int) - j) ∧ v = .slice a (1 + j) c ∧ OwnBytes wr w.heap.size (.slice a (1 + j) c) (f0 :: (be 65535 4).take j) ∧ Below w.heap.size w wr) (fun _ i _ => (intOf i + 1).toNat)
      case atStart => exact ⟨0, _, _, Nat.zero_le _, rfl, rfl, hO, hB3⟩
      case round =>
        clear hO hB3
        obtain ⟨j, a, c, hj, rfl, rfl, hO, hb⟩ := hrel
        have hlj : (f0 :: (be 65535 4).take j).length = 1 + j := by rw [List.length_cons, List.length_take, be_length, Nat.min_eq_left hj, Nat.add_comm]
        have bO : Bys (f0 :: (be 65535 4).take j) := fun x hx => (List.mem_cons.1 hx).elim (fun e => by rw [e]; exact hfb.out) (fun h => be_bys _ _ x (List.mem_of_mem_take h))
        by_cases hlt : j < 4
        · obtain ⟨i, Hi, hi8⟩ : ∃ i : Nat, Hid (4 = i + 1 + j) ∧ i ≤ 3 := ⟨3 - j, show 4 = 3 - j + 1 + j by omega, by omega⟩
          have ei : (3 : Int) - (j : Int) = (i : Int) := by have := Hi.out; omega
          rw [ei]
          have EI := show Hid _ from ei
          clear ei
          have hi0 : (0 : Int) ≤ (i : Int) := by omega
          have hi7 : (i : Int) ≤ 3 := by omega
          have HT : Hid ((be 65535 4).take (j + 1) = (be 65535 4).take j ++ [(65535 : Int) / 2 ^ (8 * i) % 256]) := by
            show _ = _
            rw [be_take 65535 4 j hlt, show 4 - 1 - j = i by have := Hi.out; omega, byte_cast]
            rfl
          have HX : Hid (0 ≤ (65535 : Int) / 2 ^ (8 * i) % 256 ∧ (65535 : Int) / 2 ^ (8 * i) % 256 < 256) := by show _ ∧ _; generalize (65535 : Int) / 2 ^ (8 * i) = y; omega
          go_wp2_with (at_builtin; refine wpList_append_bytes (by rfl) (.tmp 88) (.tmp 95) (by rfl) w.heap.size _ _ (by rfl) (hO.below (alloc_below _ _)) bO _ 1 1 [(65535 : Int) / 2 ^ (8 * i) % 256] (by rfl) (bytesV_one _ _ HX.out) (fun h => by cases h) (by rw [hlj]; simp; omega) (by have := hb.size; simp; omega) ?_; intro a3 c3 w3 hO3 hg3 hV3)
          go_roundw
          case rel =>
            have hb3 : Below w.heap.size w w3 := by
              have h2 := hb.alloc hb.size (.cells #[.int .u8 ((65535 : Int) / 2 ^ (8 * i) % 256)] 5)
              exact h2.grown hg3 h2.size (fun g e => hO.base_le e)
            rw [hlj] at hO3
            refine ⟨j + 1, a3, c3, hlt, by have := Hi.out; congr 1; omega, rfl, ?_, hb3⟩
            rw [HT.out, ← List.cons_append]
            exact hO3
          case measure => simp [intOf]
        · obtain rfl : j = 4 := by omega
          have hneg : ¬ (0 : Int) ≤ (3 : Int) - ((4 : Nat) : Int) := by omega
          rw [List.take_of_length_le (by rw [be_length]; exact Nat.le_refl _)] at hO bO
          obtain ⟨hln, hmL⟩ := txt_same hO bO
          replace hln := show Hid _ from hln
          have hg1 : Hid (hgetR (f0 :: be 65535 4) 0 = (0, 0, 0, 3)) := by
            show _ = _
            rw [Hf.out]
            exact long_none rfl (by decide) (by decide) (by decide) (by decide) (by decide)
          clear hlj hO
          go_wp2_with fail
          refine Calls.mono (hget.out (f0 :: be 65535 4) a c _ wr hg1.out (by rw [← hln.out]) (by rw [← hln.out]; decide) (F.keep _ _ hT hb) hmL) ?_
          rintro e w4 ⟨rfl, hb4⟩
          have hB4 := bel hb hb4
          clear hmL bO
          go_wp2_with fail
          have e28 : (mj : Int) * 32 + 28 + 2 = ((32 * mj + 30 : Nat) : Int) := by omega
          have hx2 := own_new w4 (u8s [(mj : Int) * 32 + 28 + 2, 0, 0, 0, 0, 0, 0, 0, 0]).toArray 5
          have hb2 : Bys [(mj : Int) * 32 + 28 + 2, 0, 0, 0, 0, 0, 0, 0, 0] := fun y hy => by
            simp only [List.mem_cons, List.not_mem_nil, or_false] at hy
            omega
          have hBn := bel hB4 (alloc_below w4 (.cells (u8s [(mj : Int) * 32 + 28 + 2, 0, 0, 0, 0, 0, 0, 0, 0]).toArray 5))
          refine Calls.mono (hget.out [(mj : Int) * 32 + 28 + 2, 0, 0, 0, 0, 0, 0, 0, 0] _ _ 9 _ (by rw [e28]; exact low_none (by decide) (by decide)) rfl (by simp) (F.keep _ _ hT hBn) (nine_txt hb2 rfl hx2)) ?_
          rintro e w5 ⟨rfl, hb5⟩
          have hB5 := bel hBn hb5
          clear hx2 hb2 hBn hb5 hB4 e28
          go_wp2_with fail
          have e27 : (mj : Int) * 32 + 27 = ((32 * mj + 27 : Nat) : Int) := by omega
          have hx2 := own_new w5 (u8s [(mj : Int) * 32 + 27, 128, 0, 0, 0, 0, 0, 0, 0]).toArray 5
          have hb2 : Bys [(mj : Int) * 32 + 27, 128, 0, 0, 0, 0, 0, 0, 0] := fun y hy => by
            simp only [List.mem_cons, List.not_mem_nil, or_false] at hy
            omega
          have hBn := bel hB5 (alloc_below w5 (.cells (u8s [(mj : Int) * 32 + 27, 128, 0, 0, 0, 0, 0, 0, 0]).toArray 5))
          refine Calls.mono (hget.out [(mj : Int) * 32 + 27, 128, 0, 0, 0, 0, 0, 0, 0] _ _ 9 _ (by rw [e27]; exact big_none) rfl (by simp) (F.keep _ _ hT hBn) (nine_txt hb2 rfl hx2)) ?_
          rintro e w6 ⟨rfl, hb6⟩
          have hB6 := bel hBn hb6
          clear hx2 hb2 hBn hb6 e27
          go_wp2_with fail
          refine Calls.mono (hwk.out w6 (F.keep _ _ hT hB6)) ?_
          rintro e w7 ⟨rfl, hb7⟩
          go_wp2_with fail
          go_ret
          exact ⟨rfl, bel hB6 hb7⟩
    · have hlen : Hid (([] ++ hd mj 65535).length = 3) := by show _ = _; rw [List.nil_append, hd_length]; rfl
      go_wp2_with fail
      refine (F.put mj 65535 hmj7 (by decide) none 0 [] (by decide) _ (F.keep _ _ hT (alloc_below w _)) (txt_nil _)).mono ?_
      rintro e w1 ⟨v, rfl, hO, hb1⟩
      obtain ⟨a1, c1, rfl, hV⟩ := hO.form (hd_bytes hmj7)
      rw [hlen.out]
      have hB1 := bel (alloc_below w _) hb1
      clear hO hV hb1
      go_upto_region 13 with fail
      have hBa := hB1.alloc hB1.size (.cells #[.int .i64 1, .int .i64 2, .int .i64 3, .int .i64 5] 3)
      have hO := (own_one (w := (w1.alloc (.cells #[.int .i64 1, .int .i64 2, .int .i64 3, .int .i64 5] 3))) (x := (mj : Int) * 32 + 24 + 2) hBa.size).below (alloc_below _ (.cells #[.int .i64 24, .int .i64 256, .int .i64 65536, .int .i64 4294967296] 3))
      have hB2 := hBa.alloc hBa.size (.cells #[.int .u8 ((mj : Int) * 32 + 24 + 2)] 5)
      have hB3 := hB2.alloc hB2.size (.cells #[.int .i64 24, .int .i64 256, .int .i64 65536, .int .i64 4294967296] 3)
      rw [World.size_alloc] at hO
      generalize ((w1.alloc (.cells #[.int .i64 1, .int .i64 2, .int .i64 3, .int .i64 5] 3)).alloc (.cells #[.int .u8 ((mj : Int) * 32 + 24 + 2)] 5)).alloc (.cells #[.int .i64 24, .int .i64 256, .int .i64 65536, .int .i64 4294967296] 3) = W3 at *
      generalize w1.heap.size + 1 = g at *
      clear hB2 hBa
      have Hf : Hid ((((mj : Int) * 32 + 24 + 2 : Int)) = ((32 * mj + 26 : Nat) : Int)) := by show _ = _; omega
      obtain ⟨f0, Hf0⟩ : ∃ f0, Hid ((mj : Int) * 32 + 24 + 2 = f0) := ⟨_, rfl⟩
      rw [Hf0.out] at hO Hf
      have hfb : Hid (0 ≤ f0 ∧ f0 < 256) := by show _ ∧ _; rw [← Hf0.out]; omega
      go_loopw [12, 14] (fun v i wr => ∃ (j : Nat) (a : Option Addr) (c : Nat), j ≤ 4 ∧ i = .int .i64 ((3 : Int) - j) ∧ v = .slice a (1 + j) c ∧ OwnBytes wr w.heap.size (.slice a (1 + j) c) (f0 :: (be 65535 4).take j) ∧ Below w.heap.size w wr) (fun _ i _ => (intOf i + 1).toNat)
      case atStart => exact ⟨0, _, _, Nat.zero_le _, rfl, rfl, hO, hB3⟩
      case round =>
        clear hO hB3
        obtain ⟨j, a, c, hj, rfl, rfl, hO, hb⟩ := hrel
        have hlj : (f0 :: (be 65535 4).take j).length = 1 + j := by rw [List.length_cons, List.length_take, be_length, Nat.min_eq_left hj, Nat.add_comm]
        have bO : Bys (f0 :: (be 65535 4).take j) := fun x hx => (List.mem_cons.1 hx).elim (fun e => by rw [e]; exact hfb.out) (fun h => be_bys _ _ x (List.mem_of_mem_take h))
        by_cases hlt : j < 4
        · obtain ⟨i, Hi, hi8⟩ : ∃ i : Nat, Hid (4 = i + 1 + j) ∧ i ≤ 3 := ⟨3 - j, show 4 = 3 - j + 1 + j by omega, by omega⟩
          have ei : (3 : Int) - (j : Int) = (i : Int) := by have := Hi.out; omega
          rw [ei]
          have EI := show Hid _ from ei
          clear ei
          have hi0 : (0 : Int) ≤ (i : Int) := by omega
          have hi7 : (i : Int) ≤ 3 := by omega
          have HT : Hid ((be 65535 4).take (j + 1) = (be 65535 4).take j ++ [(65535 : Int) / 2 ^ (8 * i) % 256]) := by
            show _ = _
            rw [be_take 65535 4 j hlt, show 4 - 1 - j = i by have := Hi.out; omega, byte_cast]
            rfl
          have HX : Hid (0 ≤ (65535 : Int) / 2 ^ (8 * i) % 256 ∧ (65535 : Int) / 2 ^ (8 * i) % 256 < 256) := by show _ ∧ _; generalize (65535 : Int) / 2 ^ (8 * i) = y; omega
          go_wp2_with (at_builtin; refine wpList_append_bytes (by rfl) (.tmp 88) (.tmp 95) (by rfl) w.heap.size _ _ (by rfl) (hO.below (alloc_below _ _)) bO _ 1 1 [(65535 : Int) / 2 ^ (8 * i) % 256] (by rfl) (bytesV_one _ _ HX.out) (fun h => by cases h) (by rw [hlj]; simp; omega) (by have := hb.size; simp; omega) ?_; intro a3 c3 w3 hO3 hg3 hV3)
          go_roundw
          case rel =>
            have hb3 : Below w.heap.size w w3 := by
              have h2 := hb.alloc hb.size (.cells #[.int .u8 ((65535 : Int) / 2 ^ (8 * i) % 256)] 5)
              exact h2.grown hg3 h2.size (fun g e => hO.base_le e)
            rw [hlj] at hO3
            refine ⟨j + 1, a3, c3, hlt, by have := Hi.out; congr 1; omega, rfl, ?_, hb3⟩
            rw [HT.out, ← List.cons_append]
            exact hO3
          case measure => simp [intOf]
        · obtain rfl : j = 4 := by omega
          have hneg : ¬ (0 : Int) ≤ (3 : Int) - ((4 : Nat) : Int) := by omega
          rw [List.take_of_length_le (by rw [be_length]; exact Nat.le_refl _)] at hO bO
          obtain ⟨hln, hmL⟩ := txt_same hO bO
          replace hln := show Hid _ from hln
          have hg1 : Hid (hgetR (f0 :: be 65535 4) 0 = (0, 0, 0, 3)) := by
            show _ = _
            rw [Hf.out]
            exact long_none rfl (by decide) (by decide) (by decide) (by decide) (by decide)
          clear hlj hO
          go_wp2_with fail
          refine Calls.mono (hget.out (f0 :: be 65535 4) a c _ wr hg1.out (by rw [← hln.out]) (by rw [← hln.out]; decide) (F.keep _ _ hT hb) hmL) ?_
          rintro e w4 ⟨rfl, hb4⟩
          have hB4 := bel hb hb4
          clear hmL bO
          go_wp2_with fail
          have e28 : (mj : Int) * 32 + 28 + 2 = ((32 * mj + 30 : Nat) : Int) := by omega
          have hx2 := own_new w4 (u8s [(mj : Int) * 32 + 28 + 2, 0, 0, 0, 0, 0, 0, 0, 0]).toArray 5
          have hb2 : Bys [(mj : Int) * 32 + 28 + 2, 0, 0, 0, 0, 0, 0, 0, 0] := fun y hy => by
            simp only [List.mem_cons, List.not_mem_nil, or_false] at hy
            omega
          have hBn := bel hB4 (alloc_below w4 (.cells (u8s [(mj : Int) * 32 + 28 + 2, 0, 0, 0, 0, 0, 0, 0, 0]).toArray 5))
          refine Calls.mono (hget.out [(mj : Int) * 32 + 28 + 2, 0, 0, 0, 0, 0, 0, 0, 0] _ _ 9 _ (by rw [e28]; exact low_none (by decide) (by decide)) rfl (by simp) (F.keep _ _ hT hBn) (nine_txt hb2 rfl hx2)) ?_
          rintro e w5 ⟨rfl, hb5⟩
          have hB5 := bel hBn hb5
          clear hx2 hb2 hBn hb5 hB4 e28
          go_wp2_with fail
          have e27 : (mj : Int) * 32 + 27 = ((32 * mj + 27 : Nat) : Int) := by omega
          have hx2 := own_new w5 (u8s [(mj : Int) * 32 + 27, 128, 0, 0, 0, 0, 0, 0, 0]).toArray 5
          have hb2 : Bys [(mj : Int) * 32 + 27, 128, 0, 0, 0, 0, 0, 0, 0] := fun y hy => by
            simp only [List.mem_cons, List.not_mem_nil, or_false] at hy
            omega
          have hBn := bel hB5 (alloc_below w5 (.cells (u8s [(mj : Int) * 32 + 27, 128, 0, 0, 0, 0, 0, 0, 0]).toArray 5))
          refine Calls.mono (hget.out [(mj : Int) * 32 + 27, 128, 0, 0, 0, 0, 0, 0, 0] _ _ 9 _ (by rw [e27]; exact big_none) rfl (by simp) (F.keep _ _ hT hBn) (nine_txt hb2 rfl hx2)) ?_
          rintro e w6 ⟨rfl, hb6⟩
          have hB6 := bel hBn hb6
          clear hx2 hb2 hBn hb6 e27
          go_wp2_with fail
          refine Calls.mono (hwk.out w6 (F.keep _ _ hT hB6)) ?_
          rintro e w7 ⟨rfl, hb7⟩
          go_wp2_with fail
          go_ret
          exact ⟨rfl, bel hB6 hb7⟩
  · rcases hl2 with rfl | rfl
    · have hlen : Hid (([] ++ hd mj 4294967296).length = 9) := by show _ = _; rw [List.nil_append, hd_length]; rfl
      go_wp2_with fail
      refine (F.put mj 4294967296 hmj7 (by decide) none 0 [] (by decide) _ (F.keep _ _ hT (alloc_below w _)) (txt_nil _)).mono ?_
      rintro e w1 ⟨v, rfl, hO, hb1⟩
      obtain ⟨a1, c1, rfl, hV⟩ := hO.form (hd_bytes hmj7)
      rw [hlen.out]
      have hB1 := bel (alloc_below w _) hb1
      clear hO hV hb1
      go_upto_region 13 with fail
      have hBa := hB1
      have hO := (own_one (w := w1) (x := (mj : Int) * 32 + 24 + 3) hBa.size).below (alloc_below _ (.cells #[.int .i64 24, .int .i64 256, .int .i64 65536, .int .i64 4294967296] 3))
      have hB2 := hBa.alloc hBa.size (.cells #[.int .u8 ((mj : Int) * 32 + 24 + 3)] 5)
      have hB3 := hB2.alloc hB2.size (.cells #[.int .i64 24, .int .i64 256, .int .i64 65536, .int .i64 4294967296] 3)
      clear hB2
      generalize (w1.alloc (.cells #[.int .u8 ((mj : Int) * 32 + 24 + 3)] 5)).alloc (.cells #[.int .i64 24, .int .i64 256, .int .i64 65536, .int .i64 4294967296] 3) = W3 at *
      generalize w1.heap.size = g at *
      clear hBa
      have Hf : Hid ((((mj : Int) * 32 + 24 + 3 : Int)) = ((32 * mj + 27 : Nat) : Int)) := by show _ = _; omega
      obtain ⟨f0, Hf0⟩ : ∃ f0, Hid ((mj : Int) * 32 + 24 + 3 = f0) := ⟨_, rfl⟩
      rw [Hf0.out] at hO Hf
      have hfb : Hid (0 ≤ f0 ∧ f0 < 256) := by show _ ∧ _; rw [← Hf0.out]; omega
      go_loopw [12, 14] (fun v i wr => ∃ (j : Nat) (a : Option Addr) (c : Nat), j ≤ 8 ∧ i = .int .i64 ((7 : Int) - j) ∧ v = .slice a (1 + j) c ∧ OwnBytes wr w.heap.size (.slice a (1 + j) c) (f0 :: (be 4294967295 8).take j) ∧ Below w.heap.size w wr) (fun _ i _ => (intOf i + 1).toNat)
      case atStart => exact ⟨0, _, _, Nat.zero_le _, rfl, rfl, hO, hB3⟩
      case round =>
        clear hO hB3
        obtain ⟨j, a, c, hj, rfl, rfl, hO, hb⟩ := hrel
        have hlj : (f0 :: (be 4294967295 8).take j).length = 1 + j := by rw [List.length_cons, List.length_take, be_length, Nat.min_eq_left hj, Nat.add_comm]
        have bO : Bys (f0 :: (be 4294967295 8).take j) := fun x hx => (List.mem_cons.1 hx).elim (fun e => by rw [e]; exact hfb.out) (fun h => be_bys _ _ x (List.mem_of_mem_take h))
        by_cases hlt : j < 8
        · obtain ⟨i, Hi, hi8⟩ : ∃ i : Nat, Hid (8 = i + 1 + j) ∧ i ≤ 7 := ⟨7 - j, show 8 = 7 - j + 1 + j by omega, by omega⟩
          have ei : (7 : Int) - (j : Int) = (i : Int) := by have := Hi.out; omega
          rw [ei]
          have EI := show Hid _ from ei
          clear ei
          have hi0 : (0 : Int) ≤ (i : Int) := by omega
          have hi7 : (i : Int) ≤ 7 := by omega
          have HT : Hid ((be 4294967295 8).take (j + 1) = (be 4294967295 8).take j ++ [(4294967295 : Int) / 2 ^ (8 * i) % 256]) := by
            show _ = _
            rw [be_take 4294967295 8 j hlt, show 8 - 1 - j = i by have := Hi.out; omega, byte_cast]
            rfl
          have HX : Hid (0 ≤ (4294967295 : Int) / 2 ^ (8 * i) % 256 ∧ (4294967295 : Int) / 2 ^ (8 * i) % 256 < 256) := by show _ ∧ _; generalize (4294967295 : Int) / 2 ^ (8 * i) = y; omega
          go_wp2_with (at_builtin; refine wpList_append_bytes (by rfl) (.tmp 88) (.tmp 95) (by rfl) w.heap.size _ _ (by rfl) (hO.below (alloc_below _ _)) bO _ 1 1 [(4294967295 : Int) / 2 ^ (8 * i) % 256] (by rfl) (bytesV_one _ _ HX.out) (fun h => by cases h) (by rw [hlj]; simp; omega) (by have := hb.size; simp; omega) ?_; intro a3 c3 w3 hO3 hg3 hV3)
          go_roundw
          case rel =>
            have hb3 : Below w.heap.size w w3 := by
              have h2 := hb.alloc hb.size (.cells #[.int .u8 ((4294967295 : Int) / 2 ^ (8 * i) % 256)] 5)
              exact h2.grown hg3 h2.size (fun g e => hO.base_le e)
            rw [hlj] at hO3
            refine ⟨j + 1, a3, c3, hlt, by have := Hi.out; congr 1; omega, rfl, ?_, hb3⟩
            rw [HT.out, ← List.cons_append]
            exact hO3
          case measure => simp [intOf]
        · obtain rfl : j = 8 := by omega
          have hneg : ¬ (0 : Int) ≤ (7 : Int) - ((8 : Nat) : Int) := by omega
          rw [List.take_of_length_le (by rw [be_length]; exact Nat.le_refl _)] at hO bO
          obtain ⟨hln, hmL⟩ := txt_same hO bO
          replace hln := show Hid _ from hln
          have hg1 : Hid (hgetR (f0 :: be 4294967295 8) 0 = (0, 0, 0, 3)) := by
            show _ = _
            rw [Hf.out]
            exact long_none rfl (by decide) (by decide) (by decide) (by decide) (by decide)
          clear hlj hO
          go_wp2_with fail
          refine Calls.mono (hget.out (f0 :: be 4294967295 8) a c _ wr hg1.out (by rw [← hln.out]) (by rw [← hln.out]; decide) (F.keep _ _ hT hb) hmL) ?_
          rintro e w4 ⟨rfl, hb4⟩
          have hB4 := bel hb hb4
          clear hmL bO
          go_wp2_with fail
          have e28 : (mj : Int) * 32 + 28 + 3 = ((32 * mj + 31 : Nat) : Int) := by omega
          have hx2 := own_new w4 (u8s [(mj : Int) * 32 + 28 + 3, 0, 0, 0, 0, 0, 0, 0, 0]).toArray 5
          have hb2 : Bys [(mj : Int) * 32 + 28 + 3, 0, 0, 0, 0, 0, 0, 0, 0] := fun y hy => by
            simp only [List.mem_cons, List.not_mem_nil, or_false] at hy
            omega
          have hBn := bel hB4 (alloc_below w4 (.cells (u8s [(mj : Int) * 32 + 28 + 3, 0, 0, 0, 0, 0, 0, 0, 0]).toArray 5))
          refine Calls.mono (hget.out [(mj : Int) * 32 + 28 + 3, 0, 0, 0, 0, 0, 0, 0, 0] _ _ 9 _ (by rw [e28]; exact low_none (by decide) (by decide)) rfl (by simp) (F.keep _ _ hT hBn) (nine_txt hb2 rfl hx2)) ?_
          rintro e w5 ⟨rfl, hb5⟩
          have hB5 := bel hBn hb5
          clear hx2 hb2 hBn hb5 hB4 e28
          go_wp2_with fail
          have e27 : (mj : Int) * 32 + 27 = ((32 * mj + 27 : Nat) : Int) := by omega
          have hx2 := own_new w5 (u8s [(mj : Int) * 32 + 27, 128, 0, 0, 0, 0, 0, 0, 0]).toArray 5
          have hb2 : Bys [(mj : Int) * 32 + 27, 128, 0, 0, 0, 0, 0, 0, 0] := fun y hy => by
            simp only [List.mem_cons, List.not_mem_nil, or_false] at hy
            omega
          have hBn := bel hB5 (alloc_below w5 (.cells (u8s [(mj : Int) * 32 + 27, 128, 0, 0, 0, 0, 0, 0, 0]).toArray 5))
          refine Calls.mono (hget.out [(mj : Int) * 32 + 27, 128, 0, 0, 0, 0, 0, 0, 0] _ _ 9 _ (by rw [e27]; exact big_none) rfl (by simp) (F.keep _ _ hT hBn) (nine_txt hb2 rfl hx2)) ?_
          rintro e w6 ⟨rfl, hb6⟩
          have hB6 := bel hBn hb6
          clear hx2 hb2 hBn hb6 e27
          go_wp2_with fail
          refine Calls.mono (hwk.out w6 (F.keep _ _ hT hB6)) ?_
          rintro e w7 ⟨rfl, hb7⟩
          go_wp2_with fail
          go_ret
          exact ⟨rfl, bel hB6 hb7⟩
    · have hlen : Hid (([] ++ hd mj 4294967295).length = 5) := by show _ = _; rw [List.nil_append, hd_length]; rfl
      go_wp2_with fail
      refine (F.put mj 4294967295 hmj7 (by decide) none 0 [] (by decide) _ (F.keep _ _ hT (alloc_below w _)) (txt_nil _)).mono ?_
      rintro e w1 ⟨v, rfl, hO, hb1⟩
      obtain ⟨a1, c1, rfl, hV⟩ := hO.form (hd_bytes hmj7)
      rw [hlen.out]
      have hB1 := bel (alloc_below w _) hb1
      clear hO hV hb1
      go_upto_region 13 with fail
      have hBa := hB1.alloc hB1.size (.cells #[.int .i64 1, .int .i64 2, .int .i64 3, .int .i64 5] 3)
      have hO := (own_one (w := (w1.alloc (.cells #[.int .i64 1, .int .i64 2, .int .i64 3, .int .i64 5] 3))) (x := (mj : Int) * 32 + 24 + 3) hBa.size).below (alloc_below _ (.cells #[.int .i64 24, .int .i64 256, .int .i64 65536, .int .i64 4294967296] 3))
      have hB2 := hBa.alloc hBa.size (.cells #[.int .u8 ((mj : Int) * 32 + 24 + 3)] 5)
      have hB3 := hB2.alloc hB2.size (.cells #[.int .i64 24, .int .i64 256, .int .i64 65536, .int .i64 4294967296] 3)
      rw [World.size_alloc] at hO
      generalize ((w1.alloc (.cells #[.int .i64 1, .int .i64 2, .int .i64 3, .int .i64 5] 3)).alloc (.cells #[.int .u8 ((mj : Int) * 32 + 24 + 3)] 5)).alloc (.cells #[.int .i64 24, .int .i64 256, .int .i64 65536, .int .i64 4294967296] 3) = W3 at *
      generalize w1.heap.size + 1 = g at *
      clear hB2 hBa
      have Hf : Hid ((((mj : Int) * 32 + 24 + 3 : Int)) = ((32 * mj + 27 : Nat) : Int)) := by show _ = _; omega
      obtain ⟨f0, Hf0⟩ : ∃ f0, Hid ((mj : Int) * 32 + 24 + 3 = f0) := ⟨_, rfl⟩
      rw [Hf0.out] at hO Hf
      have hfb : Hid (0 ≤ f0 ∧ f0 < 256) := by show _ ∧ _; rw [← Hf0.out]; omega
      go_loopw [12, 14] (fun v i wr => ∃ (j : Nat) (a : Option Addr) (c : Nat), j ≤ 8 ∧ i = .int .i64 ((7 : Int) - j) ∧ v = .slice a (1 + j) c ∧ OwnBytes wr w.heap.size (.slice a (1 + j) c) (f0 :: (be 4294967295 8).take j) ∧ Below w.heap.size w wr) (fun _ i _ => (intOf i + 1).toNat)
      case atStart => exact ⟨0, _, _, Nat.zero_le _, rfl, rfl, hO, hB3⟩
      case round =>
        clear hO hB3
        obtain ⟨j, a, c, hj, rfl, rfl, hO, hb⟩ := hrel
        have hlj : (f0 :: (be 4294967295 8).take j).length = 1 + j := by rw [List.length_cons, List.length_take, be_length, Nat.min_eq_left hj, Nat.add_comm]
        have bO : Bys (f0 :: (be 4294967295 8).take j) := fun x hx => (List.mem_cons.1 hx).elim (fun e => by rw [e]; exact hfb.out) (fun h => be_bys _ _ x (List.mem_of_mem_take h))
        by_cases hlt : j < 8
        · obtain ⟨i, Hi, hi8⟩ : ∃ i : Nat, Hid (8 = i + 1 + j) ∧ i ≤ 7 := ⟨7 - j, show 8 = 7 - j + 1 + j by omega, by omega⟩
          have ei : (7 : Int) - (j : Int) = (i : Int) := by have := Hi.out; omega
          rw [ei]
          have EI := show Hid _ from ei
          clear ei
          have hi0 : (0 : Int) ≤ (i : Int) := by omega
          have hi7 : (i : Int) ≤ 7 := by omega
          have HT : Hid ((be 4294967295 8).take (j + 1) = (be 4294967295 8).take j ++ [(4294967295 : Int) / 2 ^ (8 * i) % 256]) := by
            show _ = _
            rw [be_take 4294967295 8 j hlt, show 8 - 1 - j = i by have := Hi.out; omega, byte_cast]
            rfl
          have HX : Hid (0 ≤ (4294967295 : Int) / 2 ^ (8 * i) % 256 ∧ (4294967295 : Int) / 2 ^ (8 * i) % 256 < 256) := by show _ ∧ _; generalize (4294967295 : Int) / 2 ^ (8 * i) = y; omega
          go_wp2_with (at_builtin; refine wpList_append_bytes (by rfl) (.tmp 88) (.tmp 95) (by rfl) w.heap.size _ _ (by rfl) (hO.below (alloc_below _ _)) bO _ 1 1 [(4294967295 : Int) / 2 ^ (8 * i) % 256] (by rfl) (bytesV_one _ _ HX.out) (fun h => by cases h) (by rw [hlj]; simp; omega) (by have := hb.size; simp; omega) ?_; intro a3 c3 w3 hO3 hg3 hV3)
          go_roundw
          case rel =>
            have hb3 : Below w.heap.size w w3 := by
              have h2 := hb.alloc hb.size (.cells #[.int .u8 ((4294967295 : Int) / 2 ^ (8 * i) % 256)] 5)
              exact h2.grown hg3 h2.size (fun g e => hO.base_le e)
            rw [hlj] at hO3
            refine ⟨j + 1, a3, c3, hlt, by have := Hi.out; congr 1; omega, rfl, ?_, hb3⟩
            rw [HT.out, ← List.cons_append]
            exact hO3
          case measure => simp [intOf]
        · obtain rfl : j = 8 := by omega
          have hneg : ¬ (0 : Int) ≤ (7 : Int) - ((8 : Nat) : Int) := by omega
          rw [List.take_of_length_le (by rw [be_length]; exact Nat.le_refl _)] at hO bO
          obtain ⟨hln, hmL⟩ := txt_same hO bO
          replace hln := show Hid _ from hln
          have hg1 : Hid (hgetR (f0 :: be 4294967295 8) 0 = (0, 0, 0, 3)) := by
            show _ = _
            rw [Hf.out]
            exact long_none rfl (by decide) (by decide) (by decide) (by decide) (by decide)
          clear hlj hO
          go_wp2_with fail
          refine Calls.mono (hget.out (f0 :: be 4294967295 8) a c _ wr hg1.out (by rw [← hln.out]) (by rw [← hln.out]; decide) (F.keep _ _ hT hb) hmL) ?_
          rintro e w4 ⟨rfl, hb4⟩
          have hB4 := bel hb hb4
          clear hmL bO
          go_wp2_with fail
          have e28 : (mj : Int) * 32 + 28 + 3 = ((32 * mj + 31 : Nat) : Int) := by omega
          have hx2 := own_new w4 (u8s [(mj : Int) * 32 + 28 + 3, 0, 0, 0, 0, 0, 0, 0, 0]).toArray 5
          have hb2 : Bys [(mj : Int) * 32 + 28 + 3, 0, 0, 0, 0, 0, 0, 0, 0] := fun y hy => by
            simp only [List.mem_cons, List.not_mem_nil, or_false] at hy
            omega
          have hBn := bel hB4 (alloc_below w4 (.cells (u8s [(mj : Int) * 32 + 28 + 3, 0, 0, 0, 0, 0, 0, 0, 0]).toArray 5))
          refine Calls.mono (hget.out [(mj : Int) * 32 + 28 + 3, 0, 0, 0, 0, 0, 0, 0, 0] _ _ 9 _ (by rw [e28]; exact low_none (by decide) (by decide)) rfl (by simp) (F.keep _ _ hT hBn) (nine_txt hb2 rfl hx2)) ?_
          rintro e w5 ⟨rfl, hb5⟩
          have hB5 := bel hBn hb5
          clear hx2 hb2 hBn hb5 hB4 e28
          go_wp2_with fail
          have e27 : (mj : Int) * 32 + 27 = ((32 * mj + 27 : Nat) : Int) := by omega
          have hx2 := own_new w5 (u8s [(mj : Int) * 32 + 27, 128, 0, 0, 0, 0, 0, 0, 0]).toArray 5
          have hb2 : Bys [(mj : Int) * 32 + 27, 128, 0, 0, 0, 0, 0, 0, 0] := fun y hy => by
            simp only [List.mem_cons, List.not_mem_nil, or_false] at hy
            omega
          have hBn := bel hB5 (alloc_below w5 (.cells (u8s [(mj : Int) * 32 + 27, 128, 0, 0, 0, 0, 0, 0, 0]).toArray 5))
          refine Calls.mono (hget.out [(mj : Int) * 32 + 27, 128, 0, 0, 0, 0, 0, 0, 0] _ _ 9 _ (by rw [e27]; exact big_none) rfl (by simp) (F.keep _ _ hT hBn) (nine_txt hb2 rfl hx2)) ?_
          rintro e w6 ⟨rfl, hb6⟩
          have hB6 := bel hBn hb6
          clear hx2 hb2 hBn hb6 e27
          go_wp2_with fail
          refine Calls.mono (hwk.out w6 (F.keep _ _ hT hB6)) ?_
          rintro e w7 ⟨rfl, hb7⟩
          go_wp2_with fail
          go_ret
          exact ⟨rfl, bel hB6 hb7⟩
end Go.Proofs.Ythcmcaomnndpcaa
