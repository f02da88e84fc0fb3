/- The library's Valid: are these bytes UTF-8? -/
import Derived.Test.YtaabcllghniaoaaDoorVB
namespace Go.Proofs.YtaabcllghniaoaaDoor
open Go Go.RowKit
/-- A slice's length. -/
def vlen : Value → Nat
  | .slice _ n _ => n
  | _ => 0
/-- The bytes that are left. -/
def Lft (w : World) (v : Value) (m : List Int) : Prop := ∃ a, v = .slice a m.length m.length ∧ BytesV w a m.length m.length m
theorem lft_of {w : World} {a : Option Addr} {n : Nat} {m : List Int} (h : BytesV w a n n m) : Lft w (.slice a n n) m := by
  obtain rfl := h.1
  exact ⟨a, rfl, h⟩
theorem cut_is {w : World} {a : Option Addr} {n : Nat} {m : List Int} (h : BytesV w a n n m) (k : Nat) (hk : k ≤ n) : ∃ a2 n2, Hid (cutAddr a n k = a2) ∧ Hid (n - k = n2) ∧ BytesV w a2 n2 n2 (m.drop k) := ⟨_, _, rfl, rfl, h.drop k hk⟩
theorem word_quiet {w : World} {a : Option Addr} {len cap : Nat} {m : List Int} (h : BytesV w a len cap m) (h8 : 8 ≤ len) (n : Nat) : Calls Tryd.prog 35 #[.slice a len cap] (w.drewN n) fun e w' => e = .returned (.int .u64 (wordM m)) ∧ ∃ k, w' = (w.drewN n).drewN k := word_is (h.below (below_drewN w n)) h8
theorem and_hi {X : Nat} (h : X < 18446744073709551616) : bits .and .u64 (X : Int) 9259542123273814144 = ((X &&& 9259542123273814144 : Nat) : Int) := bits_and_u64_nat X 9259542123273814144 h (by decide)
theorem or_hi {X Y : Nat} (h : (X ||| Y) &&& 9259542123273814144 = 0) : X &&& 9259542123273814144 = 0 ∧ Y &&& 9259542123273814144 = 0 := by
  rw [Nat.and_or_distrib_right, Nat.or_eq_zero_iff] at h
  exact h
theorem skip16 {m : List Int} (hb : Bys m) (hl : 16 ≤ m.length) (h : (wordM m ||| wordM (m.drop 8)) &&& 9259542123273814144 = 0) : utf8 m = utf8 (m.drop 16) := by
  obtain ⟨h1, h2⟩ := or_hi h
  rw [wordM_skip hb (by omega) h1, wordM_skip (fun x hx => hb x (List.mem_of_mem_drop hx)) (by rw [List.length_drop]; omega) h2, List.drop_drop]
theorem skip32 {m : List Int} (hb : Bys m) (hl : 32 ≤ m.length) (h : ((wordM m ||| wordM (m.drop 8)) ||| (wordM (m.drop 16) ||| wordM (m.drop 24))) &&& 9259542123273814144 = 0) : utf8 m = utf8 (m.drop 32) := by
  obtain ⟨h1, h2⟩ := or_hi h
  rw [skip16 hb (by omega) h1, skip16 (fun x hx => hb x (List.mem_of_mem_drop hx)) (by rw [List.length_drop]; omega) (by rw [List.drop_drop]; exact h2), List.drop_drop]
/-- What is told of a number's upper halves. -/
theorem hi_cases {X : Nat} (h : X < 18446744073709551616) : (X &&& 9259542123273814144 = 0 ∧ bits .and .u64 (X : Int) 9259542123273814144 = 0) ∨ ∃ Y : Int, bits .and .u64 (X : Int) 9259542123273814144 = Y ∧ (Y == 0) = false := by
  by_cases h0 : X &&& 9259542123273814144 = 0
  · exact .inl ⟨h0, by rw [and_hi h, h0]; rfl⟩
  · exact .inr ⟨_, and_hi h, beq_eq_false_iff_ne.2 (by omega)⟩
set_option maxRecDepth 100000 in
set_option maxHeartbeats 4000000 in
theorem valid_is {w : World} {a : Option Addr} {cap : Nat} {m : List Int} (hT : TU w) (hm : Txt w a cap m) : Calls Tryd.prog 26 #[.slice a m.length cap] w fun e w' => e = .returned (.bool (utf8 m)) ∧ Below w.heap.size w w' := by
  have hcap : (m.length : Int) ≤ (cap : Int) := by have := hm.1.2.1; omega
  have hcm : (cap : Int) ≤ 9223372036854775807 := by have h3 := hm.1.2.2.1; unfold maxLen at h3; omega
  go_enter Tryd.func26, Tryd.ntmps26
  go_upto_region 2 with fail
  go_loopw [0] (fun p wr => ∃ m', Lft wr p m' ∧ Hid (utf8 m = utf8 m') ∧ Below w.heap.size w wr ∧ m'.length ≤ m.length) (fun p _ => vlen p)
  case atStart => exact ⟨m, lft_of ⟨hm.1.1, Nat.le_refl _, Nat.le_trans hm.1.2.1 hm.1.2.2.1, hm.1.2.2.2⟩, rfl, Below.refl _ _, Nat.le_refl _⟩
  case round =>
    obtain ⟨m', ⟨a1, rfl, hV⟩, hU, hB, hml⟩ := hrel
    cases m' with
    | nil =>
      go_wp2_with fail
      go_ret
      exact ⟨by rw [hU.out, utf8_nil]; rfl, hB⟩
    | cons c r =>
      have hc := hV.2.2.2.1 c (.head _)
      obtain ⟨x, rfl⟩ := Int.eq_ofNat_of_zero_le hc.1
      have hx256 : x < 256 := by omega
      clear hc
      obtain ⟨n, Hn⟩ : ∃ n, Hid (((x : Int) :: r).length = n) := ⟨_, rfl⟩
      rw [Hn.out] at hV hml ⊢
      have hn0 : 0 < n := by rw [← Hn.out]; simp
      have hn0' : (0 : Int) < (n : Int) := by omega
      have hnm : (n : Int) ≤ 9223372036854775807 := by omega
      have hTr : Hid (TU wr) := hT.keep hB
      obtain ⟨b, off, rfl, c0⟩ := hV.at 0 hn0
      rw [Nat.add_zero, List.getD_cons_zero] at c0
      obtain ⟨a2, n2, Ha2, Hn2, hV2⟩ := cut_is hV 1 (by omega)
      rw [List.drop_succ_cons, List.drop_zero] at hV2
      by_cases h1 : x < 128
      · as_aux_lemma =>
        have h1' : (x : Int) < 128 := by omega
        have hU2 : Hid (utf8 m = utf8 r) := by show _ = _; rw [hU.out, utf8_ascii h1']
        have hn2 : (n2 : Int) ≤ 9223372036854775807 := by have := Hn2.out; omega
        have hlt : Hid (n2 < n) := by show _ < _; have := Hn2.out; omega
        go_upto_region 6 with (refine wpList_slice_from (by rfl) 25 (.tmp 21) (.const (.int .i64 1)) (by rfl) 5 Tryd.underlying25 info5s (some ⟨b, off, none⟩) n n 1 (by rfl) (by rfl) hn0 ?_; rw [Ha2.out, Hn2.out])
        by_cases h8 : 8 < n2
        · have h8' : (8 : Int) < (n2 : Int) := by omega
          go_wp2_with fail
          refine (word_is hV2 (by omega)).mono ?_
          rintro e w2 ⟨rfl, k2, rfl⟩
          have hB2 := hB.trans ((below_drewN wr k2).mono hB.size)
          have hVr : BytesV (wr.drewN k2) a2 n2 n2 r := hV2.below (below_drewN wr k2)
          generalize wr.drewN k2 = w2 at hB2 hVr ⊢
          have hXb := wordM_lt hVr.2.2.2.1
          obtain ⟨X, HX⟩ : ∃ X, Hid (wordM r = X) := ⟨_, rfl⟩
          rw [HX.out] at hXb ⊢
          rcases hi_cases hXb with ⟨hX0, hA⟩ | ⟨Y, hA, hY⟩
          · obtain ⟨a3, n3, Ha3, Hn3, hV3⟩ := cut_is hVr 8 (by omega)
            have hU3 : Hid (utf8 m = utf8 (r.drop 8)) := by show _ = _; rw [hU2.out]; exact wordM_skip hVr.2.2.2.1 (by have := hVr.1; omega) (by rw [HX.out]; exact hX0)
            generalize r.drop 8 = m3 at hV3 hU3
            have hn3 : (n3 : Int) ≤ 9223372036854775807 := by have := Hn3.out; omega
            have hlt3 : Hid (n3 < n) := by show _ < _; have := Hn3.out; have := hlt.out; omega
            clear hX0
            clear hXb
            go_upto_region 8 with (refine wpList_slice_from (by rfl) 25 (.tmp 32) (.const (.int .i64 8)) (by rfl) 5 Tryd.underlying25 info5s a2 n2 n2 8 (by rfl) (by rfl) (by omega) ?_; rw [Ha3.out, Hn3.out])
            clear hA
            by_cases h16 : 16 < n3
            · have h16' : (16 : Int) < (n3 : Int) := by omega
              obtain ⟨b3, o3, rfl, -⟩ := hV3.at 0 (by omega)
              have hV4 := hV3.drop 8 (by omega)
              rw [cutAddr, if_neg (by omega), Option.map_some, Addr.add_mid] at hV4
              have q1 := word_quiet hV3 (by omega)
              have q2 := word_quiet hV4 (by omega)
              have hc1 := wordM_lt hV3.2.2.2.1
              have hc2 := wordM_lt hV4.2.2.2.1
              have hor := or_nat hc1 hc2
              have hcc := or_lt64 hc1 hc2
              have hsk : Hid ((wordM m3 ||| wordM (m3.drop 8)) &&& 9259542123273814144 = 0 → utf8 m = utf8 (m3.drop 16)) := fun h => by
                rw [hU3.out]; exact skip16 hV3.2.2.2.1 (by have := hV3.1; omega) h
              obtain ⟨X1, HX1⟩ : ∃ X, Hid (wordM m3 = X) := ⟨_, rfl⟩
              obtain ⟨X2, HX2⟩ : ∃ X, Hid (wordM (m3.drop 8) = X) := ⟨_, rfl⟩
              rw [HX1.out, HX2.out] at hor hcc hsk
              rw [HX1.out] at q1 hc1
              rw [HX2.out] at q2 hc2
              obtain ⟨X3, HX3⟩ : ∃ X, Hid (X1 ||| X2 = X) := ⟨_, rfl⟩
              rw [HX3.out] at hor hcc hsk
              have l8 : (8 : Int) ≤ (n3 : Int) := by omega
              have e8 : ¬ (n3 : Int) = 8 := by omega
              obtain ⟨a5, n5, Ha5, Hn5, hV5⟩ := cut_is hV3 16 (by omega)
              have hlt5 : Hid (n5 < n) := by show _ < _; have := Hn5.out; have := hlt3.out; omega
              have hn5 : (n5 : Int) ≤ 9223372036854775807 := by have := Hn5.out; omega
              clear hc1 hc2
              go_wp2_with fail
              rcases hi_cases hcc with ⟨hX0, hA⟩ | ⟨Y, hA, hY⟩
              · have hU5 : Hid (utf8 m = utf8 (m3.drop 16)) := hsk.out hX0
                clear hcc hX0
                generalize m3.drop 16 = m5 at hV5 hU5
                go_quiet ((go_at_call 35; first | (with_reducible exact Calls.quiet_of (q1 _)) | (with_reducible exact Calls.quiet_of (q2 _))))
                have hB5 := hB2.trans ((below_drewN w2 nq).mono hB2.size)
                replace hV5 := hV5.below (below_drewN w2 nq)
                generalize w2.drewN nq = w5 at hB5 hV5 ⊢
                clear hA hor hsk q1 q2 hV4 hV3 hV2 hVr
                go_upto_region 10 with (refine wpList_slice_from (by rfl) 25 (.tmp 47) (.const (.int .i64 16)) (by rfl) 5 Tryd.underlying25 info5s (some ⟨b3, o3, none⟩) n3 n3 16 (by rfl) (by rfl) (by omega) ?_; rw [Ha5.out, Hn5.out])
                go_loopw [0] (fun p wi => ∃ m', Lft wi p m' ∧ Hid (utf8 m = utf8 m') ∧ Below w.heap.size w wi ∧ Hid (m'.length < n)) (fun p _ => vlen p)
                case atStart => exact ⟨m5, lft_of hV5, hU5, hB5, by show _ < _; have := hlt5.out; have := hV5.1; omega⟩
                case round =>
                  clear hB5 hV5 hU5 hlt5 hn5
                  obtain ⟨m6, ⟨a6, rfl, hV6⟩, hU6, hB6, hl6⟩ := hrel
                  obtain ⟨n6, Hn6⟩ : ∃ n, Hid (m6.length = n) := ⟨_, rfl⟩
                  rw [Hn6.out] at hV6 hl6 ⊢
                  have hn6 : (n6 : Int) ≤ 9223372036854775807 := by have := hl6.out; omega
                  by_cases h32 : 32 < n6
                  · have h32' : (32 : Int) < (n6 : Int) := by omega
                    obtain ⟨b6, o6, rfl, -⟩ := hV6.at 0 (by omega)
                    have hV7 := hV6.drop 8 (by omega)
                    have hV8 := hV6.drop 16 (by omega)
                    have hV9 := hV6.drop 24 (by omega)
                    rw [cutAddr, if_neg (by omega), Option.map_some, Addr.add_mid] at hV7 hV8 hV9
                    have q1 := word_quiet hV6 (by omega)
                    have q2 := word_quiet hV7 (by omega)
                    have q3 := word_quiet hV8 (by omega)
                    have q4 := word_quiet hV9 (by omega)
                    have hc1 := wordM_lt hV6.2.2.2.1
                    have hc2 := wordM_lt hV7.2.2.2.1
                    have hc3 := wordM_lt hV8.2.2.2.1
                    have hc4 := wordM_lt hV9.2.2.2.1
                    have hor1 := or_nat hc1 hc2
                    have hor2 := or_nat hc3 hc4
                    have hc12 := or_lt64 hc1 hc2
                    have hc34 := or_lt64 hc3 hc4
                    have hor := or_nat hc12 hc34
                    have hcc := or_lt64 hc12 hc34
                    have hsk : Hid (((wordM m6 ||| wordM (m6.drop 8)) ||| (wordM (m6.drop 16) ||| wordM (m6.drop 24))) &&& 9259542123273814144 = 0 → utf8 m = utf8 (m6.drop 32)) := fun h => by
                      rw [hU6.out]; exact skip32 hV6.2.2.2.1 (by have := hV6.1; omega) h
                    clear hc1 hc2 hc3 hc4 hc12 hc34 hV7 hV8 hV9
                    generalize wordM m6 = X1 at *
                    generalize wordM (m6.drop 8) = X2 at *
                    generalize wordM (m6.drop 16) = X3 at *
                    generalize wordM (m6.drop 24) = X4 at *
                    generalize X1 ||| X2 = X5 at *
                    generalize X3 ||| X4 = X6 at *
                    generalize X5 ||| X6 = X7 at *
                    have l8 : (8 : Int) ≤ (n6 : Int) := by omega
                    have e8 : ¬ (n6 : Int) = 8 := by omega
                    have l16 : (16 : Int) ≤ (n6 : Int) := by omega
                    have e16 : ¬ (n6 : Int) = 16 := by omega
                    have l24 : (24 : Int) ≤ (n6 : Int) := by omega
                    have e24 : ¬ (n6 : Int) = 24 := by omega
                    obtain ⟨aX, nX, HaX, HnX, hVX⟩ := cut_is hV6 32 (by omega)
                    have hltX : Hid (nX < n6) := by show _ < _; have := HnX.out; omega
                    go_wp2_with fail
                    rcases hi_cases hcc with ⟨hX0, hA⟩ | ⟨Y, hA, hY⟩
                    · have hUX : Hid (utf8 m = utf8 (m6.drop 32)) := hsk.out hX0
                      clear hcc hX0
                      generalize m6.drop 32 = mX at hVX hUX
                      go_quiet ((go_at_call 35; first | (with_reducible exact Calls.quiet_of (q1 _)) | (with_reducible exact Calls.quiet_of (q2 _)) | (with_reducible exact Calls.quiet_of (q3 _)) | (with_reducible exact Calls.quiet_of (q4 _))))
                      go_wp2_with (refine wpList_slice_from (by rfl) 25 (.tmp 70) (.const (.int .i64 32)) (by rfl) 5 Tryd.underlying25 info5s (some ⟨b6, o6, none⟩) n6 n6 32 (by rfl) (by rfl) (by omega) ?_; rw [HaX.out, HnX.out])
                      go_roundw
                      case rel => exact ⟨mX, lft_of (hVX.below (below_drewN _ _)), hUX.out, hB6.trans ((below_drewN _ _).mono hB6.size), by show _ < _; have := hltX.out; have := hl6.out; have := hVX.1; omega⟩
                      case measure => simp only [vlen]; exact hltX.out
                    · clear hcc
                      go_quiet ((go_at_call 35; first | (with_reducible exact Calls.quiet_of (q1 _)) | (with_reducible exact Calls.quiet_of (q2 _)) | (with_reducible exact Calls.quiet_of (q3 _)) | (with_reducible exact Calls.quiet_of (q4 _))))
                      go_wp2_with fail
                      go_roundw
                      case rel => exact ⟨m6, lft_of (hV6.below (below_drewN _ _)), hU6.out, hB6.trans ((below_drewN _ _).mono hB6.size), by have := hl6.out; have := hV6.1; omega⟩
                      case measure => simp only [vlen]; exact hl6.out
                  · have h32' : ¬ (32 : Int) < (n6 : Int) := by omega
                    have hd : decide ((32 : Int) < (n6 : Int)) = false := decide_eq_false h32'
                    go_wp2_with fail
                    go_quiet (fail)
                    go_wp2_with fail
                    go_roundw
                    case rel => exact ⟨m6, lft_of (hV6.below (below_drewN _ _)), hU6.out, hB6.trans ((below_drewN _ _).mono hB6.size), by have := hl6.out; have := hV6.1; omega⟩
                    case measure => simp only [vlen]; exact hl6.out
              · clear hcc
                go_quiet ((go_at_call 35; first | (with_reducible exact Calls.quiet_of (q1 _)) | (with_reducible exact Calls.quiet_of (q2 _))))
                go_wp2_with fail
                go_roundw
                case rel => exact ⟨m3, lft_of (hV3.below (below_drewN _ _)), hU3.out, hB2.trans ((below_drewN _ _).mono hB2.size), by have := hlt3.out; have := hV3.1; omega⟩
                case measure => simp only [vlen]; exact hlt3.out
            · have h16' : ¬ (16 : Int) < (n3 : Int) := by omega
              have hd : decide ((16 : Int) < (n3 : Int)) = false := decide_eq_false h16'
              go_wp2_with fail
              go_quiet (fail)
              go_wp2_with fail
              go_roundw
              case rel => exact ⟨m3, lft_of (hV3.below (below_drewN _ _)), hU3.out, hB2.trans ((below_drewN _ _).mono hB2.size), by have := hlt3.out; have := hV3.1; omega⟩
              case measure => simp only [vlen]; exact hlt3.out
          · go_wp2_with fail
            go_roundw
            case rel => exact ⟨r, lft_of hVr, hU2.out, hB2, by have := hlt.out; have := hV2.1; omega⟩
            case measure => simp only [vlen]; exact hlt.out
        · have h8' : ¬ (8 : Int) < (n2 : Int) := by omega
          go_wp2_with fail
          go_roundw
          case rel => exact ⟨r, lft_of hV2, hU2.out, hB, by have := hlt.out; have := hV2.1; omega⟩
          case measure => simp only [vlen]; exact hlt.out
      · as_aux_lemma =>
        have h1' : ¬ (x : Int) < 128 := by omega
        have hi256 : (x : Int) < 256 := by omega
        have hi0 : (0 : Int) ≤ (x : Int) := by omega
        have hF := hTr.out.1.2 x hx256
        obtain ⟨K, hFs, hK, hcls⟩ := ucls h1 hx256
        obtain ⟨hlo, hhi⟩ := hTr.out.2.2 K hK
        rw [Nat.mul_comm] at hlo hhi
        generalize ufst x = F at *
        generalize ulo K = lo at *
        generalize uhi K = hi at *
        have hK16 : (K : Int) < 16 := by omega
        have hK0 : (0 : Int) ≤ (K : Int) := by omega
        rcases hcls with ⟨hFa, hsp⟩ | ⟨hFa, hsp⟩ | ⟨hFa, hsp⟩ | ⟨hFa, hsp⟩
        · replace hsp := show Hid (utf8 m = _) from hU.out.trans (hsp r)
          go_upto_region 15 with fail
          have hA := own_new wr #[.int .u8 (lo : Int), .int .u8 (hi : Int)] 69
          have hB3 := hB.alloc hB.size (.cells #[.int .u8 (lo : Int), .int .u8 (hi : Int)] 69)
          have hV3 := hV.below (alloc_below wr (.cells #[.int .u8 (lo : Int), .int .u8 (hi : Int)] 69))
          have hbw : b < wr.heap.size := World.block_lt_of_cell? wr _ c0
          obtain ⟨g, Hg⟩ : ∃ g, Hid (wr.heap.size = g) := ⟨_, rfl⟩
          rw [Hg.out] at hA ⊢
          generalize wr.alloc (.cells #[.int .u8 (lo : Int), .int .u8 (hi : Int)] 69) = w3 at hA hB3 hV3 ⊢
          have a0 : w3.cell? ⟨g, 0, none⟩ = some (.int .u8 (lo : Int)) := hA.cell rfl
          have a1 : w3.cell? ⟨g, 1, none⟩ = some (.int .u8 (hi : Int)) := hA.cell rfl
          clear hF hlo hhi c0 hA
          go_wp2_with fail
          go_ret
          exact ⟨by rw [hsp.out]; rfl, hB3⟩
        · replace hsp := show Hid (utf8 m = _) from hU.out.trans (hsp r)
          go_upto_region 15 with fail
          have hA := own_new wr #[.int .u8 (lo : Int), .int .u8 (hi : Int)] 69
          have hB3 := hB.alloc hB.size (.cells #[.int .u8 (lo : Int), .int .u8 (hi : Int)] 69)
          have hV3 := hV.below (alloc_below wr (.cells #[.int .u8 (lo : Int), .int .u8 (hi : Int)] 69))
          have hbw : b < wr.heap.size := World.block_lt_of_cell? wr _ c0
          obtain ⟨g, Hg⟩ : ∃ g, Hid (wr.heap.size = g) := ⟨_, rfl⟩
          rw [Hg.out] at hA ⊢
          generalize wr.alloc (.cells #[.int .u8 (lo : Int), .int .u8 (hi : Int)] 69) = w3 at hA hB3 hV3 ⊢
          have a0 : w3.cell? ⟨g, 0, none⟩ = some (.int .u8 (lo : Int)) := hA.cell rfl
          have a1 : w3.cell? ⟨g, 1, none⟩ = some (.int .u8 (hi : Int)) := hA.cell rfl
          clear hF hlo hhi c0 hA
          have hrl : Hid (r.length + 1 = n) := by show _ = _; rw [← Hn.out]; simp
          by_cases hl : n < 2
          · have hl' : (n : Int) < 2 := by omega
            have hres : Hid (utf8 m = false) := by show _ = _; rw [hsp.out, if_pos (by have := hrl.out; omega)]
            go_wp2_with fail
            go_quiet (fail)
            go_wp2_with fail
            go_ret
            exact ⟨by rw [hres.out]; rfl, hB3.trans ((below_drewN _ _).mono hB3.size)⟩
          have hl' : 2 ≤ (n : Int) := by omega
          have hld : decide ((n : Int) < 2) = false := decide_eq_false (by omega)
          rw [if_neg (by have := hrl.out; omega)] at hsp
          have i1 : (1 : Int) < (n : Int) := by omega
          obtain ⟨_, _, e, c1⟩ := hV3.at 1 (by omega); cases e
          rw [List.getD_cons_succ] at c1
          generalize r.getD 0 0 = y at *
          by_cases k0 : y < (lo : Int)
          · have hres : Hid (utf8 m = false) := by show _ = _; rw [hsp.out, decide_eq_false (by omega), Bool.false_and]
            replace hsp := (show Hid True from trivial)
            go_wp2_with fail
            go_quiet (fail)
            go_wp2_with fail
            go_ret
            exact ⟨by rw [hres.out]; rfl, hB3.trans ((below_drewN _ _).mono hB3.size)⟩
          have d0 : decide (y < (lo : Int)) = false := decide_eq_false k0
          by_cases k1 : (hi : Int) < y
          · have hres : Hid (utf8 m = false) := by show _ = _; rw [hsp.out, decide_eq_false (by omega), Bool.false_and]
            replace hsp := (show Hid True from trivial)
            go_wp2_with fail
            go_quiet (fail)
            go_wp2_with fail
            go_ret
            exact ⟨by rw [hres.out]; rfl, hB3.trans ((below_drewN _ _).mono hB3.size)⟩
          have d1 : decide ((hi : Int) < y) = false := decide_eq_false k1
          have hres : Hid (utf8 m = utf8 (r.drop 1)) := by show _ = _; rw [hsp.out, decide_eq_true (by omega), Bool.true_and]
          obtain ⟨a5, n5, Ha5, Hn5, hV5⟩ := cut_is hV3 2 (by omega)
          rw [List.drop_succ_cons] at hV5
          have hlt5 : Hid (n5 < n) := by show _ < _; have := Hn5.out; omega
          go_wp2_with fail
          go_quiet (fail)
          go_wp2_with (refine wpList_slice_from (by rfl) 25 (.tmp 104) (.const (.int .i64 2)) (by rfl) 5 Tryd.underlying25 info5s (some ⟨b, off, none⟩) n n 2 (by rfl) (by rfl) (by omega) ?_; rw [Ha5.out, Hn5.out])
          go_roundw
          case rel => exact ⟨r.drop 1, lft_of (hV5.below (below_drewN _ _)), hres.out, hB3.trans ((below_drewN _ _).mono hB3.size), by have := hlt5.out; have := hV5.1; omega⟩
          case measure => simp only [vlen]; exact hlt5.out
        · replace hsp := show Hid (utf8 m = _) from hU.out.trans (hsp r)
          go_upto_region 15 with fail
          have hA := own_new wr #[.int .u8 (lo : Int), .int .u8 (hi : Int)] 69
          have hB3 := hB.alloc hB.size (.cells #[.int .u8 (lo : Int), .int .u8 (hi : Int)] 69)
          have hV3 := hV.below (alloc_below wr (.cells #[.int .u8 (lo : Int), .int .u8 (hi : Int)] 69))
          have hbw : b < wr.heap.size := World.block_lt_of_cell? wr _ c0
          obtain ⟨g, Hg⟩ : ∃ g, Hid (wr.heap.size = g) := ⟨_, rfl⟩
          rw [Hg.out] at hA ⊢
          generalize wr.alloc (.cells #[.int .u8 (lo : Int), .int .u8 (hi : Int)] 69) = w3 at hA hB3 hV3 ⊢
          have a0 : w3.cell? ⟨g, 0, none⟩ = some (.int .u8 (lo : Int)) := hA.cell rfl
          have a1 : w3.cell? ⟨g, 1, none⟩ = some (.int .u8 (hi : Int)) := hA.cell rfl
          clear hF hlo hhi c0 hA
          have hrl : Hid (r.length + 1 = n) := by show _ = _; rw [← Hn.out]; simp
          by_cases hl : n < 3
          · have hl' : (n : Int) < 3 := by omega
            have hres : Hid (utf8 m = false) := by show _ = _; rw [hsp.out, if_pos (by have := hrl.out; omega)]
            go_wp2_with fail
            go_quiet (fail)
            go_wp2_with fail
            go_ret
            exact ⟨by rw [hres.out]; rfl, hB3.trans ((below_drewN _ _).mono hB3.size)⟩
          have hl' : 3 ≤ (n : Int) := by omega
          have hld : decide ((n : Int) < 3) = false := decide_eq_false (by omega)
          rw [if_neg (by have := hrl.out; omega)] at hsp
          have i1 : (1 : Int) < (n : Int) := by omega
          obtain ⟨_, _, e, c1⟩ := hV3.at 1 (by omega); cases e
          rw [List.getD_cons_succ] at c1
          generalize r.getD 0 0 = y at *
          have i2 : (2 : Int) < (n : Int) := by omega
          obtain ⟨_, _, e, c2⟩ := hV3.at 2 (by omega); cases e
          rw [List.getD_cons_succ] at c2
          generalize r.getD 1 0 = z at *
          by_cases k0 : y < (lo : Int)
          · have hres : Hid (utf8 m = false) := by show _ = _; rw [hsp.out, decide_eq_false (by omega), Bool.false_and]
            replace hsp := (show Hid True from trivial)
            go_wp2_with fail
            go_quiet (fail)
            go_wp2_with fail
            go_ret
            exact ⟨by rw [hres.out]; rfl, hB3.trans ((below_drewN _ _).mono hB3.size)⟩
          have d0 : decide (y < (lo : Int)) = false := decide_eq_false k0
          by_cases k1 : (hi : Int) < y
          · have hres : Hid (utf8 m = false) := by show _ = _; rw [hsp.out, decide_eq_false (by omega), Bool.false_and]
            replace hsp := (show Hid True from trivial)
            go_wp2_with fail
            go_quiet (fail)
            go_wp2_with fail
            go_ret
            exact ⟨by rw [hres.out]; rfl, hB3.trans ((below_drewN _ _).mono hB3.size)⟩
          have d1 : decide ((hi : Int) < y) = false := decide_eq_false k1
          by_cases k2 : z < 128
          · have hres : Hid (utf8 m = false) := by show _ = _; rw [hsp.out, decide_eq_false (by omega), Bool.false_and]
            replace hsp := (show Hid True from trivial)
            go_wp2_with fail
            go_quiet (fail)
            go_wp2_with fail
            go_ret
            exact ⟨by rw [hres.out]; rfl, hB3.trans ((below_drewN _ _).mono hB3.size)⟩
          have d2 : decide (z < 128) = false := decide_eq_false k2
          by_cases k3 : (191 : Int) < z
          · have hres : Hid (utf8 m = false) := by show _ = _; rw [hsp.out, decide_eq_false (by omega), Bool.false_and]
            replace hsp := (show Hid True from trivial)
            go_wp2_with fail
            go_quiet (fail)
            go_wp2_with fail
            go_ret
            exact ⟨by rw [hres.out]; rfl, hB3.trans ((below_drewN _ _).mono hB3.size)⟩
          have d3 : decide ((191 : Int) < z) = false := decide_eq_false k3
          have hres : Hid (utf8 m = utf8 (r.drop 2)) := by show _ = _; rw [hsp.out, decide_eq_true (by omega), Bool.true_and]
          obtain ⟨a5, n5, Ha5, Hn5, hV5⟩ := cut_is hV3 3 (by omega)
          rw [List.drop_succ_cons] at hV5
          have hlt5 : Hid (n5 < n) := by show _ < _; have := Hn5.out; omega
          go_wp2_with fail
          go_quiet (fail)
          go_wp2_with (refine wpList_slice_from (by rfl) 25 (.tmp 139) (.const (.int .i64 3)) (by rfl) 5 Tryd.underlying25 info5s (some ⟨b, off, none⟩) n n 3 (by rfl) (by rfl) (by omega) ?_; rw [Ha5.out, Hn5.out])
          go_roundw
          case rel => exact ⟨r.drop 2, lft_of (hV5.below (below_drewN _ _)), hres.out, hB3.trans ((below_drewN _ _).mono hB3.size), by have := hlt5.out; have := hV5.1; omega⟩
          case measure => simp only [vlen]; exact hlt5.out
        · replace hsp := show Hid (utf8 m = _) from hU.out.trans (hsp r)
          go_upto_region 15 with fail
          have hA := own_new wr #[.int .u8 (lo : Int), .int .u8 (hi : Int)] 69
          have hB3 := hB.alloc hB.size (.cells #[.int .u8 (lo : Int), .int .u8 (hi : Int)] 69)
          have hV3 := hV.below (alloc_below wr (.cells #[.int .u8 (lo : Int), .int .u8 (hi : Int)] 69))
          have hbw : b < wr.heap.size := World.block_lt_of_cell? wr _ c0
          obtain ⟨g, Hg⟩ : ∃ g, Hid (wr.heap.size = g) := ⟨_, rfl⟩
          rw [Hg.out] at hA ⊢
          generalize wr.alloc (.cells #[.int .u8 (lo : Int), .int .u8 (hi : Int)] 69) = w3 at hA hB3 hV3 ⊢
          have a0 : w3.cell? ⟨g, 0, none⟩ = some (.int .u8 (lo : Int)) := hA.cell rfl
          have a1 : w3.cell? ⟨g, 1, none⟩ = some (.int .u8 (hi : Int)) := hA.cell rfl
          clear hF hlo hhi c0 hA
          have hrl : Hid (r.length + 1 = n) := by show _ = _; rw [← Hn.out]; simp
          by_cases hl : n < 4
          · have hl' : (n : Int) < 4 := by omega
            have hres : Hid (utf8 m = false) := by show _ = _; rw [hsp.out, if_pos (by have := hrl.out; omega)]
            go_wp2_with fail
            go_quiet (fail)
            go_wp2_with fail
            go_ret
            exact ⟨by rw [hres.out]; rfl, hB3.trans ((below_drewN _ _).mono hB3.size)⟩
          have hl' : 4 ≤ (n : Int) := by omega
          have hld : decide ((n : Int) < 4) = false := decide_eq_false (by omega)
          rw [if_neg (by have := hrl.out; omega)] at hsp
          have i1 : (1 : Int) < (n : Int) := by omega
          obtain ⟨_, _, e, c1⟩ := hV3.at 1 (by omega); cases e
          rw [List.getD_cons_succ] at c1
          generalize r.getD 0 0 = y at *
          have i2 : (2 : Int) < (n : Int) := by omega
          obtain ⟨_, _, e, c2⟩ := hV3.at 2 (by omega); cases e
          rw [List.getD_cons_succ] at c2
          generalize r.getD 1 0 = z at *
          have i3 : (3 : Int) < (n : Int) := by omega
          obtain ⟨_, _, e, c3⟩ := hV3.at 3 (by omega); cases e
          rw [List.getD_cons_succ] at c3
          generalize r.getD 2 0 = u at *
          by_cases k0 : y < (lo : Int)
          · have hres : Hid (utf8 m = false) := by show _ = _; rw [hsp.out, decide_eq_false (by omega), Bool.false_and]
            replace hsp := (show Hid True from trivial)
            go_wp2_with fail
            go_quiet (fail)
            go_wp2_with fail
            go_ret
            exact ⟨by rw [hres.out]; rfl, hB3.trans ((below_drewN _ _).mono hB3.size)⟩
          have d0 : decide (y < (lo : Int)) = false := decide_eq_false k0
          by_cases k1 : (hi : Int) < y
          · have hres : Hid (utf8 m = false) := by show _ = _; rw [hsp.out, decide_eq_false (by omega), Bool.false_and]
            replace hsp := (show Hid True from trivial)
            go_wp2_with fail
            go_quiet (fail)
            go_wp2_with fail
            go_ret
            exact ⟨by rw [hres.out]; rfl, hB3.trans ((below_drewN _ _).mono hB3.size)⟩
          have d1 : decide ((hi : Int) < y) = false := decide_eq_false k1
          by_cases k2 : z < 128
          · have hres : Hid (utf8 m = false) := by show _ = _; rw [hsp.out, decide_eq_false (by omega), Bool.false_and]
            replace hsp := (show Hid True from trivial)
            go_wp2_with fail
            go_quiet (fail)
            go_wp2_with fail
            go_ret
            exact ⟨by rw [hres.out]; rfl, hB3.trans ((below_drewN _ _).mono hB3.size)⟩
          have d2 : decide (z < 128) = false := decide_eq_false k2
          by_cases k3 : (191 : Int) < z
          · have hres : Hid (utf8 m = false) := by show _ = _; rw [hsp.out, decide_eq_false (by omega), Bool.false_and]
            replace hsp := (show Hid True from trivial)
            go_wp2_with fail
            go_quiet (fail)
            go_wp2_with fail
            go_ret
            exact ⟨by rw [hres.out]; rfl, hB3.trans ((below_drewN _ _).mono hB3.size)⟩
          have d3 : decide ((191 : Int) < z) = false := decide_eq_false k3
          by_cases k4 : u < 128
          · have hres : Hid (utf8 m = false) := by show _ = _; rw [hsp.out, decide_eq_false (by omega), Bool.false_and]
            replace hsp := (show Hid True from trivial)
            go_wp2_with fail
            go_quiet (fail)
            go_wp2_with fail
            go_ret
            exact ⟨by rw [hres.out]; rfl, hB3.trans ((below_drewN _ _).mono hB3.size)⟩
          have d4 : decide (u < 128) = false := decide_eq_false k4
          by_cases k5 : (191 : Int) < u
          · have hres : Hid (utf8 m = false) := by show _ = _; rw [hsp.out, decide_eq_false (by omega), Bool.false_and]
            replace hsp := (show Hid True from trivial)
            go_wp2_with fail
            go_quiet (fail)
            go_wp2_with fail
            go_ret
            exact ⟨by rw [hres.out]; rfl, hB3.trans ((below_drewN _ _).mono hB3.size)⟩
          have d5 : decide ((191 : Int) < u) = false := decide_eq_false k5
          have hres : Hid (utf8 m = utf8 (r.drop 3)) := by show _ = _; rw [hsp.out, decide_eq_true (by omega), Bool.true_and]
          obtain ⟨a5, n5, Ha5, Hn5, hV5⟩ := cut_is hV3 4 (by omega)
          rw [List.drop_succ_cons] at hV5
          have hlt5 : Hid (n5 < n) := by show _ < _; have := Hn5.out; omega
          go_wp2_with fail
          go_quiet (fail)
          go_wp2_with (refine wpList_slice_from (by rfl) 25 (.tmp 186) (.const (.int .i64 4)) (by rfl) 5 Tryd.underlying25 info5s (some ⟨b, off, none⟩) n n 4 (by rfl) (by rfl) (by omega) ?_; rw [Ha5.out, Hn5.out])
          go_roundw
          case rel => exact ⟨r.drop 3, lft_of (hV5.below (below_drewN _ _)), hres.out, hB3.trans ((below_drewN _ _).mono hB3.size), by have := hlt5.out; have := hV5.1; omega⟩
          case measure => simp only [vlen]; exact hlt5.out
end Go.Proofs.YtaabcllghniaoaaDoor
