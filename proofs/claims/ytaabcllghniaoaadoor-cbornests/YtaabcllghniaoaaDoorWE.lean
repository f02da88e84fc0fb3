/- The program's items. -/
import Derived.Test.YtaabcllghniaoaaDoorWD
import Derived.Test.YtaabcllghniaoaaDoorVC
import Derived.Test.YtaabcllghniaoaaDoorCF
import Derived.Test.YtaabcllghniaoaaDoorWM
namespace Go.Proofs.YtaabcllghniaoaaDoor
open Go Go.RowKit
/-- An item that a writer writes, of a depth. -/
def HI (w0 : World) (d : Nat) : Prop := ∀ (D : Int), D = 7 - (d : Int) → ∀ (w : World) (gw : Nat) (a : Option Addr) (cap : Nat) (L : List Tk) (v : Value) (x : List Int), Wr w0 w gw a cap L v x → Calls Tryd.prog 23 #[.pointer (some ⟨gw, 0, none⟩), .int .i64 D] w fun e w' => WSaid w0 w w' gw v x (item d L) e
/-- What an array, a map holds, of a depth. -/
def HH (w0 : World) (d : Nat) : Prop := ∀ (D : Int), D = 7 - (d : Int) → ∀ (w : World) (gw : Nat) (a : Option Addr) (cap : Nat) (L : List Tk) (v : Value) (x : List Int) (n : Nat) (pairs : Bool), n ≤ 64 → Wr w0 w gw a cap L v x → Calls Tryd.prog 31 #[.pointer (some ⟨gw, 0, none⟩), .int .i64 n, .bool pairs, .int .i64 D] w fun e w' => WSaid w0 w w' gw v x (heldO (item d) n pairs L) e
theorem wsaid_no {w0 w w' : World} {gw : Nat} {v : Value} {x : List Int} {e : Ending} {o : Option (List Int × List Tk)} (h : e = .returned (.bool false)) (hB : Below w0.heap.size w0 w') (ho : o = none) : WSaid w0 w w' gw v x o e := .inl ⟨h, hB, .inl ho⟩
theorem own_blk_lt {w : World} {base : Nat} {v : Value} {xs : List Int} (h : OwnBytes w base v xs) : ∀ g ∈ blks v, g < w.heap.size := fun g hg => by
  obtain ⟨-, ⟨rfl, -⟩ | ⟨b, c, cur, rfl, -, h6, -⟩⟩ := h
  · cases hg
  · obtain rfl : g = b := by simpa [blks] using hg
    exact (Array.getElem?_eq_some_iff.1 h6).1
/-- The row that is left loses its first token. -/
theorem Wr.next {w0 w : World} {gw cap : Nat} {a : Option Addr} {t : Tk} {L : List Tk} {v : Value} {x : List Int} (h : Wr w0 w gw a cap (t :: L) v x) {a' : Option Addr} {n c : Nat} (ha : cutAddr3 a cap 1 = a') (hn : L.length = n) (hc : cap - 1 = c) : Wr w0 (w.setCell ⟨gw, 0, none⟩ (.slice a' n c)) gw a' c L v x := by
  subst ha hn hc
  have hg := grown_setCell w gw 0 (.slice (cutAddr3 a cap 1) L.length (cap - 1))
  refine ⟨below_grown h.below hg h.below.size h.lo, ?_, h.lo, toks_drop1 h.toks, own_apart h.bytes hg h.ne, h.ne, h.bys, h.len⟩
  have := h.own.setCell 0 (.slice (cutAddr3 a cap 1) L.length (cap - 1))
  exact this
set_option maxRecDepth 100000 in
theorem wutf8_is {w : World} {a : Option Addr} {cap : Nat} {m : List Int} (hT : TU w) (hm : Txt w a cap m) : Calls Tryd.prog 20 #[.slice a m.length cap] w fun e w' => e = .returned (.bool (utf8 m)) ∧ Below w.heap.size w w' := by
  have hv := show Hid _ from valid_is hT hm
  go_enter Tryd.func20, Tryd.ntmps20
  go_wp2_with fail
  refine Calls.mono (Hid.out hv) ?_
  rintro e w1 ⟨rfl, hB⟩
  go_wp2_with fail
  go_ret
  exact ⟨rfl, hB⟩
set_option maxRecDepth 100000 in
set_option maxHeartbeats 2000000 in
theorem witem_step {w0 : World} (hT0 : TU w0) (d : Nat) (hd6 : d ≤ 6) (IH : ∀ d', d = d' + 1 → HH w0 d') : HI w0 d := by
  intro D hD w gw a cap L v x hW
  have hD1 : 1 ≤ D := by omega
  have hD7 : D ≤ 7 := by omega
  replace hD := show Hid (D = 7 - (d : Int)) from hD
  have hT : Hid (TU w) := hT0.keep hW.below
  cases L with
  | nil =>
    obtain ⟨c0, c1⟩ := own_two hW.own
    rw [List.length_nil] at c0
    go_enter Tryd.func23, Tryd.ntmps23
    go_wp2_with fail
    go_ret
    exact wsaid_no rfl hW.below (item_nil d)
  | cons t L =>
    obtain ⟨k, n, bb⟩ := t
    obtain ⟨c0, c1⟩ := own_two hW.own
    obtain ⟨N, HN⟩ : ∃ N, Hid (((⟨k, n, bb⟩ : Tk) :: L).length = N) := ⟨_, rfl⟩
    have hN1 : 1 ≤ N := by rw [← HN.out]; simp
    rw [HN.out] at c0
    have hN0 : ((N : Int) == 0) = false := beq_eq_false_iff_ne.2 (by omega)
    have hNp : (0 : Int) < (N : Int) := by omega
    obtain ⟨b, off, rfl, hat⟩ := hW.toks.1.at (i := 0) rfl
    rw [Nat.zero_mul, Nat.add_zero] at hat
    obtain ⟨e1, e2, _, e3, ⟨ta, tc, rfl, htw⟩, -⟩ := hat
    have hbl := World.block_lt_of_cell? w0 _ e1
    have d1 := (hW.below.cell (p := ⟨b, off, none⟩) hbl).trans e1
    have d2 := (hW.below.cell (p := ⟨b, off + 1, none⟩) hbl).trans e2
    have d3 := (hW.below.cell (p := ⟨b, off + 2, none⟩) hbl).trans e3
    clear e1 e2 e3
    have hwf : Hid ((-9223372036854775808 ≤ k ∧ k < 9223372036854775808) ∧ -9223372036854775808 ≤ n ∧ n < 9223372036854775808) := hW.toks.1.2.2.2.1 ⟨k, n, bb⟩ (.head _)
    have hlt := hW.own.lt
    have hW1 := hW.keep (alloc_below w (.cells #[.int .i64 k, .int .i64 n, .slice ta bb.length tc] 45))
    have hA := own_new w #[.int .i64 k, .int .i64 n, .slice ta bb.length tc] 45
    have hG1 : Hid (Gr w (w.alloc (.cells #[.int .i64 k, .int .i64 n, .slice ta bb.length tc] 45)) gw v x.length v) := gr_below (alloc_below w _)
    have hne : w.heap.size ≠ gw := by omega
    have hnb : w.heap.size ∉ blks v := fun h => by have := own_blk_lt hW.bytes _ h; omega
    have hh1 := show Hid _ from hW1
    clear hW hW1
    go_enter Tryd.func23, Tryd.ntmps23
    go_upto_region 4 with fail
    obtain ⟨gt, Hgt⟩ : ∃ g, Hid (w.heap.size = g) := ⟨_, rfl⟩
    rw [Hgt.out] at hA hne hnb ⊢
    generalize w.alloc (.cells #[.int .i64 k, .int .i64 n, .slice ta bb.length tc] 45) = w1 at hh1 hA hG1 ⊢
    obtain ⟨c0, c1⟩ := own_two hh1.out.own
    rw [HN.out] at c0
    have hfz := hh1.out.own.frozen 0
    obtain ⟨a2, Ha2⟩ : ∃ z, Hid (cutAddr3 (some ⟨b, off, none⟩) cap 1 = z) := ⟨_, rfl⟩
    obtain ⟨n2, Hn2⟩ : ∃ z, Hid (N - 1 = z) := ⟨_, rfl⟩
    obtain ⟨c2, Hc2⟩ : ∃ z, Hid (cap - 1 = z) := ⟨_, rfl⟩
    clear d1 d2 d3
    go_upto_region 5 with (refine wpList_slice_from3 (by rfl) 22 (.tmp 23) (.const (.int .i64 1)) (by rfl) 45 Tryd.underlying22 tok_size3 (some ⟨b, off, none⟩) N cap 1 (by rfl) (by rfl) hN1 ?_; rw [Ha2.out, Hn2.out, Hc2.out])
    have hW2 := show Hid _ from hh1.out.next Ha2.out (show L.length = n2 by have h1 := HN.out; have h2 := Hn2.out; rw [List.length_cons] at h1; omega) Hc2.out
    have hA2 := hA.setCell_other (p := ⟨gw, 0, none⟩) (fun e => hne e.symm) (.slice a2 n2 c2)
    have hG2 : Hid (Gr w (w1.setCell ⟨gw, 0, none⟩ (.slice a2 n2 c2)) gw v x.length v) := hG1.out.trans (gr_of (grown_setCell _ _ _ _)) (Nat.le_refl _)
    generalize w1.setCell ⟨gw, 0, none⟩ (.slice a2 n2 c2) = w2 at hW2 hA2 hG2 ⊢
    clear c0 c1 hfz hA hG1 hh1
    obtain ⟨k0, k1, k2⟩ := own_three hA2
    have hT2 : Hid (TU w2) := hT0.keep hW2.out.below
    have htx : Hid (Txt w2 ta tc bb) := htw.below hW2.out.below
    have hbl2 : (bb.length : Int) ≤ 9223372036854775807 := by have h3 := Nat.le_trans htx.out.1.2.1 htx.out.1.2.2.1; unfold maxLen at h3; omega
    by_cases e1 : k = 1
    · subst e1
      by_cases hb0 : bb.length = 0
      · obtain rfl := List.eq_nil_of_length_eq_zero hb0
        rw [List.length_nil] at k2 ⊢
        by_cases hn0 : n < 0
        · have hcall := show Hid _ from whead_no (gw := gw) hW2.out.below 1 n (by decide) (by decide) hn0
          have hno : Hid (item d (⟨1, n, []⟩ :: L) = none) := item_bad d (.inr (.inr hn0)) L
          clear hn0
          go_wp2_with fail
          refine Calls.mono (Hid.out hcall) ?_
          rintro e w3 ⟨rfl, hB3⟩
          go_wp2_with fail
          go_ret
          exact wsaid_no rfl hB3 hno.out
        · obtain ⟨q, rfl⟩ := Int.eq_ofNat_of_zero_le (show 0 ≤ n by omega)
          have hq : q < 9223372036854775808 := by have := hwf.out; omega
          have hcall := show Hid _ from whead_is hW2.out 0 (by decide) 1 (by decide) q hq
          have hyes : Hid (item d (⟨1, (q : Int), []⟩ :: L) = some (hd 0 q, L)) := item_num d hq L
          clear hq hn0
          go_wp2_with fail
          refine Calls.mono (Hid.out hcall) ?_
          rintro e w3 (⟨h1, rfl, v', h2, h3⟩ | ⟨h1, rfl, hB3⟩)
          · go_wp2_with fail
            go_ret
            exact .inr ⟨_, _, _, _, v', hyes.out, rfl, h2, hG2.out.trans h3 (Nat.le_refl _)⟩
          · go_wp2_with fail
            go_ret
            exact .inl ⟨rfl, hB3, .inr ⟨_, _, hyes.out, h1⟩⟩
      · have hbf : ((bb.length : Int) == 0) = false := beq_eq_false_iff_ne.2 (by omega)
        have hno : Hid (item d (⟨1, n, bb⟩ :: L) = none) := item_bad d (.inr (.inl ⟨by omega, by omega⟩)) L
        go_wp2_with fail
        go_ret
        exact wsaid_no rfl hW2.out.below hno.out
    have b1 : (k == 1) = false := beq_eq_false_iff_ne.2 e1
    by_cases e2 : k = 2
    · subst e2
      by_cases hb0 : bb.length = 0
      · obtain rfl := List.eq_nil_of_length_eq_zero hb0
        rw [List.length_nil] at k2 ⊢
        by_cases hn0 : n < 0
        · have hcall := show Hid _ from whead_no (gw := gw) hW2.out.below 2 n (by decide) (by decide) hn0
          have hno : Hid (item d (⟨2, n, []⟩ :: L) = none) := item_bad d (.inr (.inr hn0)) L
          clear hn0
          go_wp2_with fail
          refine Calls.mono (Hid.out hcall) ?_
          rintro e w3 ⟨rfl, hB3⟩
          go_wp2_with fail
          go_ret
          exact wsaid_no rfl hB3 hno.out
        · obtain ⟨q, rfl⟩ := Int.eq_ofNat_of_zero_le (show 0 ≤ n by omega)
          have hq : q < 9223372036854775808 := by have := hwf.out; omega
          have hcall := show Hid _ from whead_is hW2.out 1 (by decide) 2 (by decide) q hq
          have hyes : Hid (item d (⟨2, (q : Int), []⟩ :: L) = some (hd 1 q, L)) := item_neg d hq L
          clear hq hn0
          go_wp2_with fail
          refine Calls.mono (Hid.out hcall) ?_
          rintro e w3 (⟨h1, rfl, v', h2, h3⟩ | ⟨h1, rfl, hB3⟩)
          · go_wp2_with fail
            go_ret
            exact .inr ⟨_, _, _, _, v', hyes.out, rfl, h2, hG2.out.trans h3 (Nat.le_refl _)⟩
          · go_wp2_with fail
            go_ret
            exact .inl ⟨rfl, hB3, .inr ⟨_, _, hyes.out, h1⟩⟩
      · have hbf : ((bb.length : Int) == 0) = false := beq_eq_false_iff_ne.2 (by omega)
        have hno : Hid (item d (⟨2, n, bb⟩ :: L) = none) := item_bad d (.inr (.inl ⟨by omega, by omega⟩)) L
        go_wp2_with fail
        go_ret
        exact wsaid_no rfl hW2.out.below hno.out
    have b2 : (k == 2) = false := beq_eq_false_iff_ne.2 e2
    by_cases e4 : k = 4
    · subst e4
      have hcall := show Hid _ from wutf8_is hT2.out htx.out
      go_wp2_with fail
      refine Calls.mono (Hid.out hcall) ?_
      rintro e w3 ⟨rfl, hB3⟩
      have hW3 := show Hid _ from hW2.out.keep hB3
      have hG3 : Hid (Gr w w3 gw v x.length v) := hG2.out.trans (gr_below hB3) (Nat.le_refl _)
      have hA3 := hA2.below hB3 hA2.lt
      clear k0 k1 k2
      obtain ⟨k0, k1, k2⟩ := own_three hA3
      clear hcall
      cases hu : utf8 bb with
      | false =>
        have hno : Hid (item d (⟨4, n, bb⟩ :: L) = none) := item_notext d hu L
        clear hu
        go_wp2_with fail
        go_ret
        exact wsaid_no rfl hW3.out.below hno.out
      | true =>
      by_cases hn0 : n = 0
      · subst hn0
        have hcall := show Hid _ from whead_is hW3.out 3 (by decide) 4 (by decide) bb.length (by omega)
        have hyes : Hid (item d (⟨4, 0, bb⟩ :: L) = some (hd 3 bb.length ++ bb, L)) := by show _ = _; rw [item_text d (by omega) L, if_pos hu]
        have hlen : Hid ((hd 3 bb.length ++ bb).length = (hd 3 bb.length).length + bb.length) := List.length_append
        go_wp2_with fail
        refine Calls.mono (Hid.out hcall) ?_
        rintro e w4 (⟨h1, rfl, v4, hW4, hG4⟩ | ⟨h1, rfl, hB4⟩)
        · have hput := show Hid _ from wput_is hW4 (htw.below hW4.below)
          replace k2 := (hG4.2.1 gt 2 hA3.lt hne fun hv => absurd hv hnb).trans k2
          have hW4 := show Hid _ from hW4
          have hG4 := show Hid _ from hG4
          go_wp2_with fail
          refine Calls.mono (Hid.out hput) ?_
          rintro e w5 (⟨h5, rfl, v5, hW5, hG5⟩ | ⟨h5, rfl, rfl⟩)
          · rw [List.append_assoc] at hW5
            go_wp2_with fail
            go_ret
            exact .inr ⟨_, _, _, _, v5, hyes.out, rfl, hW5, (hG3.out.trans hG4.out (Nat.le_refl _)).trans hG5 (by rw [List.length_append]; omega)⟩
          · rw [List.length_append] at h5
            go_wp2_with fail
            go_ret
            exact .inl ⟨rfl, hW4.out.below, .inr ⟨_, _, hyes.out, by rw [hlen.out]; omega⟩⟩
        · go_wp2_with fail
          go_ret
          exact .inl ⟨rfl, hB4, .inr ⟨_, _, hyes.out, by rw [hlen.out]; omega⟩⟩
      · have hnf : (n == 0) = false := beq_eq_false_iff_ne.2 hn0
        have hno : Hid (item d (⟨4, n, bb⟩ :: L) = none) := item_bad d (.inl ⟨by omega, hn0⟩) L
        clear hn0
        go_wp2_with fail
        go_ret
        exact wsaid_no rfl hW3.out.below hno.out
    have b4 : (k == 4) = false := beq_eq_false_iff_ne.2 e4
    by_cases e3 : k = 3
    · subst e3
      have hW3 := hW2
      have hG3 := hG2
      have hA3 := hA2
      by_cases hn0 : n = 0
      · subst hn0
        have hcall := show Hid _ from whead_is hW3.out 2 (by decide) 3 (by decide) bb.length (by omega)
        have hyes : Hid (item d (⟨3, 0, bb⟩ :: L) = some (hd 2 bb.length ++ bb, L)) := item_bytes d (by omega) L
        have hlen : Hid ((hd 2 bb.length ++ bb).length = (hd 2 bb.length).length + bb.length) := List.length_append
        go_wp2_with fail
        refine Calls.mono (Hid.out hcall) ?_
        rintro e w4 (⟨h1, rfl, v4, hW4, hG4⟩ | ⟨h1, rfl, hB4⟩)
        · have hput := show Hid _ from wput_is hW4 (htw.below hW4.below)
          replace k2 := (hG4.2.1 gt 2 hA3.lt hne fun hv => absurd hv hnb).trans k2
          have hW4 := show Hid _ from hW4
          have hG4 := show Hid _ from hG4
          go_wp2_with fail
          refine Calls.mono (Hid.out hput) ?_
          rintro e w5 (⟨h5, rfl, v5, hW5, hG5⟩ | ⟨h5, rfl, rfl⟩)
          · rw [List.append_assoc] at hW5
            go_wp2_with fail
            go_ret
            exact .inr ⟨_, _, _, _, v5, hyes.out, rfl, hW5, (hG3.out.trans hG4.out (Nat.le_refl _)).trans hG5 (by rw [List.length_append]; omega)⟩
          · rw [List.length_append] at h5
            go_wp2_with fail
            go_ret
            exact .inl ⟨rfl, hW4.out.below, .inr ⟨_, _, hyes.out, by rw [hlen.out]; omega⟩⟩
        · go_wp2_with fail
          go_ret
          exact .inl ⟨rfl, hB4, .inr ⟨_, _, hyes.out, by rw [hlen.out]; omega⟩⟩
      · have hnf : (n == 0) = false := beq_eq_false_iff_ne.2 hn0
        have hno : Hid (item d (⟨3, n, bb⟩ :: L) = none) := item_bad d (.inl ⟨by omega, hn0⟩) L
        clear hn0
        go_wp2_with fail
        go_ret
        exact wsaid_no rfl hW3.out.below hno.out
    have b3 : (k == 3) = false := beq_eq_false_iff_ne.2 e3
    by_cases e6 : k = 6
    · subst e6
      by_cases hD6 : 6 < D
      · have hno : Hid (item d (⟨6, n, bb⟩ :: L) = none) := item_shut d (by decide) (.inl (by have := hD.out; omega)) L
        go_wp2_with fail
        go_ret
        exact wsaid_no rfl hW2.out.below hno.out
      replace hD7 : D ≤ 6 := by omega
      by_cases h64 : 64 < n
      · have hno : Hid (item d (⟨6, n, bb⟩ :: L) = none) := item_shut d (by decide) (.inr h64) L
        go_wp2_with fail
        go_ret
        exact wsaid_no rfl hW2.out.below hno.out
      by_cases hb0 : 0 < bb.length
      · have hb0' : (0 : Int) < (bb.length : Int) := by omega
        have hno : Hid (item d (⟨6, n, bb⟩ :: L) = none) := item_bad d (.inr (.inl ⟨by decide, hb0⟩)) L
        go_wp2_with fail
        go_ret
        exact wsaid_no rfl hW2.out.below hno.out
      obtain rfl := List.eq_nil_of_length_eq_zero (show bb.length = 0 by omega)
      rw [List.length_nil] at k2 ⊢
      clear hb0
      by_cases hn0 : n < 0
      · have hcall := show Hid _ from whead_no (gw := gw) hW2.out.below 6 n (by decide) (by decide) hn0
        have hno : Hid (item d (⟨6, n, []⟩ :: L) = none) := item_bad d (.inr (.inr hn0)) L
        clear hn0
        go_wp2_with fail
        refine Calls.mono (Hid.out hcall) ?_
        rintro e w3 ⟨rfl, hB3⟩
        go_wp2_with fail
        go_ret
        exact wsaid_no rfl hB3 hno.out
      · obtain ⟨q, rfl⟩ := Int.eq_ofNat_of_zero_le (show 0 ≤ n by omega)
        have hq : q ≤ 64 := by omega
        have hcall := show Hid _ from whead_is hW2.out 5 (by decide) 6 (by decide) q (by omega)
        obtain ⟨d', hd'⟩ : ∃ d', d = d' + 1 := ⟨d - 1, by have := hD.out; omega⟩
        have hIH := show Hid _ from IH d' hd'
        have hyes : Hid (item d (⟨6, (q : Int), []⟩ :: L) = (heldO (item d') q true L).map fun p => (hd 5 q ++ p.1, p.2)) := by
          show _ = _; rw [hd', item_open d' (by decide) hq L]; rfl
        have hDd : Hid (D + 1 = 7 - (d' : Int)) := by show _ = _; rw [hD.out, hd']; omega
        clear hn0
        go_wp2_with fail
        refine Calls.mono (Hid.out hcall) ?_
        rintro e w4 (⟨h1, rfl, v4, hW4, hG4⟩ | ⟨h1, rfl, hB4⟩)
        · have hheld := show Hid _ from hIH.out (D + 1) hDd.out w4 gw a2 c2 L v4 _ q true hq hW4
          replace k1 := (hG4.2.1 gt 1 hA2.lt hne fun hv => absurd hv hnb).trans k1
          have hW4 := show Hid _ from hW4
          have hG4 := show Hid _ from hG4
          clear hq
          go_wp2_with fail
          refine Calls.mono (Hid.out hheld) ?_
          rintro e w5 (⟨rfl, hB5, ho⟩ | ⟨y, R, a5, c5, v5, ho, rfl, hW5, hG5⟩)
          · have ho := show Hid _ from ho
            go_wp2_with fail
            go_ret
            refine .inl ⟨rfl, hB5, ?_⟩
            rcases ho.out with h | ⟨y, R, h, h'⟩
            · exact .inl (by rw [hyes.out, h]; rfl)
            · refine .inr ⟨hd 5 q ++ y, R, (by rw [hyes.out, h]; rfl), ?_⟩
              rw [List.length_append] at h'
              rw [List.length_append]
              omega
          · rw [List.append_assoc] at hW5
            have ho := show Hid _ from ho
            go_wp2_with fail
            go_ret
            exact .inr ⟨_, R, a5, c5, v5, (by rw [hyes.out, ho.out]; rfl), rfl, hW5, (hG2.out.trans hG4.out (Nat.le_refl _)).trans hG5 (by rw [List.length_append]; omega)⟩
        · go_wp2_with fail
          go_ret
          refine .inl ⟨rfl, hB4, ?_⟩
          cases ho : heldO (item d') q true L with
          | none => exact .inl (by rw [hyes.out, ho]; rfl)
          | some p =>
            refine .inr ⟨hd 5 q ++ p.1, p.2, (by rw [hyes.out, ho]; rfl), ?_⟩
            rw [List.length_append]
            omega
    have b6 : (k == 6) = false := beq_eq_false_iff_ne.2 e6
    by_cases e5 : k = 5
    · subst e5
      by_cases hD6 : 6 < D
      · have hno : Hid (item d (⟨5, n, bb⟩ :: L) = none) := item_shut d (by decide) (.inl (by have := hD.out; omega)) L
        go_wp2_with fail
        go_ret
        exact wsaid_no rfl hW2.out.below hno.out
      replace hD7 : D ≤ 6 := by omega
      by_cases h64 : 64 < n
      · have hno : Hid (item d (⟨5, n, bb⟩ :: L) = none) := item_shut d (by decide) (.inr h64) L
        go_wp2_with fail
        go_ret
        exact wsaid_no rfl hW2.out.below hno.out
      by_cases hb0 : 0 < bb.length
      · have hb0' : (0 : Int) < (bb.length : Int) := by omega
        have hno : Hid (item d (⟨5, n, bb⟩ :: L) = none) := item_bad d (.inr (.inl ⟨by decide, hb0⟩)) L
        go_wp2_with fail
        go_ret
        exact wsaid_no rfl hW2.out.below hno.out
      obtain rfl := List.eq_nil_of_length_eq_zero (show bb.length = 0 by omega)
      rw [List.length_nil] at k2 ⊢
      clear hb0
      by_cases hn0 : n < 0
      · have hcall := show Hid _ from whead_no (gw := gw) hW2.out.below 5 n (by decide) (by decide) hn0
        have hno : Hid (item d (⟨5, n, []⟩ :: L) = none) := item_bad d (.inr (.inr hn0)) L
        clear hn0
        go_wp2_with fail
        refine Calls.mono (Hid.out hcall) ?_
        rintro e w3 ⟨rfl, hB3⟩
        go_wp2_with fail
        go_ret
        exact wsaid_no rfl hB3 hno.out
      · obtain ⟨q, rfl⟩ := Int.eq_ofNat_of_zero_le (show 0 ≤ n by omega)
        have hq : q ≤ 64 := by omega
        have hcall := show Hid _ from whead_is hW2.out 4 (by decide) 5 (by decide) q (by omega)
        obtain ⟨d', hd'⟩ : ∃ d', d = d' + 1 := ⟨d - 1, by have := hD.out; omega⟩
        have hIH := show Hid _ from IH d' hd'
        have hyes : Hid (item d (⟨5, (q : Int), []⟩ :: L) = (heldO (item d') q false L).map fun p => (hd 4 q ++ p.1, p.2)) := by
          show _ = _; rw [hd', item_open d' (by decide) hq L]; rfl
        have hDd : Hid (D + 1 = 7 - (d' : Int)) := by show _ = _; rw [hD.out, hd']; omega
        clear hn0
        go_wp2_with fail
        refine Calls.mono (Hid.out hcall) ?_
        rintro e w4 (⟨h1, rfl, v4, hW4, hG4⟩ | ⟨h1, rfl, hB4⟩)
        · have hheld := show Hid _ from hIH.out (D + 1) hDd.out w4 gw a2 c2 L v4 _ q false hq hW4
          replace k1 := (hG4.2.1 gt 1 hA2.lt hne fun hv => absurd hv hnb).trans k1
          have hW4 := show Hid _ from hW4
          have hG4 := show Hid _ from hG4
          clear hq
          go_wp2_with fail
          refine Calls.mono (Hid.out hheld) ?_
          rintro e w5 (⟨rfl, hB5, ho⟩ | ⟨y, R, a5, c5, v5, ho, rfl, hW5, hG5⟩)
          · have ho := show Hid _ from ho
            go_wp2_with fail
            go_ret
            refine .inl ⟨rfl, hB5, ?_⟩
            rcases ho.out with h | ⟨y, R, h, h'⟩
            · exact .inl (by rw [hyes.out, h]; rfl)
            · refine .inr ⟨hd 4 q ++ y, R, (by rw [hyes.out, h]; rfl), ?_⟩
              rw [List.length_append] at h'
              rw [List.length_append]
              omega
          · rw [List.append_assoc] at hW5
            have ho := show Hid _ from ho
            go_wp2_with fail
            go_ret
            exact .inr ⟨_, R, a5, c5, v5, (by rw [hyes.out, ho.out]; rfl), rfl, hW5, (hG2.out.trans hG4.out (Nat.le_refl _)).trans hG5 (by rw [List.length_append]; omega)⟩
        · go_wp2_with fail
          go_ret
          refine .inl ⟨rfl, hB4, ?_⟩
          cases ho : heldO (item d') q false L with
          | none => exact .inl (by rw [hyes.out, ho]; rfl)
          | some p =>
            refine .inr ⟨hd 4 q ++ p.1, p.2, (by rw [hyes.out, ho]; rfl), ?_⟩
            rw [List.length_append]
            omega
    have b5 : (k == 5) = false := beq_eq_false_iff_ne.2 e5
    have hno : Hid (item d (⟨k, n, bb⟩ :: L) = none) := item_kind d e1 e2 e3 e4 e5 e6 L
    go_wp2_with fail
    go_ret
    exact wsaid_no rfl hW2.out.below hno.out
end Go.Proofs.YtaabcllghniaoaaDoor
