/- The program's Decode; the program's cbor by contract. -/
import Derived.Test.YtaabcllghniaoaaDoorWI
import Derived.Test.YtaabcllghniaoaaDoorCN
import Derived.Test.YtaabcllghniaoaaDoorCQ
import Derived.Test.YtaabcllghniaoaaDoorCV
namespace Go.Proofs.YtaabcllghniaoaaDoor
open Go Go.RowKit
theorem tx_wf {w : World} {u : Value} {m : List Int} (h : Tx w u m) : Bys m := by
  obtain ⟨a, c, -, hm⟩ := h
  exact hm.1.2.2.2.1
set_option maxRecDepth 100000 in
set_option maxHeartbeats 2000000 in
theorem wdecode_is {w : World} (hT : TU w) {a : Option Addr} {cap : Nat} {m : List Int} (hm : Txt w a cap m) : Calls Tryd.prog 16 #[.slice a m.length cap] w fun e w' => ((dec m = none ∧ e = .returned (.tuple #[.slice none 0 0, .int .i64 3])) ∨ ∃ l a' c', dec m = some l ∧ e = .returned (.tuple #[.slice a' l.length c', .int .i64 0]) ∧ OwnToks w' w.heap.size (.slice a' l.length c') l) ∧ Below w.heap.size w w' := by
  have hlm : (m.length : Int) ≤ 9223372036854775807 := by have h3 := Nat.le_trans hm.1.2.1 hm.1.2.2.1; unfold maxLen at h3; omega
  by_cases hlong : 32768 < m.length
  · have hlong' : (32768 : Int) < (m.length : Int) := by omega
    have hno : Hid (dec m = none) := dec_long hlong
    go_enter Tryd.func16, Tryd.ntmps16
    go_wp2_with fail
    exact bodyPost_ret (results_tmp2 Tryd.results16 _ _ _) rfl ⟨.inl ⟨hno.out, rfl⟩, Below.refl _ _⟩
  have hlong' : ¬ (32768 : Int) < (m.length : Int) := by omega
  have hml : (m.length : Int) ≤ 32768 := by omega
  clear hlm
  go_enter Tryd.func16, Tryd.ntmps16
  go_upto_region 5 with fail
  go_loopw [4, 5] (fun lv qv wr => ∃ q : Nat, qv = .int .i64 (q : Int) ∧ ∃ l al cl, lv = .slice al l.length cl ∧ Hid (Rdt m q l) ∧ Hid (OwnToks wr w.heap.size (.slice al l.length cl) l) ∧ l.length ≤ q ∧ Below w.heap.size w wr) (fun _ qv _ => m.length - (intOf qv).toNat)
  case atStart => exact ⟨0, rfl, [], none, 0, rfl, rdt_start m, ownToks_nil _ _, Nat.le_refl _, Below.refl _ _⟩
  case round =>
    obtain ⟨q, rfl, l, al, cl, rfl, hR, hO, hlq, hB⟩ := hrel
    have hqm := hR.out.1
    by_cases hq : q < m.length
    · have hq' : (q : Int) < (m.length : Int) := by omega
      have hq0 : (0 : Int) ≤ (q : Int) := by omega
      have hcall := show Hid _ from wtoken_is (hm.below hB) (by omega) hq
      go_wp2_with fail
      refine Calls.mono (Hid.out hcall) ?_
      rintro e w2 (⟨hno, rfl, hb2⟩ | ⟨⟨k, n, bb⟩, r, _, hft, hwf, rfl, ⟨ua, uc, rfl, hux⟩, hfr, hb2⟩)
      · have hdn : Hid (dec m = none) := rdt_none hR.out hq hno
        have hB2 := hB.trans (hb2.mono hB.size)
        simp only [tkc]
        clear hno
        go_wp2_with fail
        refine bodyPost_ret (results_tmp2 Tryd.results16 _ _ _) rfl ⟨.inl ⟨hdn.out, rfl⟩, ?_⟩
        exact hB2.alloc hB2.size _
      · obtain ⟨hr1, hr2, hR2⟩ := rdt_next (hm.1.2.2.2.1) hR.out hft
        replace hR2 : Hid (Rdt m (m.length - r.length) (l ++ [⟨k, n, bb⟩])) := hR2
        have hB2 := hB.trans (hb2.mono hB.size)
        have hO2 : Hid (OwnToks w2 w.heap.size (.slice al l.length cl) l) := hO.out.below hb2
        have hwf := show Hid _ from hwf
        have hfr : Hid (∀ g ∈ blks (.slice ua bb.length uc), wr.heap.size ≤ g ∧ g < w2.heap.size) := hfr
        obtain ⟨q2, Hq2⟩ : ∃ z, Hid (m.length - r.length = z) := ⟨_, rfl⟩
        rw [Hq2.out] at hr1 hR2 ⊢
        have hq2m : q2 ≤ m.length := by have := Hq2.out; omega
        simp only [tkc]
        clear hft hcall
        have hA := own_new w2 #[.int .i64 k, .int .i64 n, .slice ua bb.length uc] 45
        have hB3 := hB2.alloc hB2.size (.cells #[.int .i64 k, .int .i64 n, .slice ua bb.length uc] 45)
        have hO3 : Hid (OwnToks (w2.alloc (.cells #[.int .i64 k, .int .i64 n, .slice ua bb.length uc] 45)) w.heap.size (.slice al l.length cl) l) := hO2.out.below (alloc_below _ _)
        have hux3 := hux.below (alloc_below w2 (.cells #[.int .i64 k, .int .i64 n, .slice ua bb.length uc] 45))
        obtain ⟨g6, Hg6⟩ : ∃ z, Hid (w2.heap.size = z) := ⟨_, rfl⟩
        go_upto_region 7 with fail
        rw [Hg6.out] at hA ⊢
        generalize w2.alloc (.cells #[.int .i64 k, .int .i64 n, .slice ua bb.length uc] 45) = w3 at hA hB3 hO3 hux3 ⊢
        obtain ⟨c0, c1, c2⟩ := own_three hA
        have hll : (l.length : Int) ≤ 32768 := by omega
        have hlr : wr.heap.size ≤ w3.heap.size := Nat.le_of_lt (Nat.lt_of_le_of_lt (Nat.le_trans hb2.size (Nat.le_of_eq Hg6.out)) hA.lt)
        go_wp2_with (first
          | refine wpList_load_own (by rfl) 45 (.tmp 6) (by rfl) g6 (by rfl) #[.int .i64 k, .int .i64 n, .slice ua bb.length uc] _ hA Tryd.underlying45 (by rfl) tok_size3 ?_
          | (at_builtin; refine wpList_tokapp (by rfl) (.tmp 25) (.tmp 27) (by rfl) w.heap.size (by rfl) (OwnToks.below hO3.out (alloc_below _ _)) (by rfl) (show 1 = [(⟨k, n, bb⟩ : Tk)].length from rfl) (toks_one (t := ⟨k, n, bb⟩) (P := fun g => wr.heap.size ≤ g) (own_new _ _ _) hwf.out ⟨ua, uc, rfl, hux3.below (alloc_below _ _)⟩ (fun _ g hg => (hfr.out g hg).1)) (fun g' hg' g hg => by have := OwnToks.blk_lt hO.out g hg; omega) (by simp only [List.length_cons, List.length_nil]; omega) (hB3.alloc hB3.size _).size ?_; intro a5 c5 w5 hO5 hb5))
        go_roundw
        case rel =>
          have e : l.length + 1 = (l ++ [(⟨k, n, bb⟩ : Tk)]).length := by rw [List.length_append]; rfl
          refine ⟨q2, rfl, l ++ [⟨k, n, bb⟩], a5, c5, by rw [← e], hR2, ?_, by rw [← e]; omega, (hB3.alloc hB3.size _).trans hb5⟩
          rw [← e]
          exact hO5
        case measure => simp only [intOf, Int.toNat_natCast]; omega
    · obtain rfl : q = m.length := by omega
      have hq' : ¬ (m.length : Int) < (m.length : Int) := by omega
      have hend := show Hid _ from rdt_end hR.out
      obtain ⟨ax, cx, ex, hTk⟩ := hO.out.form
      simp only [Value.slice.injEq] at ex
      obtain ⟨rfl, -, rfl⟩ := ex
      have hcall := show Hid _ from wcheck_is (hT.keep hB) hTk
      clear hqm
      cases he : enc l with
      | none =>
        have hno : Hid (dec m = none) := by show _ = _; rw [hend.out, he]; rfl
        rw [he] at hcall
        simp only [Option.isSome_none, Bool.false_eq_true, if_false] at hcall
        clear he
        go_wp2_with fail
        refine Calls.mono (Hid.out hcall) ?_
        rintro e w2 ⟨rfl, hb2⟩
        have hB2 := hB.trans (hb2.mono hB.size)
        go_wp2_with fail
        exact bodyPost_ret (results_tmp2 Tryd.results16 _ _ _) rfl ⟨.inl ⟨hno.out, rfl⟩, hB2⟩
      | some x =>
        have hyes : Hid (dec m = some l) := by show _ = _; rw [hend.out, he]; rfl
        rw [he] at hcall
        simp only [Option.isSome_some, if_true] at hcall
        clear he
        go_wp2_with fail
        refine Calls.mono (Hid.out hcall) ?_
        rintro e w2 ⟨rfl, hb2⟩
        have hB2 := hB.trans (hb2.mono hB.size)
        go_wp2_with fail
        exact bodyPost_ret (results_tmp2 Tryd.results16 _ _ _) rfl ⟨.inr ⟨l, al, cl, hyes.out, rfl, hO.out.below hb2⟩, hB2⟩
/-- The program's cbor is what the contract says, where UTF-8's tables stand. -/
theorem wcbor : Cbor TU where
  keep := fun _ _ h hB => h.keep hB
  check := fun a c l _ w hT hm => wcheck_is hT hm
  encode := fun a c l _ w hT hm => (wencode_is hT hm).mono fun e w' ⟨h, hB⟩ => ⟨h.imp (fun ⟨h1, h2⟩ => ⟨h1, none, 0, h2, txt_nil _⟩) id, hB⟩
  decode := fun a c m _ w hT hm => (wdecode_is hT hm).mono fun e w' ⟨h, hB⟩ => ⟨h.imp (fun ⟨h1, h2⟩ => ⟨h1, none, 0, h2, toks_none _ _⟩) (fun ⟨l, a', c', h1, h2, h3⟩ => ⟨l, a', c', h1, h2, by
    obtain ⟨ax, cx, ex, hTk⟩ := h3.form
    simp only [Value.slice.injEq] at ex
    obtain ⟨rfl, -, rfl⟩ := ex
    exact hTk⟩), hB⟩
  utf8 := fun a c m _ w hT hm => wutf8_is hT hm
end Go.Proofs.YtaabcllghniaoaaDoor
