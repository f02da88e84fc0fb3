/- The law CborNests, over contracts. -/
import Derived.Test.YtaabcllghniaoaaDoorCV
import Derived.Test.YtaabcllghniaoaaDoorCQ
import Derived.Test.YtaabcllghniaoaaDoorCN
namespace Go.Proofs.YtaabcllghniaoaaDoor
open Go Go.RowKit
/-- So many numbers, or so many keys with their values. -/
def nrow (b : Bool) (n : Nat) : List Tk := (List.range n).flatMap fun (i : Nat) => if b then [⟨1, (i : Int), []⟩, ⟨2, (i : Int), []⟩] else [⟨1, (i : Int), []⟩]
theorem nrow_succ (b : Bool) (n : Nat) : nrow b (n + 1) = nrow b n ++ if b then [⟨1, (n : Int), []⟩, ⟨2, (n : Int), []⟩] else [⟨1, (n : Int), []⟩] := by
  rw [nrow, List.range_succ, List.flatMap_append, List.flatMap_singleton]
  rfl
theorem nrow_b (b : Bool) (n : Nat) (t : Tk) (h : t ∈ nrow b n) : t.b = [] := by
  obtain ⟨i, -, hi⟩ := List.mem_flatMap.1 h
  cases b
  · rw [List.mem_singleton.1 hi]
  · rcases List.mem_cons.1 hi with rfl | hi
    · rfl
    · rw [List.mem_singleton.1 hi]
theorem deep_some : ∀ d : Fin 8, (enc (List.replicate d.val ⟨5, 1, []⟩ ++ [⟨1, 0, []⟩])).isSome = decide (d.val ≤ 6) := by decide +kernel
theorem count_some : ∀ (b : Bool) (r : Fin 3), (enc (⟨if b then 6 else 5, ((63 + r.val : Nat) : Int), []⟩ :: nrow b (63 + r.val))).isSome = decide (63 + r.val ≤ 64) := by decide +kernel
theorem num_wf {k n : Nat} (hk : k ≤ 6) (hn : n ≤ 1000) : (⟨(k : Int), (n : Int), []⟩ : Tk).wf := by
  refine ⟨⟨?_, ?_⟩, ?_, ?_⟩ <;> simp only <;> omega
theorem ndec {T : World → Prop} (F : Cbor T) {a : Option Addr} {c : Nat} {w : World} (hT : T w) (h : Txt w a c []) : Calls Tryd.prog 16 #[.slice a 0 c] w fun e w' => (∃ a' c', e = .returned (.tuple #[.slice a' 0 c', .int .i64 3])) ∧ Below w.heap.size w w' := by
  refine Calls.mono (F.decode a c [] (by decide) w hT h) ?_
  rintro e w' ⟨⟨-, a', c', e1, -⟩ | ⟨_, _, _, e1, -⟩, hb⟩
  · exact ⟨⟨a', c', e1⟩, hb⟩
  · rw [dec_nil] at e1; cases e1
theorem ydec {T : World → Prop} (F : Cbor T) {a : Option Addr} {c : Nat} {X : List Int} {A : List Tk} (hx : enc A = some X) {w : World} (hT : T w) (h : Txt w a c X) : Calls Tryd.prog 16 #[.slice a X.length c] w fun e w' => (∃ a' c', e = .returned (.tuple #[.slice a' A.length c', .int .i64 0]) ∧ Toks w' a' c' A) ∧ Below w.heap.size w w' := by
  refine Calls.mono (F.decode a c X (by have := (enc_some hx).2.2; omega) w hT h) ?_
  rintro e w' ⟨⟨hn, -⟩ | ⟨l, a', c', hl, e1, ht⟩, hb⟩
  · rw [dec_iff.2 hx] at hn; cases hn
  · obtain rfl := Option.some.inj (hl.symm.trans (dec_iff.2 hx))
    exact ⟨⟨a', c', e1, ht⟩, hb⟩
theorem mod8 (x : Int) : ∃ r : Nat, wrap64 ((IntKind.u64.wrap x).tmod 8) = (r : Int) ∧ r < 8 := left_of x 8 (by decide) (by decide)
theorem mod3 (x : Int) : ∃ r : Nat, wrap64 ((IntKind.u64.wrap x).tmod 3) = (r : Int) ∧ r < 3 := left_of x 3 (by decide) (by decide)
set_option maxRecDepth 100000 in
set_option maxHeartbeats 8000000 in
theorem cnests_is {T : World → Prop} (F : Cbor T) {p q : Int} {b : Bool} {w : World} (hT : T w) : Calls Tryd.prog 7 #[.int .i64 p, .int .i64 q, .bool b] w fun e w' => e = .returned (.bool true) ∧ Below w.heap.size w w' := by
  have hwk := show Hid _ from cwakes F
  obtain ⟨d, Hd, hd⟩ := mod8 p
  obtain ⟨r, Hr, hr⟩ := mod3 q
  have hd0 : (0 : Int) ≤ (d : Int) := by omega
  have hd8 : (d : Int) < 8 := by omega
  have hr0 : (0 : Int) ≤ (r : Int) := by omega
  have hr3 : (r : Int) < 3 := by omega
  obtain ⟨n, Hn⟩ : ∃ n, Hid (63 + r = n) := ⟨_, rfl⟩
  have hnc : (63 : Int) + (r : Int) = (n : Int) := by have := Hn.out; omega
  have hn65 : n ≤ 65 := by have := Hn.out; omega
  have hD : Hid ((enc (List.replicate d ⟨5, 1, []⟩ ++ [⟨1, 0, []⟩])).isSome = decide (d ≤ 6)) := deep_some ⟨d, hd⟩
  have hC : Hid ((enc (⟨if b then 6 else 5, (n : Int), []⟩ :: nrow b n)).isSome = decide (n ≤ 64)) := by
    show _ = _
    rw [← Hn.out]
    exact count_some b ⟨r, hr⟩
  have hwf1 : Hid ((⟨5, 1, []⟩ : Tk).wf) := num_wf (k := 5) (n := 1) (by decide) (by decide)
  have hwf0 : Hid ((⟨1, 0, []⟩ : Tk).wf) := num_wf (k := 1) (n := 0) (by decide) (by decide)
  go_enter Tryd.func7, Tryd.ntmps7
  go_upto_region 4 with fail
  rw [Hd, Hr]
  go_loopw [7, 9] (fun lv jv wr => ∃ (j : Nat) (l : List Tk) (al : Option Addr) (cl : Nat), j ≤ d ∧ jv = .int .i64 (j : Int) ∧ lv = .slice al l.length cl ∧ Hid (OwnToks wr w.heap.size (.slice al l.length cl) l) ∧ Hid (l = List.replicate j ⟨5, 1, []⟩) ∧ Hid (l.length = j) ∧ Below w.heap.size w wr) (fun _ jv _ => d - (intOf jv).toNat)
  case atStart => exact ⟨0, [], none, 0, Nat.zero_le _, rfl, rfl, ownToks_nil _ _, rfl, rfl, Below.refl _ _⟩
  case round =>
    obtain ⟨j, l, al, cl, hjd, rfl, rfl, hO, hl, hll, hB⟩ := hrel
    have hl7 : (l.length : Int) ≤ 700 := by have := hll.out; omega
    by_cases hj : j < d
    · have hj' : (j : Int) < (d : Int) := by omega
      go_wp2_with (at_builtin; refine wpList_tokapp (by rfl) (.tmp 34) (.tmp 36) (by rfl) w.heap.size (by rfl) (OwnToks.below hO.out (alloc_below _ _)) (by rfl) (show 1 = [(⟨5, 1, []⟩ : Tk)].length from rfl) (toks_one (t := (⟨5, 1, []⟩ : Tk)) (P := fun _ => False) (own_new _ _ _) hwf1.out ⟨none, 0, rfl, txt_nil _⟩ (fun h => absurd h (Nat.lt_irrefl 0))) (fun _ h => h.elim) (by simp only [List.length_cons, List.length_nil]; omega) (hB.alloc hB.size _).size ?_; intro a6 c6 w6 hO6 hb6)
      go_roundw
      case rel =>
        have e : l.length + 1 = (l ++ [(⟨5, 1, []⟩ : Tk)]).length := by rw [List.length_append]; rfl
        refine ⟨j + 1, l ++ [⟨5, 1, []⟩], a6, c6, by omega, by push_cast; rfl, by rw [← e], ?_, ?_, (show _ = _ by rw [← e, hll.out]), (hB.alloc hB.size _).trans hb6⟩
        · rw [← e]
          exact hO6
        · show _ = _
          rw [hl.out, List.replicate_succ']
      case measure => simp only [intOf, Int.toNat_natCast]; omega
    · obtain rfl : j = d := by omega
      have hj' : ¬ (j : Int) < (j : Int) := Int.lt_irrefl _
      clear hj
      have hwfn : Hid ((⟨(if b then 6 else 5), (n : Int), []⟩ : Tk).wf) := by
        cases b
        · exact num_wf (k := 5) (n := n) (by decide) (by omega)
        · exact num_wf (k := 6) (n := n) (by decide) (by omega)
      go_upto_region 8 with (at_builtin; refine wpList_tokapp (by rfl) (.tmp 38) (.tmp 40) (by rfl) w.heap.size (by rfl) (OwnToks.below hO.out (alloc_below _ _)) (by rfl) (show 1 = [(⟨1, 0, []⟩ : Tk)].length from rfl) (toks_one (t := (⟨1, 0, []⟩ : Tk)) (P := fun _ => False) (own_new _ _ _) hwf0.out ⟨none, 0, rfl, txt_nil _⟩ (fun h => absurd h (Nat.lt_irrefl 0))) (fun _ h => h.elim) (by simp only [List.length_cons, List.length_nil]; omega) (hB.alloc hB.size _).size ?_; intro a6 c6 w6 hO6 hb6)
      have hB6 := (hB.alloc hB.size (.cells #[.int .i64 1, .int .i64 0, .slice none 0 0] 45)).trans hb6
      obtain ⟨A, HA⟩ : ∃ A, Hid (l ++ [(⟨1, 0, []⟩ : Tk)] = A) := ⟨_, rfl⟩
      have eA : l.length + 1 = A.length := by rw [← HA.out, List.length_append]; rfl
      have hO6 : Hid (OwnToks w6 w.heap.size (.slice a6 A.length c6) A) := by
        show OwnToks _ _ _ _
        rw [← eA]
        rw [← HA.out]
        exact hO6
      rw [eA]
      have hAs : Hid ((enc A).isSome = decide (j ≤ 6)) := by
        show _ = _
        rw [← HA.out, hl.out]
        exact hD.out
      have hAlight : Hid (Light A) := ⟨by have := hll.out; omega, fun t ht => by
        rw [← HA.out, hl.out] at ht
        rcases List.mem_append.1 ht with h | h
        · rw [(List.mem_replicate.1 h).2]; decide
        · rw [List.mem_singleton.1 h]; decide⟩
      have hA9 : Hid (A.length ≤ 9) := by show _ ≤ _; have := hll.out; omega
      clear eA hl hO hl7 hD hj'
      obtain ⟨K, HK⟩ : ∃ K : Int, Hid ((if b then 6 else 5 : Int) = K) := ⟨_, rfl⟩
      rw [HK.out] at hwfn hC
      cases b
      · have HK' := HK.out
        simp only [Bool.false_eq_true, if_false] at HK'
        subst HK'
        clear HK
        go_upto_region 13 with (at_builtin; refine wpList_tokapp (by rfl) (.tmp 43) (.tmp 47) (by rfl) w6.heap.size (by rfl) (ownToks_nil _ _) (by rfl) (show 1 = [(⟨5, (n : Int), []⟩ : Tk)].length from rfl) (toks_one (t := (⟨5, (n : Int), []⟩ : Tk)) (P := fun _ => False) (own_new _ _ _) hwfn.out ⟨none, 0, rfl, txt_nil _⟩ (fun h => absurd h (Nat.lt_irrefl 0))) (fun _ h => h.elim) (by simp only [List.length_cons, List.length_nil]; omega) (alloc_below w6 _).size ?_; intro a7 c7 w7 hO7 hb7)
        have hb6' : Below w6.heap.size w6 w7 := (alloc_below w6 (.cells #[.int .i64 5, .int .i64 (n : Int), .slice none 0 0] 45)).trans hb7
        go_loopw [8, 11] (fun mv iv wr => ∃ (i : Nat) (lm : List Tk) (am : Option Addr) (cm : Nat), i ≤ n ∧ iv = .int .i64 (i : Int) ∧ mv = .slice am lm.length cm ∧ Hid (OwnToks wr w6.heap.size (.slice am lm.length cm) lm) ∧ Hid (lm = ⟨5, (n : Int), []⟩ :: nrow false i) ∧ Hid (lm.length ≤ 1 + 2 * i) ∧ Below w6.heap.size w6 wr) (fun _ iv _ => n - (intOf iv).toNat)
        case atStart => exact ⟨0, [⟨5, (n : Int), []⟩], a7, c7, Nat.zero_le _, rfl, rfl, hO7, rfl, Nat.le_refl 1, hb6'⟩
        case round =>
          obtain ⟨i, lm, am, cm, hin, rfl, rfl, hOm, hlm, hlml, hbr⟩ := hrel
          have hlm7 : (lm.length : Int) ≤ 700 := by have := hlml.out; omega
          by_cases hi : i < n
          · have hi' : (i : Int) < (n : Int) := by omega
            have hwi : Hid ((⟨1, (i : Int), []⟩ : Tk).wf) := num_wf (k := 1) (n := i) (by decide) (by omega)
            go_wp2_with (at_builtin; refine wpList_tokapp (by rfl) (.tmp 54) (.tmp 57) (by rfl) w6.heap.size (by rfl) (OwnToks.below hOm.out (alloc_below _ _)) (by rfl) (show 1 = [(⟨1, (i : Int), []⟩ : Tk)].length from rfl) (toks_one (t := (⟨1, (i : Int), []⟩ : Tk)) (P := fun _ => False) (own_new _ _ _) hwi.out ⟨none, 0, rfl, txt_nil _⟩ (fun h => absurd h (Nat.lt_irrefl 0))) (fun _ h => h.elim) (by simp only [List.length_cons, List.length_nil]; omega) (hbr.alloc hbr.size _).size ?_; intro a8 c8 w8 hO8 hb8)
            go_roundw
            case rel =>
              have e : lm.length + 1 = (lm ++ [(⟨1, (i : Int), []⟩ : Tk)]).length := by rw [List.length_append]; rfl
              refine ⟨i + 1, lm ++ [(⟨1, (i : Int), []⟩ : Tk)], a8, c8, by omega, by push_cast; rfl, by rw [← e], ?_, ?_, (show _ ≤ _ by rw [← e]; have := hlml.out; omega), (hbr.alloc hbr.size _).trans hb8⟩
              · rw [← e]
                exact hO8
              · show _ = _
                rw [hlm.out, nrow_succ]
                rfl
            case measure => simp only [intOf, Int.toNat_natCast]; omega
          · obtain rfl : i = n := by omega
            have hi' : ¬ (i : Int) < (i : Int) := Int.lt_irrefl _
            have hBs : Hid ((enc lm).isSome = decide (i ≤ 64)) := by
              show _ = _
              rw [hlm.out]
              exact hC.out
            have hBlight : Hid (Light lm) := ⟨by omega, fun t ht => by
              rw [hlm.out] at ht
              rcases List.mem_cons.1 ht with rfl | h
              · exact Nat.zero_le _
              · rw [nrow_b _ _ _ h]; decide⟩
            have hBB := hB6.trans (hbr.mono hB6.size)
            obtain ⟨x1, y1, e1, hTA⟩ := (OwnToks.below hO6.out hbr).form
            simp only [Value.slice.injEq, true_and] at e1
            obtain ⟨rfl, rfl⟩ := e1
            obtain ⟨x2, y2, e2, hTB⟩ := hOm.out.form
            simp only [Value.slice.injEq, true_and] at e2
            obtain ⟨rfl, rfl⟩ := e2
            clear hlm hC hOm hO6 hbr hi
            have hA7 : (A.length : Int) ≤ 9 := by have := hA9.out; omega
            have hE := show Hid _ from F.encode a6 c6 A hAlight.out wr (F.keep _ _ hT hBB) hTA
            go_wp2_with fail
            refine Calls.mono (Hid.out hE) ?_
            rintro e w8 ⟨hS, hb8⟩
            have hB8 := hBB.trans (hb8.mono hBB.size)
            have hTA8 := hTA.below hb8
            have hTB8 := hTB.below hb8
            clear hE
            have hF := show Hid _ from F.encode am cm lm hBlight.out w8 (F.keep _ _ hT hB8) hTB8
            rcases hS with ⟨hnA, a8, c8, rfl, hX8⟩ | ⟨X, a8, c8, hxA, rfl, hO8, hbX⟩
            · have hj6 : ¬ j ≤ 6 := by have := hAs.out; rw [hnA] at this; simpa using this
              have hj6i : ¬ (j : Int) ≤ 6 := by omega
              clear hnA
              go_wp2_with fail
              refine Calls.mono (Hid.out hF) ?_
              rintro e w9 ⟨hS, hb9⟩
              have hB9 := hB8.trans (hb9.mono hB8.size)
              have hTA9 := hTA8.below hb9
              have hTB9 := hTB8.below hb9
              have hXA9 := hX8.below hb9
              clear hF hX8 hTA8 hTB8
              rcases hS with ⟨hnB, a9, c9, rfl, hXB9⟩ | ⟨Z, a9, c9, hxB, rfl, hO9, hbZ⟩
              · have hi6 : ¬ i ≤ 64 := by have := hBs.out; rw [hnB] at this; simpa using this
                have hi6i : ¬ (i : Int) ≤ 64 := by omega
                clear hnB
                go_wp2_with fail
                refine (ndec F (F.keep _ _ hT hB9) hXA9).mono ?_
                rintro e w10 ⟨⟨a10, c10, rfl⟩, hb10⟩
                have hB10 := hB9.trans (hb10.mono hB9.size)
                have hTA10 := hTA9.below hb10
                have hTB10 := hTB9.below hb10
                have hXB10 := hXB9.below hb10
                go_wp2_with fail
                refine (ndec F (F.keep _ _ hT hB10) hXB10).mono ?_
                rintro e w11 ⟨⟨a11, c11, rfl⟩, hb11⟩
                have hB11 := hB10.trans (hb11.mono hB10.size)
                go_wp2_with fail
                refine (hwk.out w11 (F.keep _ _ hT hB11)).mono ?_
                rintro e w14 ⟨rfl, hb14⟩
                go_wp2_with fail
                go_ret
                exact ⟨rfl, hB11.trans (hb14.mono hB11.size)⟩
              · have hi6 : i ≤ 64 := by have := hBs.out; rw [hxB] at this; simpa using this
                have hi6i : (i : Int) ≤ 64 := by omega
                have hXB9 := (txt_same hO9 hbZ).2
                have hZl : (Z.length : Int) ≤ 32768 := by have := (enc_some hxB).2.2; omega
                have hxB := show Hid _ from hxB
                clear hO9 hbZ
                go_wp2_with fail
                refine (ndec F (F.keep _ _ hT hB9) hXA9).mono ?_
                rintro e w10 ⟨⟨a10, c10, rfl⟩, hb10⟩
                have hB10 := hB9.trans (hb10.mono hB9.size)
                have hTA10 := hTA9.below hb10
                have hTB10 := hTB9.below hb10
                have hXB10 := hXB9.below hb10
                go_wp2_with fail
                refine (ydec F hxB.out (F.keep _ _ hT hB10) hXB10).mono ?_
                rintro e w11 ⟨⟨a11, c11, rfl, hT11⟩, hb11⟩
                have hB11 := hB10.trans (hb11.mono hB10.size)
                go_wp2_with fail
                refine (toks_cmp hT11 (hTB10.below hb11)).mono ?_
                rintro e w13 ⟨rfl, hb13⟩
                rw [decide_eq_true rfl]
                have hB13 := hB11.trans (hb13.mono hB11.size)
                go_wp2_with fail
                refine (hwk.out w13 (F.keep _ _ hT hB13)).mono ?_
                rintro e w14 ⟨rfl, hb14⟩
                go_wp2_with fail
                go_ret
                exact ⟨rfl, hB13.trans (hb14.mono hB13.size)⟩
            · have hj6 : j ≤ 6 := by have := hAs.out; rw [hxA] at this; simpa using this
              have hj6i : (j : Int) ≤ 6 := by omega
              have hX8 := (txt_same hO8 hbX).2
              have hXl : (X.length : Int) ≤ 32768 := by have := (enc_some hxA).2.2; omega
              have hxA := show Hid _ from hxA
              clear hO8 hbX
              go_wp2_with fail
              refine Calls.mono (Hid.out hF) ?_
              rintro e w9 ⟨hS, hb9⟩
              have hB9 := hB8.trans (hb9.mono hB8.size)
              have hTA9 := hTA8.below hb9
              have hTB9 := hTB8.below hb9
              have hXA9 := hX8.below hb9
              clear hF hX8 hTA8 hTB8
              rcases hS with ⟨hnB, a9, c9, rfl, hXB9⟩ | ⟨Z, a9, c9, hxB, rfl, hO9, hbZ⟩
              · have hi6 : ¬ i ≤ 64 := by have := hBs.out; rw [hnB] at this; simpa using this
                have hi6i : ¬ (i : Int) ≤ 64 := by omega
                clear hnB
                go_wp2_with fail
                refine (ydec F hxA.out (F.keep _ _ hT hB9) hXA9).mono ?_
                rintro e w10 ⟨⟨a10, c10, rfl, hT10⟩, hb10⟩
                have hB10 := hB9.trans (hb10.mono hB9.size)
                have hTA10 := hTA9.below hb10
                have hTB10 := hTB9.below hb10
                have hXB10 := hXB9.below hb10
                go_wp2_with fail
                refine (ndec F (F.keep _ _ hT hB10) hXB10).mono ?_
                rintro e w11 ⟨⟨a11, c11, rfl⟩, hb11⟩
                have hB11 := hB10.trans (hb11.mono hB10.size)
                go_wp2_with fail
                refine (toks_cmp (hT10.below hb11) (hTA10.below hb11)).mono ?_
                rintro e w12 ⟨rfl, hb12⟩
                rw [decide_eq_true rfl]
                have hB12 := hB11.trans (hb12.mono hB11.size)
                go_wp2_with fail
                refine (hwk.out w12 (F.keep _ _ hT hB12)).mono ?_
                rintro e w14 ⟨rfl, hb14⟩
                go_wp2_with fail
                go_ret
                exact ⟨rfl, hB12.trans (hb14.mono hB12.size)⟩
              · have hi6 : i ≤ 64 := by have := hBs.out; rw [hxB] at this; simpa using this
                have hi6i : (i : Int) ≤ 64 := by omega
                have hXB9 := (txt_same hO9 hbZ).2
                have hZl : (Z.length : Int) ≤ 32768 := by have := (enc_some hxB).2.2; omega
                have hxB := show Hid _ from hxB
                clear hO9 hbZ
                go_wp2_with fail
                refine (ydec F hxA.out (F.keep _ _ hT hB9) hXA9).mono ?_
                rintro e w10 ⟨⟨a10, c10, rfl, hT10⟩, hb10⟩
                have hB10 := hB9.trans (hb10.mono hB9.size)
                have hTA10 := hTA9.below hb10
                have hTB10 := hTB9.below hb10
                have hXB10 := hXB9.below hb10
                go_wp2_with fail
                refine (ydec F hxB.out (F.keep _ _ hT hB10) hXB10).mono ?_
                rintro e w11 ⟨⟨a11, c11, rfl, hT11⟩, hb11⟩
                have hB11 := hB10.trans (hb11.mono hB10.size)
                go_wp2_with fail
                refine (toks_cmp (hT10.below hb11) (hTA10.below hb11)).mono ?_
                rintro e w12 ⟨rfl, hb12⟩
                rw [decide_eq_true rfl]
                have hB12 := hB11.trans (hb12.mono hB11.size)
                go_wp2_with fail
                refine (toks_cmp (hT11.below hb12) ((hTB10.below hb11).below hb12)).mono ?_
                rintro e w13 ⟨rfl, hb13⟩
                rw [decide_eq_true rfl]
                have hB13 := hB12.trans (hb13.mono hB12.size)
                go_wp2_with fail
                refine (hwk.out w13 (F.keep _ _ hT hB13)).mono ?_
                rintro e w14 ⟨rfl, hb14⟩
                go_wp2_with fail
                go_ret
                exact ⟨rfl, hB13.trans (hb14.mono hB13.size)⟩
      · have HK' := HK.out
        simp only [if_true] at HK'
        subst HK'
        clear HK
        go_upto_region 13 with (at_builtin; refine wpList_tokapp (by rfl) (.tmp 43) (.tmp 47) (by rfl) w6.heap.size (by rfl) (ownToks_nil _ _) (by rfl) (show 1 = [(⟨6, (n : Int), []⟩ : Tk)].length from rfl) (toks_one (t := (⟨6, (n : Int), []⟩ : Tk)) (P := fun _ => False) (own_new _ _ _) hwfn.out ⟨none, 0, rfl, txt_nil _⟩ (fun h => absurd h (Nat.lt_irrefl 0))) (fun _ h => h.elim) (by simp only [List.length_cons, List.length_nil]; omega) (alloc_below w6 _).size ?_; intro a7 c7 w7 hO7 hb7)
        have hb6' : Below w6.heap.size w6 w7 := (alloc_below w6 (.cells #[.int .i64 6, .int .i64 (n : Int), .slice none 0 0] 45)).trans hb7
        go_loopw [8, 11] (fun mv iv wr => ∃ (i : Nat) (lm : List Tk) (am : Option Addr) (cm : Nat), i ≤ n ∧ iv = .int .i64 (i : Int) ∧ mv = .slice am lm.length cm ∧ Hid (OwnToks wr w6.heap.size (.slice am lm.length cm) lm) ∧ Hid (lm = ⟨6, (n : Int), []⟩ :: nrow true i) ∧ Hid (lm.length ≤ 1 + 2 * i) ∧ Below w6.heap.size w6 wr) (fun _ iv _ => n - (intOf iv).toNat)
        case atStart => exact ⟨0, [⟨6, (n : Int), []⟩], a7, c7, Nat.zero_le _, rfl, rfl, hO7, rfl, Nat.le_refl 1, hb6'⟩
        case round =>
          obtain ⟨i, lm, am, cm, hin, rfl, rfl, hOm, hlm, hlml, hbr⟩ := hrel
          have hlm7 : (lm.length : Int) ≤ 700 := by have := hlml.out; omega
          by_cases hi : i < n
          · have hi' : (i : Int) < (n : Int) := by omega
            have hwi : Hid ((⟨1, (i : Int), []⟩ : Tk).wf) := num_wf (k := 1) (n := i) (by decide) (by omega)
            have hwj : Hid ((⟨2, (i : Int), []⟩ : Tk).wf) := num_wf (k := 2) (n := i) (by decide) (by omega)
            go_upto_region 17 with (at_builtin; refine wpList_tokapp (by rfl) (.tmp 54) (.tmp 57) (by rfl) w6.heap.size (by rfl) (OwnToks.below hOm.out (alloc_below _ _)) (by rfl) (show 1 = [(⟨1, (i : Int), []⟩ : Tk)].length from rfl) (toks_one (t := (⟨1, (i : Int), []⟩ : Tk)) (P := fun _ => False) (own_new _ _ _) hwi.out ⟨none, 0, rfl, txt_nil _⟩ (fun h => absurd h (Nat.lt_irrefl 0))) (fun _ h => h.elim) (by simp only [List.length_cons, List.length_nil]; omega) (hbr.alloc hbr.size _).size ?_; intro a8 c8 w8 hO8 hb8)
            have hb8' : Below w6.heap.size w6 w8 := (hbr.alloc hbr.size (.cells #[.int .i64 1, .int .i64 (i : Int), .slice none 0 0] 45)).trans hb8
            go_wp2_with (at_builtin; refine wpList_tokapp (by rfl) (.tmp 60) (.tmp 63) (by rfl) w6.heap.size (by rfl) (OwnToks.below hO8 (alloc_below _ _)) (by rfl) (show 1 = [(⟨2, (i : Int), []⟩ : Tk)].length from rfl) (toks_one (t := (⟨2, (i : Int), []⟩ : Tk)) (P := fun _ => False) (own_new _ _ _) hwj.out ⟨none, 0, rfl, txt_nil _⟩ (fun h => absurd h (Nat.lt_irrefl 0))) (fun _ h => h.elim) (by simp only [List.length_append, List.length_cons, List.length_nil]; omega) (hb8'.alloc hb8'.size _).size ?_; intro a9 c9 w9 hO9 hb9)
            go_roundw
            case rel =>
              have e : lm.length + 1 + 1 = (lm ++ [(⟨1, (i : Int), []⟩ : Tk)] ++ [(⟨2, (i : Int), []⟩ : Tk)]).length := by rw [List.length_append, List.length_append]; rfl
              refine ⟨i + 1, lm ++ [(⟨1, (i : Int), []⟩ : Tk)] ++ [(⟨2, (i : Int), []⟩ : Tk)], a9, c9, by omega, by push_cast; rfl, by rw [← e], ?_, ?_, (show _ ≤ _ by rw [← e]; have := hlml.out; omega), (hb8'.alloc hb8'.size _).trans hb9⟩
              · rw [← e]
                have hO9 : OwnToks w9 w6.heap.size (.slice a9 (lm.length + 1 + 1) c9) (lm ++ [(⟨1, (i : Int), []⟩ : Tk)] ++ [(⟨2, (i : Int), []⟩ : Tk)]) := by rw [List.length_append] at hO9; exact hO9
                exact hO9
              · show _ = _
                rw [hlm.out, nrow_succ, if_pos rfl, List.cons_append, List.cons_append, List.append_assoc]
                rfl
            case measure => simp only [intOf, Int.toNat_natCast]; omega
          · obtain rfl : i = n := by omega
            have hi' : ¬ (i : Int) < (i : Int) := Int.lt_irrefl _
            have hBs : Hid ((enc lm).isSome = decide (i ≤ 64)) := by
              show _ = _
              rw [hlm.out]
              exact hC.out
            have hBlight : Hid (Light lm) := ⟨by omega, fun t ht => by
              rw [hlm.out] at ht
              rcases List.mem_cons.1 ht with rfl | h
              · exact Nat.zero_le _
              · rw [nrow_b _ _ _ h]; decide⟩
            have hBB := hB6.trans (hbr.mono hB6.size)
            obtain ⟨x1, y1, e1, hTA⟩ := (OwnToks.below hO6.out hbr).form
            simp only [Value.slice.injEq, true_and] at e1
            obtain ⟨rfl, rfl⟩ := e1
            obtain ⟨x2, y2, e2, hTB⟩ := hOm.out.form
            simp only [Value.slice.injEq, true_and] at e2
            obtain ⟨rfl, rfl⟩ := e2
            clear hlm hC hOm hO6 hbr hi
            have hA7 : (A.length : Int) ≤ 9 := by have := hA9.out; omega
            have hE := show Hid _ from F.encode a6 c6 A hAlight.out wr (F.keep _ _ hT hBB) hTA
            go_wp2_with fail
            refine Calls.mono (Hid.out hE) ?_
            rintro e w8 ⟨hS, hb8⟩
            have hB8 := hBB.trans (hb8.mono hBB.size)
            have hTA8 := hTA.below hb8
            have hTB8 := hTB.below hb8
            clear hE
            have hF := show Hid _ from F.encode am cm lm hBlight.out w8 (F.keep _ _ hT hB8) hTB8
            rcases hS with ⟨hnA, a8, c8, rfl, hX8⟩ | ⟨X, a8, c8, hxA, rfl, hO8, hbX⟩
            · have hj6 : ¬ j ≤ 6 := by have := hAs.out; rw [hnA] at this; simpa using this
              have hj6i : ¬ (j : Int) ≤ 6 := by omega
              clear hnA
              go_wp2_with fail
              refine Calls.mono (Hid.out hF) ?_
              rintro e w9 ⟨hS, hb9⟩
              have hB9 := hB8.trans (hb9.mono hB8.size)
              have hTA9 := hTA8.below hb9
              have hTB9 := hTB8.below hb9
              have hXA9 := hX8.below hb9
              clear hF hX8 hTA8 hTB8
              rcases hS with ⟨hnB, a9, c9, rfl, hXB9⟩ | ⟨Z, a9, c9, hxB, rfl, hO9, hbZ⟩
              · have hi6 : ¬ i ≤ 64 := by have := hBs.out; rw [hnB] at this; simpa using this
                have hi6i : ¬ (i : Int) ≤ 64 := by omega
                clear hnB
                go_wp2_with fail
                refine (ndec F (F.keep _ _ hT hB9) hXA9).mono ?_
                rintro e w10 ⟨⟨a10, c10, rfl⟩, hb10⟩
                have hB10 := hB9.trans (hb10.mono hB9.size)
                have hTA10 := hTA9.below hb10
                have hTB10 := hTB9.below hb10
                have hXB10 := hXB9.below hb10
                go_wp2_with fail
                refine (ndec F (F.keep _ _ hT hB10) hXB10).mono ?_
                rintro e w11 ⟨⟨a11, c11, rfl⟩, hb11⟩
                have hB11 := hB10.trans (hb11.mono hB10.size)
                go_wp2_with fail
                refine (hwk.out w11 (F.keep _ _ hT hB11)).mono ?_
                rintro e w14 ⟨rfl, hb14⟩
                go_wp2_with fail
                go_ret
                exact ⟨rfl, hB11.trans (hb14.mono hB11.size)⟩
              · have hi6 : i ≤ 64 := by have := hBs.out; rw [hxB] at this; simpa using this
                have hi6i : (i : Int) ≤ 64 := by omega
                have hXB9 := (txt_same hO9 hbZ).2
                have hZl : (Z.length : Int) ≤ 32768 := by have := (enc_some hxB).2.2; omega
                have hxB := show Hid _ from hxB
                clear hO9 hbZ
                go_wp2_with fail
                refine (ndec F (F.keep _ _ hT hB9) hXA9).mono ?_
                rintro e w10 ⟨⟨a10, c10, rfl⟩, hb10⟩
                have hB10 := hB9.trans (hb10.mono hB9.size)
                have hTA10 := hTA9.below hb10
                have hTB10 := hTB9.below hb10
                have hXB10 := hXB9.below hb10
                go_wp2_with fail
                refine (ydec F hxB.out (F.keep _ _ hT hB10) hXB10).mono ?_
                rintro e w11 ⟨⟨a11, c11, rfl, hT11⟩, hb11⟩
                have hB11 := hB10.trans (hb11.mono hB10.size)
                go_wp2_with fail
                refine (toks_cmp hT11 (hTB10.below hb11)).mono ?_
                rintro e w13 ⟨rfl, hb13⟩
                rw [decide_eq_true rfl]
                have hB13 := hB11.trans (hb13.mono hB11.size)
                go_wp2_with fail
                refine (hwk.out w13 (F.keep _ _ hT hB13)).mono ?_
                rintro e w14 ⟨rfl, hb14⟩
                go_wp2_with fail
                go_ret
                exact ⟨rfl, hB13.trans (hb14.mono hB13.size)⟩
            · have hj6 : j ≤ 6 := by have := hAs.out; rw [hxA] at this; simpa using this
              have hj6i : (j : Int) ≤ 6 := by omega
              have hX8 := (txt_same hO8 hbX).2
              have hXl : (X.length : Int) ≤ 32768 := by have := (enc_some hxA).2.2; omega
              have hxA := show Hid _ from hxA
              clear hO8 hbX
              go_wp2_with fail
              refine Calls.mono (Hid.out hF) ?_
              rintro e w9 ⟨hS, hb9⟩
              have hB9 := hB8.trans (hb9.mono hB8.size)
              have hTA9 := hTA8.below hb9
              have hTB9 := hTB8.below hb9
              have hXA9 := hX8.below hb9
              clear hF hX8 hTA8 hTB8
              rcases hS with ⟨hnB, a9, c9, rfl, hXB9⟩ | ⟨Z, a9, c9, hxB, rfl, hO9, hbZ⟩
              · have hi6 : ¬ i ≤ 64 := by have := hBs.out; rw [hnB] at this; simpa using this
                have hi6i : ¬ (i : Int) ≤ 64 := by omega
                clear hnB
                go_wp2_with fail
                refine (ydec F hxA.out (F.keep _ _ hT hB9) hXA9).mono ?_
                rintro e w10 ⟨⟨a10, c10, rfl, hT10⟩, hb10⟩
                have hB10 := hB9.trans (hb10.mono hB9.size)
                have hTA10 := hTA9.below hb10
                have hTB10 := hTB9.below hb10
                have hXB10 := hXB9.below hb10
                go_wp2_with fail
                refine (ndec F (F.keep _ _ hT hB10) hXB10).mono ?_
                rintro e w11 ⟨⟨a11, c11, rfl⟩, hb11⟩
                have hB11 := hB10.trans (hb11.mono hB10.size)
                go_wp2_with fail
                refine (toks_cmp (hT10.below hb11) (hTA10.below hb11)).mono ?_
                rintro e w12 ⟨rfl, hb12⟩
                rw [decide_eq_true rfl]
                have hB12 := hB11.trans (hb12.mono hB11.size)
                go_wp2_with fail
                refine (hwk.out w12 (F.keep _ _ hT hB12)).mono ?_
                rintro e w14 ⟨rfl, hb14⟩
                go_wp2_with fail
                go_ret
                exact ⟨rfl, hB12.trans (hb14.mono hB12.size)⟩
              · have hi6 : i ≤ 64 := by have := hBs.out; rw [hxB] at this; simpa using this
                have hi6i : (i : Int) ≤ 64 := by omega
                have hXB9 := (txt_same hO9 hbZ).2
                have hZl : (Z.length : Int) ≤ 32768 := by have := (enc_some hxB).2.2; omega
                have hxB := show Hid _ from hxB
                clear hO9 hbZ
                go_wp2_with fail
                refine (ydec F hxA.out (F.keep _ _ hT hB9) hXA9).mono ?_
                rintro e w10 ⟨⟨a10, c10, rfl, hT10⟩, hb10⟩
                have hB10 := hB9.trans (hb10.mono hB9.size)
                have hTA10 := hTA9.below hb10
                have hTB10 := hTB9.below hb10
                have hXB10 := hXB9.below hb10
                go_wp2_with fail
                refine (ydec F hxB.out (F.keep _ _ hT hB10) hXB10).mono ?_
                rintro e w11 ⟨⟨a11, c11, rfl, hT11⟩, hb11⟩
                have hB11 := hB10.trans (hb11.mono hB10.size)
                go_wp2_with fail
                refine (toks_cmp (hT10.below hb11) (hTA10.below hb11)).mono ?_
                rintro e w12 ⟨rfl, hb12⟩
                rw [decide_eq_true rfl]
                have hB12 := hB11.trans (hb12.mono hB11.size)
                go_wp2_with fail
                refine (toks_cmp (hT11.below hb12) ((hTB10.below hb11).below hb12)).mono ?_
                rintro e w13 ⟨rfl, hb13⟩
                rw [decide_eq_true rfl]
                have hB13 := hB12.trans (hb13.mono hB12.size)
                go_wp2_with fail
                refine (hwk.out w13 (F.keep _ _ hT hB13)).mono ?_
                rintro e w14 ⟨rfl, hb14⟩
                go_wp2_with fail
                go_ret
                exact ⟨rfl, hB13.trans (hb14.mono hB13.size)⟩
end Go.Proofs.YtaabcllghniaoaaDoor
