/- The law HeadExact, over contracts. -/
import Derived.Test.YthcmcaomnndpcaaHB4
namespace Go.Proofs.Ythcmcaomnndpcaa
open Go Go.RowKit
set_option maxRecDepth 100000 in
set_option maxHeartbeats 4000000 in
theorem hexact_is {T : World → Prop} (F : Hed T) {a : Option Addr} {c : Nat} {m : List Int} (mj n x : Int) (hn2 : n < 9223372036854775808) (hx1 : -9223372036854775808 ≤ x) (hx2 : x < 9223372036854775808) (w : World) (hT : T w) (hm : Txt w a c m) : Calls Try.prog 3 #[.slice a m.length c, .int .i64 mj, .int .i64 n, .int .i64 x] w fun e w' => e = .returned (.bool true) ∧ Below w.heap.size w w' := by
  by_cases hl : 300 < m.length
  · have hl' : (300 : Int) < (m.length : Int) := by omega
    go_enter Try.func3, Try.ntmps3
    go_wp2_with fail
    go_ret
    exact ⟨rfl, Below.refl _ _⟩
  have hl' : ¬ (300 : Int) < (m.length : Int) := by omega
  have hlen : (m.length : Int) ≤ 300 := by omega
  have bm : Bys m := hm.1.2.2.2.1
  obtain ⟨r, Hr⟩ : ∃ r, Hid (hgetR m x = r) := ⟨_, rfl⟩
  have hget : Hid (∀ (a : Option Addr) (c : Nat) w, T w → Txt w a c m → Calls Try.prog 13 #[.slice a m.length c, .int .i64 x] w fun e w' => e = .returned (got r) ∧ Below w.heap.size w w') := fun a c w hT hm => by rw [← Hr.out]; exact F.get x hx1 hx2 a c m (by omega) w hT hm
  have hpget : Hid (∀ (a : Option Addr) (c : Nat) w, Txt w a c m → Calls Try.prog 14 #[.slice a m.length c, .int .i64 x] w fun e w' => e = .returned (got r) ∧ Below w.heap.size w w') := fun a c w hm => by rw [← Hr.out]; exact pget_is x hm (by omega)
  clear hx1 hx2 Hr
  by_cases hv : 0 ≤ mj ∧ mj ≤ 7 ∧ 0 ≤ n
  · obtain ⟨h1, h2, h3⟩ := hv
    obtain ⟨mj, rfl⟩ := Int.eq_ofNat_of_zero_le h1
    obtain ⟨n, rfl⟩ := Int.eq_ofNat_of_zero_le h3
    have hmj : mj ≤ 7 := by omega
    have hn : Hid (n < 9223372036854775808) := by show _ < _; omega
    clear hn2
    obtain ⟨X, HX⟩ : ∃ X, Hid (m ++ hd mj n = X) := ⟨_, rfl⟩
    have bX : Hid (Bys X) := by
      show Bys X
      rw [← HX.out]
      exact fun y hy => (List.mem_append.1 hy).elim (bm y) (hd_bytes hmj y)
    have lX : Hid (X.length ≤ 400 ∧ m.length + (hd mj n).length ≤ 400) := by
      have := hsize_le n
      have e := hd_length mj n
      refine ⟨?_, by omega⟩
      rw [← HX.out, List.length_append]
      omega
    go_enter Try.func3, Try.ntmps3
    go_wp2_with fail
    refine (twin_is hm (by omega)).mono ?_
    rintro e w1 ⟨a1, c1, rfl, hO1, hm1, hb1⟩
    go_wp2_with fail
    refine (F.put mj n hmj hn.out a1 c1 m (by omega) w1 (F.keep _ _ hT hb1) hm1).mono ?_
    rintro e w2 ⟨v, rfl, hO2, hb2⟩
    rw [HX.out] at hO2
    obtain ⟨a2, c2, rfl, hV2⟩ := hO2.form bX.out
    have hm2 : Txt w2 a2 c2 X := ⟨hV2, own_none hO2⟩
    have hlX : (X.length : Int) ≤ 400 := by have := lX.out; omega
    obtain ⟨L, HL⟩ : ∃ L, Hid (X.length = L) := ⟨_, rfl⟩
    rw [HL.out] at hO2 hV2 hlX ⊢
    have hB2 := bel hb1 hb2
    clear hV2 hO1
    go_wp2_with fail
    refine (twin_is (hm.below hB2) (by omega)).mono ?_
    rintro e w3 ⟨a3, c3, rfl, hO3, hm3, hb3⟩
    go_wp2_with fail
    refine (phead_is mj n hmj hn.out w3).mono ?_
    rintro e w4 ⟨a4, c4, rfl, hO4, hb4⟩
    obtain ⟨hs4, hm4⟩ := txt_same hO4 (hd_bytes hmj)
    replace hs4 := show Hid _ from hs4
    have hO3 := hO3.below hb4
    go_wp2_with (at_builtin; refine wpList_app (by rfl) (.tmp 53) (.tmp 56) (by rfl) w2.heap.size (by rfl) hO3 bm (by rfl) hs4.out hm4 (by have := lX.out; omega) (Nat.le_trans hb3.size hb4.size) ?_; intro a5 c5 w5 hO5 hm5 hb5)
    rw [← List.length_append]
    have hB25 := (bel hb3 hb4).trans hb5
    refine (bytes_cmp (show BytesV w5 a2 L c2 X by rw [← HL.out]; exact (hm2.below hB25).1) hm5.1).mono ?_
    rintro e w6 ⟨rfl, hb6⟩
    rw [decide_eq_true HX.out.symm]
    have hB26 := bel hB25 hb6
    have hB16 := bel hb2 hB26
    have hO6 := hO2.below hB26
    clear hO3 hO4 hO5 hm4 hm5 hm3 hO2
    go_wp2_with fail
    refine (spoil_own hO6 (by omega)).mono ?_
    rintro e w7 ⟨rfl, hb7⟩
    go_wp2_with fail
    have hB17 := hB16.trans hb7
    have hBw7 := bel hb1 hB17
    refine Calls.mono (hget.out a1 c1 w7 (F.keep _ _ hT hBw7) (hm1.below hB17)) ?_
    rintro e w8 ⟨rfl, hb8⟩
    unfold got
    go_wp2_with fail
    have hBw8 := bel hBw7 hb8
    refine Calls.mono (hpget.out a c w8 (hm.below hBw8)) ?_
    rintro e w9 ⟨rfl, hb9⟩
    unfold got
    have hBw9 := bel hBw8 hb9
    have hB19 := bel hB17 (bel hb8 hb9)
    have e1 : (r.1 == r.1) = true := beq_self_eq_true _
    have e2 : (r.2.1 == r.2.1) = true := beq_self_eq_true _
    have e3 : (r.2.2.1 == r.2.2.1) = true := beq_self_eq_true _
    have e4 : (r.2.2.2 == r.2.2.2) = true := beq_self_eq_true _
    go_wp2_with fail
    refine (bytes_tx (hm1.below hB19) (hm.below hBw9)).mono ?_
    rintro e w10 ⟨rfl, hb10⟩
    rw [decide_eq_true rfl]
    have hBw10 := bel hBw9 hb10
    go_wp2_with fail
    refine (hwakes F w10 (F.keep _ _ hT hBw10)).mono ?_
    rintro e w11 ⟨rfl, hb11⟩
    go_wp2_with fail
    go_ret
    exact ⟨rfl, bel hBw10 hb11⟩
  · have hm0 := show Hid _ from hm
    have hv' : decide (mj < 0) = true ∨ decide (mj < 0) = false ∧ decide (7 < mj) = true ∨ decide (mj < 0) = false ∧ decide (7 < mj) = false ∧ decide (n < 0) = true := by
      by_cases a1 : mj < 0
      · exact .inl (decide_eq_true a1)
      · by_cases a2 : 7 < mj
        · exact .inr (.inl ⟨decide_eq_false a1, decide_eq_true a2⟩)
        · exact .inr (.inr ⟨decide_eq_false a1, decide_eq_false a2, decide_eq_true (by omega)⟩)
    go_enter Try.func3, Try.ntmps3
    go_wp2_with fail
    refine (twin_is hm (by omega)).mono ?_
    rintro e w1 ⟨a1, c1, rfl, hO1, hm1, hb1⟩
    go_wp2_with fail
    refine (F.put_no mj n hv a1 c1 m (by omega) w1 (F.keep _ _ hT hb1) hm1).mono ?_
    rintro e w6 ⟨a2, c2, rfl, hB16⟩
    clear hO1 hv hn2
    go_upto_region 5 with fail
    rcases hv' with d1 | ⟨d1, d2⟩ | ⟨d1, d2, d3⟩
    all_goals
      go_wp2_with fail
      refine (spoil_none).mono ?_
      rintro e w7 ⟨rfl, rfl⟩
      have hB17 := hB16
      go_wp2_with fail
      have hBw7 := bel hb1 hB17
      refine Calls.mono (hget.out a1 c1 w7 (F.keep _ _ hT hBw7) (hm1.below hB17)) ?_
      rintro e w8 ⟨rfl, hb8⟩
      unfold got
      go_wp2_with fail
      have hBw8 := bel hBw7 hb8
      refine Calls.mono (hpget.out a c w8 (hm.below hBw8)) ?_
      rintro e w9 ⟨rfl, hb9⟩
      unfold got
      have hBw9 := bel hBw8 hb9
      have hB19 := bel hB17 (bel hb8 hb9)
      have e1 : (r.1 == r.1) = true := beq_self_eq_true _
      have e2 : (r.2.1 == r.2.1) = true := beq_self_eq_true _
      have e3 : (r.2.2.1 == r.2.2.1) = true := beq_self_eq_true _
      have e4 : (r.2.2.2 == r.2.2.2) = true := beq_self_eq_true _
      go_wp2_with fail
      refine (bytes_tx (hm1.below hB19) (hm.below hBw9)).mono ?_
      rintro e w10 ⟨rfl, hb10⟩
      rw [decide_eq_true rfl]
      have hBw10 := bel hBw9 hb10
      go_wp2_with fail
      refine (hwakes F w10 (F.keep _ _ hT hBw10)).mono ?_
      rintro e w11 ⟨rfl, hb11⟩
      go_wp2_with fail
      go_ret
      exact ⟨rfl, bel hBw10 hb11⟩
end Go.Proofs.Ythcmcaomnndpcaa
