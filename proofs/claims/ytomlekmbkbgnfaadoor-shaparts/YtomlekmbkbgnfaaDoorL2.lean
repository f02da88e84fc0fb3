/- The walk of the law ShaParts. -/
import Derived.Test.YtomlekmbkbgnfaaDoorK3
namespace Go.Proofs.YtomlekmbkbgnfaaDoor
open Go.RowKit

set_option maxRecDepth 100000 in
set_option maxHeartbeats 2000000 in
theorem parts_any (a : Option Addr) (len cap : Nat) (m : List Int) (p q : Int) (w : World) (hm : BytesV w a len cap m) (hT : Tabs w) :
    Calls Tryd.prog 4 #[.slice a len cap, .int .i64 p, .int .i64 q] w fun e w' => e = .returned (.bool true) ∧ Below w.heap.size w w' := by
  by_cases hlen : 400 < len
  · have hi : (400 : Int) < (len : Int) := by omega
    go_enter Tryd.func4, Tryd.ntmps4
    go_wp2_with fail
    go_ret
    exact ⟨rfl, Below.refl _ _⟩
  · have hi : ¬ (400 : Int) < (len : Int) := by omega
    have hi' : (len : Int) ≤ 400 := by omega
    obtain ⟨P, hP, hPl⟩ := left_over p len (by omega)
    obtain ⟨Q, hQ, hQl⟩ := left_over q P (by omega)
    have HP := show Hid _ from hP
    have HQ := show Hid _ from hQ
    clear hP hQ
    go_enter Tryd.func4, Tryd.ntmps4
    go_upto_region 4 with fail
    rw [HP.out]
    have hPi : (P : Int) ≤ 400 := by omega
    go_upto_region 5 with fail
    rw [HQ.out]
    have hQi : (Q : Int) ≤ (P : Int) := by omega
    have hPc : (P : Int) ≤ (cap : Int) := by have := hm.2.1; omega
    have hQc : (Q : Int) ≤ (cap : Int) := by omega
    have hPli : (P : Int) ≤ (len : Int) := by omega
    clear HP HQ hlen
    go_wp2_with fail
    refine (new_any _).mono ?_
    rintro e w1 ⟨rfl, hS1, hb1, hlt1⟩
    go_wp2_with fail
    refine (new_any _).mono ?_
    rintro e w2 ⟨rfl, hS2, hb2, hlt2⟩
    have hS1' := hS1.below hb2 hlt1
    have hb12 := hb1.trans (hb2.mono hb1.size)
    have hgs : 1 < w.heap.size := hT.1.1
    have hgt : 1 < w1.heap.size := Nat.lt_of_lt_of_le hgs hb1.size
    have hne : w.heap.size ≠ w1.heap.size := by omega
    generalize w1.heap.size = t at *
    clear hS1 hb1 hb2
    obtain ⟨s, Hs⟩ : ∃ s, Hid (s = w.heap.size) := ⟨_, rfl⟩
    have hsz : w.heap.size ≤ s := by rw [Hs.out]; exact Nat.le_refl _
    rw [← Hs.out] at hS1' hgs hne hlt1
    have htz : w.heap.size ≤ t := by omega
    rw [show (some ⟨w.heap.size, 0, none⟩ : Option Addr) = some ⟨s, 0, none⟩ from by rw [Hs.out]]
    have hlm : m.length = len := hm.1.symm
    have hl4 : len ≤ 400 := by omega
    clear Hs
    have HL := show Hid _ from hlm
    clear hlm
    go_wp2_with fail
    -- the first part
    refine (write_any s [] (m.take Q) _ _ _ _ hS1' ((hm.take Q (by omega)).slice hb12 hsz) (hT.below hb12) hgs (by have := HL.out; simp; omega)).mono ?_
    rintro e w3 ⟨rfl, hS3, hg3⟩
    rw [List.nil_append] at hS3
    have hb3 := belg hb12 hg3 hsz
    have hSt3 := hS2.grown hg3 (Ne.symm hne)
    clear hS1' hS2 hb12 hg3 hlt2
    go_wp2_with fail
    refine (sumM_any s (m.take Q) _ hS3 (hT.below hb3) (by have := HL.out; simp; omega)).mono ?_
    rintro e w4 ⟨rfl, hb34⟩
    rw [show (u8s (digest (m.take Q))).toArray = dig (m.take Q) from rfl]
    have hb4 := bel hb3 hb34
    have hS4 := hS3.below hb34 hS3.lt
    have hSt4 := hSt3.below hb34 hSt3.lt
    clear hb34 hS3 hSt3 hb3
    go_upto_region 10 with (refine wpList_store_new (by rfl) 25 (.tmp 9) (.tmp 43) (by rfl) _ (dig (m.take Q)) (by rfl) (by rfl) (dig_info _) (by rw [dig_size]; rfl) (dig_one _) (by rfl) ?_)
    have oX := own_new w4 (dig (m.take Q)) 25
    have hb5 := hb4.alloc hb4.size (.cells (dig (m.take Q)) 25)
    have hS5 := hS4.below ((Below.refl w4.heap.size w4).alloc (Nat.le_refl _) (.cells (dig (m.take Q)) 25)) hS4.lt
    have hSt5 := hSt4.below ((Below.refl w4.heap.size w4).alloc (Nat.le_refl _) (.cells (dig (m.take Q)) 25)) hSt4.lt
    have hxs : w4.heap.size ≠ s := Ne.symm (Nat.ne_of_lt hS4.lt)
    have hxt : w4.heap.size ≠ t := Ne.symm (Nat.ne_of_lt hSt4.lt)
    generalize w4.alloc (.cells (dig (m.take Q)) 25) = w5 at *
    generalize w4.heap.size = x at *
    clear hS4 hSt4 hb4
    -- the second part
    go_wp2_with (refine wpList_slice_cut (by rfl) 22 (.tmp 45) (.tmp 46) (.tmp 47) (by rfl) 5 Tryd.underlying22 info5s a len cap Q P (by rfl) (by rfl) (by rfl) hQl (by omega) ?_)
    have hB2 := (hm.take P (by omega)).drop Q hQl
    refine (write_any s (m.take Q) ((m.take P).drop Q) _ _ _ _ hS5 (hB2.slice hb5 hsz) (hT.below hb5) hgs (by have := HL.out; simp; omega)).mono ?_
    rintro e w6 ⟨rfl, hS6, hg6⟩
    have e6 : m.take Q ++ (m.take P).drop Q = m.take P := by
      rw [show m.take Q = (m.take P).take Q from by rw [List.take_take, Nat.min_eq_left hQl], List.take_append_drop]
    rw [e6] at hS6
    have hb6 := belg hb5 hg6 hsz
    have hSt6 := hSt5.grown hg6 (Ne.symm hne)
    have oX6 := oX.grown hg6 hxs
    clear hS5 hSt5 oX hb5 hg6 hB2 e6
    go_wp2_with fail
    refine (write_any s (m.take P) [] _ _ _ _ hS6 (slice_nil _ _) (hT.below hb6) hgs (by have := HL.out; simp; omega)).mono ?_
    rintro e w7 ⟨rfl, hS7, hg7⟩
    rw [List.append_nil] at hS7
    have hb7 := belg hb6 hg7 hsz
    have hSt7 := hSt6.grown hg7 (Ne.symm hne)
    have oX7 := oX6.grown hg7 hxs
    clear hS6 hSt6 oX6 hb6 hg7
    go_wp2_with fail
    refine (sumM_any s (m.take P) _ hS7 (hT.below hb7) (by have := HL.out; simp; omega)).mono ?_
    rintro e w8 ⟨rfl, hb78⟩
    rw [show (u8s (digest (m.take P))).toArray = dig (m.take P) from rfl]
    have hb8 := bel hb7 hb78
    have hS8 := hS7.below hb78 hS7.lt
    have hSt8 := hSt7.below hb78 hSt7.lt
    have oX8 := oX7.below hb78 oX7.lt
    clear hb78 hS7 hSt7 hb7 oX7
    go_upto_region 13 with (refine wpList_store_new (by rfl) 25 (.tmp 10) (.tmp 53) (by rfl) _ (dig (m.take P)) (by rfl) (by rfl) (dig_info _) (by rw [dig_size]; rfl) (dig_one _) (by rfl) ?_)
    have oY := own_new w8 (dig (m.take P)) 25
    have hb9 := hb8.alloc hb8.size (.cells (dig (m.take P)) 25)
    have hS9 := hS8.below ((Below.refl w8.heap.size w8).alloc (Nat.le_refl _) (.cells (dig (m.take P)) 25)) hS8.lt
    have hSt9 := hSt8.below ((Below.refl w8.heap.size w8).alloc (Nat.le_refl _) (.cells (dig (m.take P)) 25)) hSt8.lt
    have oX9 := oX8.alloc (.cells (dig (m.take P)) 25)
    have hys : w8.heap.size ≠ s := Ne.symm (Nat.ne_of_lt hS8.lt)
    have hyt : w8.heap.size ≠ t := Ne.symm (Nat.ne_of_lt hSt8.lt)
    generalize w8.alloc (.cells (dig (m.take P)) 25) = w9 at *
    generalize w8.heap.size = y at *
    clear hS8 hSt8 hb8 oX8
    -- the third part
    go_wp2_with (refine wpList_slice_from (by rfl) 22 (.tmp 55) (.tmp 56) (by rfl) 5 Tryd.underlying22 info5s a len cap P (by rfl) (by rfl) hPl ?_)
    refine (write_any s (m.take P) (m.drop P) _ _ _ _ hS9 ((hm.drop P hPl).slice hb9 hsz) (hT.below hb9) hgs (by have := HL.out; simp; omega)).mono ?_
    rintro e w10 ⟨rfl, hS10, hg10⟩
    rw [List.take_append_drop] at hS10
    have hb10 := belg hb9 hg10 hsz
    have hSt10 := hSt9.grown hg10 (Ne.symm hne)
    have oX10 := oX9.grown hg10 hxs
    have oY10 := oY.grown hg10 hys
    clear hS9 hSt9 oX9 hb9 hg10 oY
    go_wp2_with fail
    refine (write_any t [] m _ _ _ _ hSt10 (hm.slice hb10 htz) (hT.below hb10) hgt (by have := HL.out; simp; omega)).mono ?_
    rintro e W ⟨rfl, hSt, hg11⟩
    rw [List.nil_append] at hSt
    have hb := belg hb10 hg11 htz
    have hS := hS10.grown hg11 hne
    have oX := oX10.grown hg11 hxt
    have oY := oY10.grown hg11 hyt
    clear hS10 hSt10 oX10 oY10 hg11 hb10
    have hml : m.length ≤ 549755813888 := by have := HL.out; omega
    have k1 : ∀ d os, Calls Tryd.prog 10 #[.slice a Q cap] (Go.Sort.grow (redrawn W d) os) fun e w'' => e = .returned (.agg (dig (m.take Q))) ∧ ∃ p : Regrown, w'' = Go.Sort.grow (redrawn W p.d) p.os := fun d os =>
      Calls.regrown_of (sum_any a Q cap (m.take Q) _ ((hm.take Q (by omega)).below (bel hb (below_regrown W d os))) (hT.below (bel hb (below_regrown W d os))) (by simp; omega))
    have k2 : ∀ d os, Calls Tryd.prog 10 #[.slice a P cap] (Go.Sort.grow (redrawn W d) os) fun e w'' => e = .returned (.agg (dig (m.take P))) ∧ ∃ p : Regrown, w'' = Go.Sort.grow (redrawn W p.d) p.os := fun d os =>
      Calls.regrown_of (sum_any a P cap (m.take P) _ ((hm.take P (by omega)).below (bel hb (below_regrown W d os))) (hT.below (bel hb (below_regrown W d os))) (by simp; omega))
    have k3 : ∀ d os, Calls Tryd.prog 10 #[.slice a len cap] (Go.Sort.grow (redrawn W d) os) fun e w'' => e = .returned (.agg (dig m)) ∧ ∃ p : Regrown, w'' = Go.Sort.grow (redrawn W p.d) p.os := fun d os =>
      Calls.regrown_of (sum_any a len cap m _ (hm.below (bel hb (below_regrown W d os))) (hT.below (bel hb (below_regrown W d os))) hml)
    have k4 : ∀ d os, Calls Tryd.prog 16 #[.pointer (some ⟨s, 0, none⟩)] (Go.Sort.grow (redrawn W d) os) fun e w'' => e = .returned (.agg (dig m)) ∧ ∃ p : Regrown, w'' = Go.Sort.grow (redrawn W p.d) p.os := fun d os =>
      Calls.regrown_of (sumM_any s m _ (hS.below (below_regrown W d os) hS.lt) (hT.below (bel hb (below_regrown W d os))) hml)
    have k5 : ∀ d os, Calls Tryd.prog 16 #[.pointer (some ⟨t, 0, none⟩)] (Go.Sort.grow (redrawn W d) os) fun e w'' => e = .returned (.agg (dig m)) ∧ ∃ p : Regrown, w'' = Go.Sort.grow (redrawn W p.d) p.os := fun d os =>
      Calls.regrown_of (sumM_any t m _ (hSt.below (below_regrown W d os) hSt.lt) (hT.below (bel hb (below_regrown W d os))) hml)
    have k6 : ∀ d os, Calls Tryd.prog 15 #[.pointer (some ⟨s, 0, none⟩)] (Go.Sort.grow (redrawn W d) os) fun e w'' => e = .returned (.int .i64 m.length) ∧ ∃ p : Regrown, w'' = Go.Sort.grow (redrawn W p.d) p.os := fun d os =>
      (len_any s m _ (hS.below (below_regrown W d os) hS.lt)).mono fun _ _ ⟨h1, h2⟩ => ⟨h1, ⟨d, os⟩, h2⟩
    have k7 : ∀ d os, Calls Tryd.prog 15 #[.pointer (some ⟨t, 0, none⟩)] (Go.Sort.grow (redrawn W d) os) fun e w'' => e = .returned (.int .i64 m.length) ∧ ∃ p : Regrown, w'' = Go.Sort.grow (redrawn W p.d) p.os := fun d os =>
      (len_any t m _ (hSt.below (below_regrown W d os) hSt.lt)).mono fun _ _ ⟨h1, h2⟩ => ⟨h1, ⟨d, os⟩, h2⟩
    have k8 : ∀ d os, Calls Tryd.prog 17 #[] (Go.Sort.grow (redrawn W d) os) fun e w'' => e = .returned (.bool true) ∧ ∃ p : Regrown, w'' = Go.Sort.grow (redrawn W p.d) p.os := fun d os =>
      Calls.regrown_of (wakes_any _ (hT.below (bel hb (below_regrown W d os))))
    have hX : ∀ w', (∃ p : Regrown, w' = Go.Sort.grow (redrawn W p.d) p.os) → Own w' x (dig (m.take Q)) 25 := by rintro w' ⟨p, rfl⟩; exact oX.below (below_regrown W _ _) oX.lt
    have hY : ∀ w', (∃ p : Regrown, w' = Go.Sort.grow (redrawn W p.d) p.os) → Own w' y (dig (m.take P)) 25 := by rintro w' ⟨p, rfl⟩; exact oY.below (below_regrown W _ _) oY.lt
    have e1 := dig_eq (m.take Q)
    have e2 := dig_eq (m.take P)
    have e3 := dig_eq m
    have K1 := show Hid _ from k1
    have K2 := show Hid _ from k2
    have K3 := show Hid _ from k3
    have K4 := show Hid _ from k4
    have K5 := show Hid _ from k5
    have K6 := show Hid _ from k6
    have K7 := show Hid _ from k7
    have K8 := show Hid _ from k8
    have HX := show Hid _ from hX
    have HY := show Hid _ from hY
    clear k1 k2 k3 k4 k5 k6 k7 k8 hX hY oX oY hSt hS hml
    go_wp2_with fail
    refine wp_region_quiet_below (by kernel_rfl) (by kernel_rfl) ?_
    repeat (first
      | go_big_quiet_skip
      | (go_big_quiet_want; first
          | (refine quiet_load_own 25 (.tmp 9) (by rfl) x (by rfl) (dig (m.take Q)) _ 25 HX.out Tryd.underlying25 (by rfl) (dig_info _) ?_; go_simp; go_big_quiet_on)
          | (refine quiet_load_own 25 (.tmp 10) (by rfl) y (by rfl) (dig (m.take P)) _ 25 HY.out Tryd.underlying25 (by rfl) (dig_info _) ?_; go_simp; go_big_quiet_on)
          | (go_big_quiet_op; first
              | go_big_quiet_on
              | go_big_quiet_call (first
                  | (go_at_call_of 10 (Value.slice a Q cap); exact K1.out _ _)
                  | (go_at_call_of 10 (Value.slice a P cap); exact K2.out _ _)
                  | (go_at_call_of 10 (Value.slice a len cap); exact K3.out _ _)
                  | (go_at_call_of 16 (Value.pointer (some (Addr.mk s 0 none))); exact K4.out _ _)
                  | (go_at_call_of 16 (Value.pointer (some (Addr.mk t 0 none))); exact K5.out _ _)
                  | (go_at_call_of 15 (Value.pointer (some (Addr.mk s 0 none))); exact K6.out _ _)
                  | (go_at_call_of 15 (Value.pointer (some (Addr.mk t 0 none))); exact K7.out _ _)
                  | (go_at_call 17; exact K8.out _ _)))))
    refine wpQuiet_nil ?_
    intro _ hw'
    obtain ⟨⟨dq, osq⟩, hw''⟩ := hw'
    subst hw''
    go_wp2
    go_ret
    exact ⟨rfl, bel hb (below_regrown W dq osq)⟩
end Go.Proofs.YtomlekmbkbgnfaaDoor
