/- The walk of the law ShaExact. -/
import Derived.Test.YtomlekmbkbgnfaaDoorL3
import Derived.Test.YtomlekmbkbgnfaaDoorW9
namespace Go.Proofs.YtomlekmbkbgnfaaDoor
open Go.RowKit

/-- Whole numbers that came in as a slice. -/
def IntsV (w : World) (a : Option Addr) (len cap : Nat) (m : List Int) : Prop :=
  len = m.length ∧ len ≤ cap ∧ cap ≤ maxLen ∧ (0 < len → ∃ b off, a = some ⟨b, off, none⟩ ∧ ∀ i, i < len → w.cell? ⟨b, off + i, none⟩ = some (.int .i64 (m.getD i 0)))

theorem twin_len (a : Option Addr) (len cap : Nat) (m : List Int) (w : World) (hm : BytesV w a len cap m) (hcap : a = none → cap = 0) (hl : len ≤ 1000000) :
    Calls Tryd.prog 8 #[.slice a len cap] w fun e w' => ∃ a' cap', e = .returned (.slice a' len cap') ∧ OwnBytes w' w.heap.size (.slice a' len cap') m ∧ BytesV w' a' len cap' m ∧ w.grownBy w' none := by
  obtain rfl := hm.1
  exact twin_any a cap m w hm hcap hl
theorem ref_len (hr : RefAny) (a : Option Addr) (len cap : Nat) (m : List Int) (w : World) (hm : BytesV w a len cap m) (hcap : a = none → cap = 0) (hl : len ≤ 1000000) :
    Calls Tryd.prog 9 #[.slice a len cap] w fun e w' => e = .returned (.agg (dig m)) ∧ Below w.heap.size w w' := by
  obtain rfl := hm.1
  exact hr a cap m w hm hcap hl
theorem IntsV.below {w w' : World} {a : Option Addr} {len cap : Nat} {m : List Int} (h : IntsV w a len cap m) (hB : Below w.heap.size w w') : IntsV w' a len cap m := by
  obtain ⟨h1, h2, h3, h4⟩ := h
  refine ⟨h1, h2, h3, fun hp => ?_⟩
  obtain ⟨b, off, e, hr⟩ := h4 hp
  exact ⟨b, off, e, fun i hi => by
    have := hr i hi
    rw [hB.cell (World.block_lt_of_cell? w _ this)]; exact this⟩
theorem OwnBytes.nil {w : World} {base : Nat} {a : Option Addr} {len cap : Nat} {xs : List Int} (h : OwnBytes w base (.slice a len cap) xs) : a = none → cap = 0 := by
  rintro rfl
  obtain ⟨h1, ⟨h2, h3⟩ | ⟨g, cap', cur, h2, _⟩⟩ := h
  · injection h2
  · injection h2 with e; cases e
theorem cut_nil {a : Option Addr} {cap q : Nat} (h : a = none → cap = 0) : cutAddr a cap q = none → cap - q = 0 := by
  unfold cutAddr
  split
  · intro _; omega
  · intro e
    cases a with
    | none => rw [h rfl]; omega
    | some x => cases e
theorem OwnBytes.slice {w : World} {base g : Nat} {a : Option Addr} {len cap : Nat} {xs : List Int} (h : OwnBytes w base (.slice a len cap) xs) (hV : BytesV w a len cap xs) (hg : g < base) : SliceOf w g (.slice a len cap) xs := by
  refine ⟨a, len, cap, rfl, hV.1, hV.2.1, hV.2.2.1, hV.2.2.2.1, fun hp => ?_⟩
  obtain ⟨b, off, e, hr⟩ := hV.2.2.2.2 hp
  have := h.base_le (g := b) (by rw [e]; rfl)
  exact ⟨b, off, e, by omega, hr⟩
theorem ShaAt.grownO {w w' : World} {row : Option Nat} {b : Nat} {l : List Int} (h : ShaAt w b l) (hg : w.grownBy w' row) (hb : ∀ g, row = some g → b ≠ g) : ShaAt w' b l := by
  cases row with
  | none => exact h.grown (World.grownBy.but hg (some (b + 1))) (by omega)
  | some g => exact h.grown hg (hb g rfl)
theorem below_of_grown {w w' : World} (h : w.grownBy w' none) : Below w.heap.size w w' := (Below.refl w.heap.size w).grown h (Nat.le_refl _) (fun k e => by cases e)

set_option maxRecDepth 100000 in
set_option maxHeartbeats 4000000 in
theorem exact_any (hr : RefAny) (a : Option Addr) (len cap : Nat) (m : List Int) (c : Option Addr) (cl cc : Nat) (cs : List Int) (w : World) (hm : BytesV w a len cap m) (hn : a = none → cap = 0)
    (hc : IntsV w c cl cc cs) (hT : Tabs w) :
    Calls Tryd.prog 3 #[.slice a len cap, .slice c cl cc] w fun e w' => e = .returned (.bool true) ∧ Below w.heap.size w w' := by
  by_cases hlen : 400 < len
  · have hi : (400 : Int) < (len : Int) := by omega
    go_enter Tryd.func3, Tryd.ntmps3
    go_wp2_with fail
    go_ret
    exact ⟨rfl, Below.refl _ _⟩
  by_cases hcl : 50 < cl
  · have hi : ¬ (400 : Int) < (len : Int) := by omega
    have hi2 : (50 : Int) < (cl : Int) := by omega
    go_enter Tryd.func3, Tryd.ntmps3
    go_wp2_with fail
    go_ret
    exact ⟨rfl, Below.refl _ _⟩
  have hi : ¬ (400 : Int) < (len : Int) := by omega
  have hi2 : ¬ (50 : Int) < (cl : Int) := by omega
  have hlm : len = m.length := hm.1
  have hl4 : len ≤ 400 := by omega
  have HL := show Hid _ from hlm
  clear hlm
  go_enter Tryd.func3, Tryd.ntmps3
  go_wp2_with fail
  refine (twin_len a len cap m w hm hn (by omega)).mono ?_
  rintro e w1 ⟨a1, cap1, rfl, hO1, hV1, hg1⟩
  have hb1 := below_of_grown hg1
  clear hg1
  go_wp2_with fail
  refine (ref_len hr a len cap m w1 (hm.below hb1) hn (by omega)).mono ?_
  rintro e w2 ⟨rfl, hb12⟩
  have hb2 := bel hb1 hb12
  have hO2 := hO1.below hb12
  have hV2 := hV1.below hb12
  clear hb12 hO1 hV1 hb1
  go_upto_region 4 with (refine wpList_store_new (by rfl) 25 (.tmp 6) (.tmp 23) (by rfl) _ (dig m) (by rfl) (by rfl) (dig_info _) (by rw [dig_size]; rfl) (dig_one _) (by rfl) ?_)
  have oX := own_new w2 (dig m) 25
  have hal := (Below.refl w2.heap.size w2).alloc (Nat.le_refl _) (.cells (dig m) 25)
  have hb3 := bel hb2 hal
  have hO3 := hO2.below hal
  have hV3 := hV2.below hal
  have hxz : w.heap.size ≤ w2.heap.size := hb2.size
  generalize w2.alloc (.cells (dig m) 25) = w3 at *
  generalize w2.heap.size = x at *
  clear hal hb2 hO2 hV2
  have e3 := dig_eq m
  have k1 : ∀ d os, Calls Tryd.prog 10 #[.slice a1 len cap1] (Go.Sort.grow (redrawn w3 d) os) fun e w'' => e = .returned (.agg (dig m)) ∧ ∃ p : Regrown, w'' = Go.Sort.grow (redrawn w3 p.d) p.os := fun d os =>
    Calls.regrown_of (sum_any a1 len cap1 m _ (hV3.below (below_regrown w3 d os)) (hT.below (bel hb3 (below_regrown w3 d os))) (by rw [← HL.out]; omega))
  have k2 : ∀ d os, Calls Tryd.prog 11 #[.slice a1 len cap1, .slice a len cap] (Go.Sort.grow (redrawn w3 d) os) fun e w'' => e = .returned (.bool true) ∧ ∃ p : Regrown, w'' = Go.Sort.grow (redrawn w3 p.d) p.os := fun d os =>
    Calls.regrown_of (bytes_any a1 a len cap1 cap m _ (hV3.below (below_regrown w3 d os)) (hm.below (bel hb3 (below_regrown w3 d os))))
  have hX : ∀ w', (∃ p : Regrown, w' = Go.Sort.grow (redrawn w3 p.d) p.os) → Own w' x (dig m) 25 := by rintro w' ⟨p, rfl⟩; exact oX.below (below_regrown w3 _ _) oX.lt
  have K1 := show Hid _ from k1
  have K2 := show Hid _ from k2
  have HX := show Hid _ from hX
  clear k1 k2 hX
  go_wp2_with fail
  refine wp_region_quiet_below (by kernel_rfl) (by kernel_rfl) ?_
  repeat (first
    | go_big_quiet_skip
    | (go_big_quiet_want; first
        | (refine quiet_load_own 25 (.tmp 6) (by rfl) x (by rfl) (dig m) _ 25 HX.out Tryd.underlying25 (by rfl) (dig_info _) ?_; go_simp; go_big_quiet_on)
        | (go_big_quiet_op; first
            | go_big_quiet_on
            | go_big_quiet_call (first
                | (go_at_call 10; exact K1.out _ _)
                | (go_at_call 11; exact K2.out _ _)))))
  refine wpQuiet_nil ?_
  intro _ hw'
  obtain ⟨⟨dq, osq⟩, hw''⟩ := hw'
  subst hw''
  have hbq := below_regrown w3 dq osq
  have hb4 := bel hb3 hbq
  have hO4 := hO3.below hbq
  have hV4 := hV3.below hbq
  have oX4 := oX.below hbq oX.lt
  generalize Go.Sort.grow (redrawn w3 dq) osq = w4 at *
  clear K1 K2 HX hbq hb3 hO3 hV3 oX
  have hm4 := hm.below hb4
  have hc4 := hc.below hb4
  have hT4 := hT.below hb4
  have hgs : 1 < w4.heap.size := hT4.1.1
  have hbase : w.heap.size ≤ w4.heap.size := hb4.size
  have hn1 : a1 = none → cap1 = 0 := hO4.nil
  clear hm hc hT hO4
  go_wp2_with fail
  refine (new_any _).mono ?_
  rintro e w5 ⟨rfl, hS5, hb5, hlt5⟩
  obtain ⟨s, Hs⟩ : ∃ s, Hid (s = w4.heap.size) := ⟨_, rfl⟩
  have hsz : w4.heap.size ≤ s := by rw [Hs.out]; exact Nat.le_refl _
  rw [← Hs.out] at hS5 hgs
  rw [show (some ⟨w4.heap.size, 0, none⟩ : Option Addr) = some ⟨s, 0, none⟩ from by rw [Hs.out]]
  clear Hs hlt5
  go_wp2_with fail
  go_loopw [8, 9] (fun v i wr => ∃ A I : Nat, A ≤ len ∧ I ≤ cl ∧ v = .int .i64 (A : Int) ∧ i = .int .i64 (I : Int) ∧ ShaAt wr s (m.take A) ∧ Below w4.heap.size w4 wr) (fun _ i _ => cl - (intOf i).toNat)
  case atStart => exact ⟨0, 0, Nat.zero_le _, Nat.zero_le _, rfl, rfl, hS5, hb5⟩
  case round =>
    clear hS5 hb5
    obtain ⟨A, I, hA, hI, rfl, rfl, hS, hb⟩ := hrel
    by_cases hgo : I < cl ∧ A < len
    · obtain ⟨hIc, hAl⟩ := hgo
      have hIi : (I : Int) < (cl : Int) := by omega
      have hI0 : (0 : Int) ≤ (I : Int) := by omega
      have hAi : (A : Int) < (len : Int) := by omega
      obtain ⟨cb, co, rfl, hcc⟩ := hc4.2.2.2 (by omega)
      have cI : wr.cell? ⟨cb, co + I, none⟩ = some (.int .i64 (cs.getD I 0)) := by
        have := hcc I hIc
        rw [hb.cell (World.block_lt_of_cell? w4 _ this)]; exact this
      clear hcc
      generalize cs.getD I 0 = y at *
      obtain ⟨N, hN, hNl⟩ := left_over y (len - A) (by omega)
      rw [show ((len - A : Nat) : Int) = (len : Int) - (A : Int) from by omega] at hN
      have HN := show Hid _ from hN
      clear hN
      go_upto_region 15 with fail
      rw [HN.out]
      obtain ⟨B, HB⟩ : ∃ B, Hid (B = A + N) := ⟨_, rfl⟩
      have hBi : (A : Int) + (N : Int) = (B : Int) := by rw [HB.out]; omega
      have hAB : A ≤ B := by rw [HB.out]; omega
      have hBl : B ≤ len := by rw [HB.out]; omega
      have hBli : (B : Int) ≤ 400 := by omega
      have hBc : (B : Int) ≤ (cap : Int) := by have := hm4.2.1; omega
      have hBc1 : B ≤ cap1 := by have := hV4.2.1; omega
      clear HB HN
      go_wp2_with (refine wpList_slice_cut (by rfl) 22 (.tmp 62) (.tmp 63) (.tmp 66) (by rfl) 5 Tryd.underlying22 info5s a1 len cap1 A B (by rfl) (by rfl) (by rfl) hAB hBc1 ?_)
      refine (twin_len _ _ _ _ wr (((hV4.below hb).take B hBl).drop A hAB) (cut_nil hn1) (by omega)).mono ?_
      rintro e w6 ⟨a2, cap2, rfl, hO6, hV6, hg6⟩
      have hb6 := bel hb (below_of_grown hg6)
      have hS6 := hS.below (below_of_grown hg6) hS.lt
      have hsw : s < wr.heap.size := hS.lt
      go_wp2_with fail
      refine (write_any s (m.take A) ((m.take B).drop A) _ _ _ _ hS6 (hO6.slice hV6 hsw) (hT4.below hb6) hgs (by have := HL.out; simp; omega)).mono ?_
      rintro e w7 ⟨rfl, hS7, hg7⟩
      have e7 : m.take A ++ (m.take B).drop A = m.take B := by
        rw [show m.take A = (m.take B).take A from by rw [List.take_take, Nat.min_eq_left hAB], List.take_append_drop]
      rw [e7] at hS7
      have hb7 := belg hb6 hg7 hsz
      have hO7 := hO6.grown hg7 hsw
      clear e7 hS6 hb6 hO6 hg6 hg7
      go_wp2_with fail
      refine (spoil_any wr.heap.size a2 (B - A) cap2 _ w7 hO7 hV6.1 (by omega)).mono ?_
      rintro e w8 ⟨rfl, hg8⟩
      have hS8 := hS7.grownO hg8 (fun g e => by have := hO7.base_le e; omega)
      have hb8 : Below w4.heap.size w4 w8 := hb7.grown hg8 hb7.size (fun g e => Nat.le_trans hb.size (hO7.base_le e))
      clear hS7 hb7 hO7 hg8 hV6 hS hb hsw
      have hlB : (m.take B).length = B := by have := HL.out; simp; omega
      have e3 := dig_eq (m.take B)
      have k1 : ∀ d os, Calls Tryd.prog 15 #[.pointer (some ⟨s, 0, none⟩)] (Go.Sort.grow (redrawn w8 d) os) fun e w'' => e = .returned (.int .i64 B) ∧ ∃ p : Regrown, w'' = Go.Sort.grow (redrawn w8 p.d) p.os := fun d os =>
        (len_any s (m.take B) _ (hS8.below (below_regrown w8 d os) hS8.lt)).mono fun _ _ ⟨h1, h2⟩ => ⟨by rw [h1, hlB], ⟨d, os⟩, h2⟩
      have k2 : ∀ d os, Calls Tryd.prog 16 #[.pointer (some ⟨s, 0, none⟩)] (Go.Sort.grow (redrawn w8 d) os) fun e w'' => e = .returned (.agg (dig (m.take B))) ∧ ∃ p : Regrown, w'' = Go.Sort.grow (redrawn w8 p.d) p.os := fun d os =>
        Calls.regrown_of (sumM_any s (m.take B) _ (hS8.below (below_regrown w8 d os) hS8.lt) (hT4.below (bel hb8 (below_regrown w8 d os))) (by omega))
      have k3 : ∀ d os, Calls Tryd.prog 9 #[.slice a B cap] (Go.Sort.grow (redrawn w8 d) os) fun e w'' => e = .returned (.agg (dig (m.take B))) ∧ ∃ p : Regrown, w'' = Go.Sort.grow (redrawn w8 p.d) p.os := fun d os =>
        Calls.regrown_of (ref_len hr a B cap (m.take B) _ ((hm4.below (bel hb8 (below_regrown w8 d os))).take B hBl) hn (by omega))
      have K1 := show Hid _ from k1
      have K2 := show Hid _ from k2
      have K3 := show Hid _ from k3
      clear k1 k2 k3 hlB
      go_wp2_with fail
      refine wp_region_quiet_below (by kernel_rfl) (by kernel_rfl) ?_
      repeat (first
        | go_big_quiet_skip
        | (go_big_quiet_want; first
            | (go_big_quiet_op; first
                | go_big_quiet_on
                | go_big_quiet_call (first
                    | (go_at_call 15; exact K1.out _ _)
                    | (go_at_call 16; exact K2.out _ _)
                    | (go_at_call 9; exact K3.out _ _)))))
      refine wpQuiet_nil ?_
      intro _ hw'
      obtain ⟨⟨dq, osq⟩, hw''⟩ := hw'
      subst hw''
      have hbq := below_regrown w8 dq osq
      go_wp2_with fail
      refine ⟨⟨B, I + 1, hBl, by omega, rfl, by go_num, hS8.below hbq hS8.lt, bel hb8 hbq⟩, by simp [intOf]; omega⟩
    · have hend : ¬ (I : Int) < (cl : Int) ∨ ((I : Int) < (cl : Int) ∧ ¬ (A : Int) < (len : Int)) := by omega
      have hAl : (A : Int) ≤ (len : Int) := by omega
      have hA0 : (0 : Int) ≤ (A : Int) := by omega
      have hA4 : (A : Int) ≤ 400 := by omega
      clear hgo
      have HE := show Hid _ from hend
      clear hend
      rcases HE.out with h | ⟨h, h'⟩
      all_goals
        go_wp2_with (refine wpList_slice_from (by rfl) 22 (.tmp 91) (.tmp 92) (by rfl) 5 Tryd.underlying22 info5s a1 len cap1 A (by rfl) (by rfl) hA ?_)
        refine (write_any s (m.take A) (m.drop A) _ _ _ _ hS ((hV4.drop A hA).slice hb hsz) (hT4.below hb) hgs (by have := HL.out; simp; omega)).mono ?_
        rintro e W ⟨rfl, hSW, hgW⟩
        rw [List.take_append_drop] at hSW
        have hbW := belg hb hgW hsz
        have hml : m.length ≤ 549755813888 := by have := HL.out; omega
        have k1 : ∀ d os, Calls Tryd.prog 15 #[.pointer (some ⟨s, 0, none⟩)] (Go.Sort.grow (redrawn W d) os) fun e w'' => e = .returned (.int .i64 len) ∧ ∃ p : Regrown, w'' = Go.Sort.grow (redrawn W p.d) p.os := fun d os =>
          (len_any s m _ (hSW.below (below_regrown W d os) hSW.lt)).mono fun _ _ ⟨h1, h2⟩ => ⟨by rw [h1, ← HL.out], ⟨d, os⟩, h2⟩
        have k2 : ∀ d os, Calls Tryd.prog 16 #[.pointer (some ⟨s, 0, none⟩)] (Go.Sort.grow (redrawn W d) os) fun e w'' => e = .returned (.agg (dig m)) ∧ ∃ p : Regrown, w'' = Go.Sort.grow (redrawn W p.d) p.os := fun d os =>
          Calls.regrown_of (sumM_any s m _ (hSW.below (below_regrown W d os) hSW.lt) (hT4.below (bel hbW (below_regrown W d os))) hml)
        have k3 : ∀ d os, Calls Tryd.prog 11 #[.slice a1 len cap1, .slice a len cap] (Go.Sort.grow (redrawn W d) os) fun e w'' => e = .returned (.bool true) ∧ ∃ p : Regrown, w'' = Go.Sort.grow (redrawn W p.d) p.os := fun d os =>
          Calls.regrown_of (bytes_any a1 a len cap1 cap m _ (hV4.below (bel hbW (below_regrown W d os))) (hm4.below (bel hbW (below_regrown W d os))))
        have k4 : ∀ d os, Calls Tryd.prog 17 #[] (Go.Sort.grow (redrawn W d) os) fun e w'' => e = .returned (.bool true) ∧ ∃ p : Regrown, w'' = Go.Sort.grow (redrawn W p.d) p.os := fun d os =>
          Calls.regrown_of (wakes_any _ (hT4.below (bel hbW (below_regrown W d os))))
        have oXW := oX4.below hbW oX4.lt
        have hX : ∀ w', (∃ p : Regrown, w' = Go.Sort.grow (redrawn W p.d) p.os) → Own w' x (dig m) 25 := by rintro w' ⟨p, rfl⟩; exact oXW.below (below_regrown W _ _) oXW.lt
        have K1 := show Hid _ from k1
        have K2 := show Hid _ from k2
        have K3 := show Hid _ from k3
        have K4 := show Hid _ from k4
        have HX := show Hid _ from hX
        clear k1 k2 k3 k4 hX oXW hml hgW hSW
        go_wp2_with fail
        refine wp_region_quiet_below (by kernel_rfl) (by kernel_rfl) ?_
        repeat (first
          | go_big_quiet_skip
          | (go_big_quiet_want; first
              | (refine quiet_load_own 25 (.tmp 6) (by rfl) x (by rfl) (dig m) _ 25 HX.out Tryd.underlying25 (by rfl) (dig_info _) ?_; go_simp; go_big_quiet_on)
              | (go_big_quiet_op; first
                  | go_big_quiet_on
                  | go_big_quiet_call (first
                      | (go_at_call 15; exact K1.out _ _)
                      | (go_at_call 16; exact K2.out _ _)
                      | (go_at_call 11; exact K3.out _ _)
                      | (go_at_call 17; exact K4.out _ _)))))
        refine wpQuiet_nil ?_
        intro _ hw'
        obtain ⟨⟨dq, osq⟩, hw''⟩ := hw'
        subst hw''
        go_wp2
        go_ret
        exact ⟨rfl, bel hb4 (bel hbW (below_regrown W dq osq))⟩
end Go.Proofs.YtomlekmbkbgnfaaDoor
