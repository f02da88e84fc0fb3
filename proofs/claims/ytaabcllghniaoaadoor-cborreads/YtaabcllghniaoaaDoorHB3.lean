/- The page's way of getting a head. -/
import Derived.Test.YtaabcllghniaoaaDoorHB2
import Derived.Test.YtaabcllghniaoaaDoorHBL
import Derived.Test.YtaabcllghniaoaaDoorHBP
import Derived.Test.YtaabcllghniaoaaDoorBF
namespace Go.Proofs.YtaabcllghniaoaaDoor
open Go Go.RowKit
theorem pget_end {a : Option Addr} {cap : Nat} {m : List Int} {x : Int} {w : World} (hm : Txt w a cap m) (hl : m.length ≤ 1000000) (hx : x < 0 ∨ (m.length : Int) ≤ x) : Calls Tryd.prog 34 #[.slice a m.length cap, .int .i64 x] w fun e w' => e = .returned (.tuple #[.int .i64 0, .int .i64 0, .int .i64 0, .int .i64 (if x = (m.length : Int) then 3 else 1)]) ∧ w' = w := by
  have hlen : (m.length : Int) ≤ 1000000 := by omega
  by_cases h : x = (m.length : Int)
  · subst h
    have hin : decide ((0 : Int) ≤ (m.length : Int) ∧ (m.length : Int) ≤ (m.length : Int)) = true := decide_eq_true ⟨by omega, by omega⟩
    have hq : ((m.length : Int) == (m.length : Int)) = true := beq_self_eq_true _
    rw [if_pos rfl]
    go_enter Tryd.func34, Tryd.ntmps34
    go_wp2_with fail
    refine (pin_is _ _ _ _).mono ?_
    rintro e w' ⟨rfl, rfl⟩
    rw [hin]
    go_wp2_with fail
    refine bodyPost_ret (results_tmp4 Tryd.results34 _ _ _) rfl ⟨rfl, rfl⟩
  · have hin : decide ((0 : Int) ≤ x ∧ x ≤ (m.length : Int)) = false := decide_eq_false (by omega)
    rw [if_neg h]
    go_enter Tryd.func34, Tryd.ntmps34
    go_wp2_with fail
    refine (pin_is _ _ _ _).mono ?_
    rintro e w' ⟨rfl, rfl⟩
    rw [hin]
    go_wp2_with fail
    refine bodyPost_ret (results_tmp4 Tryd.results34 _ _ _) rfl ⟨rfl, rfl⟩
set_option maxRecDepth 100000 in
set_option maxHeartbeats 4000000 in
theorem pget_in {a : Option Addr} {cap : Nat} {m : List Int} {at_ c : Nat} {w : World} (hm : Txt w a cap m) (hl : m.length ≤ 1000000) (hx : at_ < m.length) (hc : m.getD at_ 0 = (c : Int)) : Calls Tryd.prog 34 #[.slice a m.length cap, .int .i64 at_] w fun e w' => e = .returned (.tuple #[.int .i64 (hgetR m at_).1, .int .i64 (hgetR m at_).2.1, .int .i64 (hgetR m at_).2.2.1, .int .i64 (hgetR m at_).2.2.2]) ∧ Below w.heap.size w w' := by
  have hlen : (m.length : Int) ≤ 1000000 := by omega
  have hx' : (at_ : Int) < (m.length : Int) := by omega
  have hx0 : (0 : Int) ≤ (at_ : Int) := by omega
  obtain ⟨b, off, rfl, c0⟩ := hm.1.at at_ hx
  rw [hc] at c0
  have hcb : c < 256 := by
    have := hm.1.2.2.2.1 (m.getD at_ 0) (by simp [List.getD, hx])
    omega
  have hin : decide ((0 : Int) ≤ (at_ : Int) ∧ (at_ : Int) ≤ (m.length : Int)) = true := decide_eq_true ⟨by omega, by omega⟩
  have hq : ((at_ : Int) == (m.length : Int)) = false := beq_eq_false_iff_ne.2 (by omega)
  obtain ⟨r, Hr⟩ : ∃ r, Hid (hgetR m at_ = r) := ⟨_, rfl⟩
  rw [Hr.out]
  have hc8 : (c : Int) < 256 := by omega
  have hc0 : (0 : Int) ≤ (c : Int) := by omega
  have hcap : m.length ≤ cap := hm.1.2.1
  have hcap' : (m.length : Int) ≤ (cap : Int) := by omega
  go_enter Tryd.func34, Tryd.ntmps34
  go_wp2_with fail
  refine (pin_is _ _ _ _).mono ?_
  rintro e w' ⟨rfl, rfl⟩
  rw [hin]
  go_upto_region 7 with fail
  obtain ⟨mj, Hmj⟩ : ∃ x : Nat, Hid (c / 32 = x) := ⟨_, rfl⟩
  obtain ⟨low, Hlow⟩ : ∃ x : Nat, Hid (c % 32 = x) := ⟨_, rfl⟩
  have hmj : mj ≤ 7 := by have := Hmj.out; omega
  rw [show (c : Int) / 32 = (mj : Int) by have := Hmj.out; omega, show (c : Int) % 32 = (low : Int) by have := Hlow.out; omega]
  have bm : Bys m := hm.1.2.2.2.1
  have hnone : Hid ((27 < low ∨ m.length - (at_ + 1) < lsize low) → r = (0, 0, 0, 3)) := fun h => by rw [← Hr.out]; exact hgetR_none hx hc (by rw [Hlow.out]; exact h)
  have hsome : Hid (∀ n, low ≤ 27 → lsize low ≤ m.length - (at_ + 1) → hnum low (m.drop (at_ + 1)) = n → n < 9223372036854775808 → r = if hd mj n = (c : Int) :: (m.drop (at_ + 1)).take (lsize low) then ((mj : Int), (n : Int), (at_ : Int) + ((1 + lsize low : Nat) : Int), 0) else (0, 0, 0, 3)) := fun n h1 h2 h3 h4 => by
    rw [← Hr.out]
    have := hgetR_some (n := n) hx hc (by rw [Hlow.out]; exact h1) (by rw [Hlow.out]; exact h2) (by rw [Hlow.out]; exact h3) h4
    rw [Hlow.out, Hmj.out] at this
    exact this
  have hbig : Hid (9223372036854775808 ≤ hnum low (m.drop (at_ + 1)) → r = (0, 0, 0, 3)) := fun h => by rw [← Hr.out]; exact hgetR_big hx hc (by rw [Hlow.out]; exact h)
  clear Hr Hmj Hlow
  by_cases k24 : low = 24
  · subst k24
    by_cases k : m.length - (at_ + 1) < 1
    · have hk : (m.length : Int) - (at_ : Int) - 1 < 1 := by omega
      have hr := show Hid _ from hnone.out (.inr k)
      go_wp2_with fail
      refine bodyPost_ret (results_tmp4 Tryd.results34 _ _ _) rfl ⟨?_, Below.refl _ _⟩
      rw [hr.out]
      rfl
    · have hk : ¬ (m.length : Int) - (at_ : Int) - 1 < 1 := by omega
      go_upto_region 23 with fail
      go_loop [5, 10] (fun nv iv => ∃ i : Nat, i ≤ 1 ∧ iv = .int .i64 (i : Int) ∧ nv = .int .i64 ((val 0 ((m.drop (at_ + 1)).take i) : Nat) : Int)) (fun _ iv => 1 - (intOf iv).toNat)
      case atStart => exact ⟨0, by decide, rfl, rfl⟩
      case round =>
        obtain ⟨i, hi, rfl, rfl⟩ := hrel
        by_cases hlt : i < 1
        · have hi' : (i : Int) < 1 := by omega
          have hi0 : (0 : Int) ≤ (i : Int) := by omega
          obtain ⟨b2, off2, e2, c1⟩ := hm.1.at (at_ + 1 + i) (by omega)
          simp only [Option.some.injEq, Addr.mk.injEq, and_true] at e2
          obtain ⟨rfl, rfl⟩ := e2
          have hxb := bm _ (getD_mem (show at_ + 1 + i < m.length by omega))
          obtain ⟨x, Hx⟩ : ∃ x : Nat, Hid (m.getD (at_ + 1 + i) 0 = (x : Int)) := ⟨(m.getD (at_ + 1 + i) 0).toNat, (Int.toNat_of_nonneg hxb.1).symm⟩
          rw [Hx.out] at c1 hxb
          obtain ⟨y, Hy⟩ : ∃ y : Nat, Hid (val 0 ((m.drop (at_ + 1)).take i) = y) := ⟨_, rfl⟩
          have hy2 := val_small m bm (at_ + 1) 1 (i + 1) hlt (by decide) (fun e => absurd e (by decide)) (by omega)
          have Hy2 : Hid (val 0 ((m.drop (at_ + 1)).take (i + 1)) = y * 256 + x) := by
            show _ = _
            rw [getD_drop m (at_ + 1) i (by omega), val_snoc, Hy.out, Hx.out, Int.toNat_natCast]
          rw [Hy2.out] at hy2
          rw [Hy.out]
          have hor := or_i64 (x := y) (y := x) (by omega) hy2
          have hyb : (y : Int) * 256 + (x : Int) < 9223372036854775808 := by omega
          have hy0 : (0 : Int) ≤ (y : Int) := by omega
          have hyb' : (y : Int) < 36028797018963968 := by omega
          go_wp2_with fail
          go_round
          case rel => exact ⟨i + 1, hlt, by go_num, by rw [Hy2.out]; push_cast; rfl⟩
          case measure => simp [intOf]; omega
        · obtain rfl : i = 1 := by omega
          have hi' : ¬ ((1 : Nat) : Int) < 1 := by omega
          obtain ⟨n, Hn⟩ : ∃ n, Hid (val 0 ((m.drop (at_ + 1)).take 1) = n) := ⟨_, rfl⟩
          have hn63 : Hid (n < 9223372036854775808) := by
            show _ < _
            rw [← Hn.out]
            exact val_small m bm (at_ + 1) 1 1 (Nat.le_refl _) (by decide) (fun e => absurd e (by decide)) (by omega)
          rw [Hn.out]
          have hcs : Hid ((m.drop at_).take 2 = (c : Int) :: (m.drop (at_ + 1)).take 1) := by show _ = _; rw [List.drop_eq_getElem_cons hx, List.take_succ_cons]; congr 1; rw [← hc]; simp [List.getD, hx]
          obtain ⟨v, Hv⟩ : ∃ v, Hid (decide (hd mj n = (m.drop at_).take 2) = v) := ⟨_, rfl⟩
          go_upto_region 26 with fail
          have hK := Kp.nil w'
          refine wp_region_lv 101 (fun _ => []) [.v (.int .i64 mj), .v (.int .i64 n), .ow (txR (hd mj n)), .v (.slice (some ⟨b, off, none⟩) m.length cap), .v (.int .i64 at_), .v (.int .i64 at_), .v (.int .i64 ((at_ : Int) + 1)), .v (.int .i64 1), .v (.int .i64 ((at_ : Int) + 2)), .v (.slice (some ⟨b, off + at_, none⟩) 2 (cap - at_)), .v (.bool v), .v (.bool (!v))] hK (by kernel_rfl) (by kernel_rfl) (by kernel_rfl) (by rfl) ?_ ?_
          · refine .c (.p1 4 (.int .i64 mj)) <| .c (.p1 5 (.int .i64 n)) <| .c (.co (fun _ => #[.int .i64 mj, .int .i64 n]) fun _ _ wq hA => (phead_is mj n hmj hn63.out wq).mono fun e w2 ⟨a2, c2, he, hO, hB⟩ => ⟨_, he, by rw [← hd_length mj n] at hO; have hO2 := tx_own hO (hd_bytes hmj); rw [hd_length] at hO2; exact ⟨hO2.1, hO2.2, hB⟩⟩) <| .c (.p1 0 (.slice (some ⟨b, off, none⟩) m.length cap)) <| .c (.p1 1 (.int .i64 at_)) <| .c (.p1 1 (.int .i64 at_)) <| .c (.p1 88 (.int .i64 at_) (h := by intro ac wc f; have q := getq f; go_simp; rw [IntKind.wrap_i64]; omega)) <| .c (.p1 9 (.int .i64 1)) <| .c (.p2 89 (.int .i64 ((at_ : Int) + 1)) 90 (.int .i64 1) (h := by intro ac wc f f'; have q := getq f; have q' := getq f'; go_simp; rw [IntKind.wrap_i64]; omega)) <| .c (.p3 86 (.slice (some ⟨b, off, none⟩) m.length cap) 87 (.int .i64 at_) 91 (.int .i64 ((at_ : Int) + 2)) (h := by intro ac wc f f' f2; have q := getq f; have q' := getq f'; have q2 := getq f2; go_simp; rw [if_pos (by omega), if_pos (by omega), if_neg (by omega), show ((at_ : Int) + 2).toNat - at_ = 2 by omega])) <| .c (.cj (fun vs => #[vs 2, .slice (some ⟨b, off + at_, none⟩) 2 (cap - at_)]) fun _ vs wq hA => ?_) <| .c (.p1 93 (.bool v)) .nil
            obtain ⟨a3, c3, e3, ht⟩ := hA.own 2
            have hp := (Txt.part hm at_ 2 (by omega) (by omega)).below hA.j.kp.2
            have hB := bytes_cmp ht.1 hp
            rw [Hv.out] at hB
            show Calls _ _ #[vs 2, _] _ _
            rw [e3]
            exact hB
          intro vs V1 hJ hf
          have hB1 := hJ.1.2
          simp only [putL, Lv.val, Act.put, List.setIfInBounds_toArray, List.set_cons_succ, List.set_cons_zero]
          clear hJ hf
          have hr := hsome.out n (by decide) (by show 1 ≤ _; omega) (Hn.out) hn63.out
          cases v
          · have hne : ¬ hd mj n = (c : Int) :: (m.drop (at_ + 1)).take 1 := by rw [← hcs.out]; exact of_decide_eq_false Hv.out
            have hr2 := show Hid _ from hr.trans (if_neg hne)
            clear hr hne Hv
            go_wp2_with fail
            refine bodyPost_ret (results_tmp4 Tryd.results34 _ _ _) rfl ⟨?_, hB1⟩
            rw [hr2.out]
            rfl
          · have he : hd mj n = (c : Int) :: (m.drop (at_ + 1)).take 1 := by rw [← hcs.out]; exact of_decide_eq_true Hv.out
            have hr2 := show Hid _ from hr.trans (if_pos he)
            clear hr he Hv
            go_wp2_with fail
            refine bodyPost_ret (results_tmp4 Tryd.results34 _ _ _) rfl ⟨?_, hB1⟩
            have e3 : (at_ : Int) + ((1 + lsize 24 : Nat) : Int) = (at_ : Int) + 1 + 1 := by show (at_ : Int) + ((1 + 1 : Nat) : Int) = _; omega
            rw [hr2.out, e3]
            rfl
  by_cases k25 : low = 25
  · subst k25
    by_cases k : m.length - (at_ + 1) < 2
    · have hk : (m.length : Int) - (at_ : Int) - 1 < 2 := by omega
      have hr := show Hid _ from hnone.out (.inr k)
      go_wp2_with fail
      refine bodyPost_ret (results_tmp4 Tryd.results34 _ _ _) rfl ⟨?_, Below.refl _ _⟩
      rw [hr.out]
      rfl
    · have hk : ¬ (m.length : Int) - (at_ : Int) - 1 < 2 := by omega
      go_upto_region 23 with fail
      go_loop [5, 10] (fun nv iv => ∃ i : Nat, i ≤ 2 ∧ iv = .int .i64 (i : Int) ∧ nv = .int .i64 ((val 0 ((m.drop (at_ + 1)).take i) : Nat) : Int)) (fun _ iv => 2 - (intOf iv).toNat)
      case atStart => exact ⟨0, by decide, rfl, rfl⟩
      case round =>
        obtain ⟨i, hi, rfl, rfl⟩ := hrel
        by_cases hlt : i < 2
        · have hi' : (i : Int) < 2 := by omega
          have hi0 : (0 : Int) ≤ (i : Int) := by omega
          obtain ⟨b2, off2, e2, c1⟩ := hm.1.at (at_ + 1 + i) (by omega)
          simp only [Option.some.injEq, Addr.mk.injEq, and_true] at e2
          obtain ⟨rfl, rfl⟩ := e2
          have hxb := bm _ (getD_mem (show at_ + 1 + i < m.length by omega))
          obtain ⟨x, Hx⟩ : ∃ x : Nat, Hid (m.getD (at_ + 1 + i) 0 = (x : Int)) := ⟨(m.getD (at_ + 1 + i) 0).toNat, (Int.toNat_of_nonneg hxb.1).symm⟩
          rw [Hx.out] at c1 hxb
          obtain ⟨y, Hy⟩ : ∃ y : Nat, Hid (val 0 ((m.drop (at_ + 1)).take i) = y) := ⟨_, rfl⟩
          have hy2 := val_small m bm (at_ + 1) 2 (i + 1) hlt (by decide) (fun e => absurd e (by decide)) (by omega)
          have Hy2 : Hid (val 0 ((m.drop (at_ + 1)).take (i + 1)) = y * 256 + x) := by
            show _ = _
            rw [getD_drop m (at_ + 1) i (by omega), val_snoc, Hy.out, Hx.out, Int.toNat_natCast]
          rw [Hy2.out] at hy2
          rw [Hy.out]
          have hor := or_i64 (x := y) (y := x) (by omega) hy2
          have hyb : (y : Int) * 256 + (x : Int) < 9223372036854775808 := by omega
          have hy0 : (0 : Int) ≤ (y : Int) := by omega
          have hyb' : (y : Int) < 36028797018963968 := by omega
          go_wp2_with fail
          go_round
          case rel => exact ⟨i + 1, hlt, by go_num, by rw [Hy2.out]; push_cast; rfl⟩
          case measure => simp [intOf]; omega
        · obtain rfl : i = 2 := by omega
          have hi' : ¬ ((2 : Nat) : Int) < 2 := by omega
          obtain ⟨n, Hn⟩ : ∃ n, Hid (val 0 ((m.drop (at_ + 1)).take 2) = n) := ⟨_, rfl⟩
          have hn63 : Hid (n < 9223372036854775808) := by
            show _ < _
            rw [← Hn.out]
            exact val_small m bm (at_ + 1) 2 2 (Nat.le_refl _) (by decide) (fun e => absurd e (by decide)) (by omega)
          rw [Hn.out]
          have hcs : Hid ((m.drop at_).take 3 = (c : Int) :: (m.drop (at_ + 1)).take 2) := by show _ = _; rw [List.drop_eq_getElem_cons hx, List.take_succ_cons]; congr 1; rw [← hc]; simp [List.getD, hx]
          obtain ⟨v, Hv⟩ : ∃ v, Hid (decide (hd mj n = (m.drop at_).take 3) = v) := ⟨_, rfl⟩
          go_upto_region 26 with fail
          have hK := Kp.nil w'
          refine wp_region_lv 101 (fun _ => []) [.v (.int .i64 mj), .v (.int .i64 n), .ow (txR (hd mj n)), .v (.slice (some ⟨b, off, none⟩) m.length cap), .v (.int .i64 at_), .v (.int .i64 at_), .v (.int .i64 ((at_ : Int) + 1)), .v (.int .i64 2), .v (.int .i64 ((at_ : Int) + 3)), .v (.slice (some ⟨b, off + at_, none⟩) 3 (cap - at_)), .v (.bool v), .v (.bool (!v))] hK (by kernel_rfl) (by kernel_rfl) (by kernel_rfl) (by rfl) ?_ ?_
          · refine .c (.p1 4 (.int .i64 mj)) <| .c (.p1 5 (.int .i64 n)) <| .c (.co (fun _ => #[.int .i64 mj, .int .i64 n]) fun _ _ wq hA => (phead_is mj n hmj hn63.out wq).mono fun e w2 ⟨a2, c2, he, hO, hB⟩ => ⟨_, he, by rw [← hd_length mj n] at hO; have hO2 := tx_own hO (hd_bytes hmj); rw [hd_length] at hO2; exact ⟨hO2.1, hO2.2, hB⟩⟩) <| .c (.p1 0 (.slice (some ⟨b, off, none⟩) m.length cap)) <| .c (.p1 1 (.int .i64 at_)) <| .c (.p1 1 (.int .i64 at_)) <| .c (.p1 88 (.int .i64 at_) (h := by intro ac wc f; have q := getq f; go_simp; rw [IntKind.wrap_i64]; omega)) <| .c (.p1 9 (.int .i64 2)) <| .c (.p2 89 (.int .i64 ((at_ : Int) + 1)) 90 (.int .i64 2) (h := by intro ac wc f f'; have q := getq f; have q' := getq f'; go_simp; rw [IntKind.wrap_i64]; omega)) <| .c (.p3 86 (.slice (some ⟨b, off, none⟩) m.length cap) 87 (.int .i64 at_) 91 (.int .i64 ((at_ : Int) + 3)) (h := by intro ac wc f f' f2; have q := getq f; have q' := getq f'; have q2 := getq f2; go_simp; rw [if_pos (by omega), if_pos (by omega), if_neg (by omega), show ((at_ : Int) + 3).toNat - at_ = 3 by omega])) <| .c (.cj (fun vs => #[vs 2, .slice (some ⟨b, off + at_, none⟩) 3 (cap - at_)]) fun _ vs wq hA => ?_) <| .c (.p1 93 (.bool v)) .nil
            obtain ⟨a3, c3, e3, ht⟩ := hA.own 2
            have hp := (Txt.part hm at_ 3 (by omega) (by omega)).below hA.j.kp.2
            have hB := bytes_cmp ht.1 hp
            rw [Hv.out] at hB
            show Calls _ _ #[vs 2, _] _ _
            rw [e3]
            exact hB
          intro vs V1 hJ hf
          have hB1 := hJ.1.2
          simp only [putL, Lv.val, Act.put, List.setIfInBounds_toArray, List.set_cons_succ, List.set_cons_zero]
          clear hJ hf
          have hr := hsome.out n (by decide) (by show 2 ≤ _; omega) (Hn.out) hn63.out
          cases v
          · have hne : ¬ hd mj n = (c : Int) :: (m.drop (at_ + 1)).take 2 := by rw [← hcs.out]; exact of_decide_eq_false Hv.out
            have hr2 := show Hid _ from hr.trans (if_neg hne)
            clear hr hne Hv
            go_wp2_with fail
            refine bodyPost_ret (results_tmp4 Tryd.results34 _ _ _) rfl ⟨?_, hB1⟩
            rw [hr2.out]
            rfl
          · have he : hd mj n = (c : Int) :: (m.drop (at_ + 1)).take 2 := by rw [← hcs.out]; exact of_decide_eq_true Hv.out
            have hr2 := show Hid _ from hr.trans (if_pos he)
            clear hr he Hv
            go_wp2_with fail
            refine bodyPost_ret (results_tmp4 Tryd.results34 _ _ _) rfl ⟨?_, hB1⟩
            have e3 : (at_ : Int) + ((1 + lsize 25 : Nat) : Int) = (at_ : Int) + 1 + 2 := by show (at_ : Int) + ((1 + 2 : Nat) : Int) = _; omega
            rw [hr2.out, e3]
            rfl
  by_cases k26 : low = 26
  · subst k26
    by_cases k : m.length - (at_ + 1) < 4
    · have hk : (m.length : Int) - (at_ : Int) - 1 < 4 := by omega
      have hr := show Hid _ from hnone.out (.inr k)
      go_wp2_with fail
      refine bodyPost_ret (results_tmp4 Tryd.results34 _ _ _) rfl ⟨?_, Below.refl _ _⟩
      rw [hr.out]
      rfl
    · have hk : ¬ (m.length : Int) - (at_ : Int) - 1 < 4 := by omega
      go_upto_region 23 with fail
      go_loop [5, 10] (fun nv iv => ∃ i : Nat, i ≤ 4 ∧ iv = .int .i64 (i : Int) ∧ nv = .int .i64 ((val 0 ((m.drop (at_ + 1)).take i) : Nat) : Int)) (fun _ iv => 4 - (intOf iv).toNat)
      case atStart => exact ⟨0, by decide, rfl, rfl⟩
      case round =>
        obtain ⟨i, hi, rfl, rfl⟩ := hrel
        by_cases hlt : i < 4
        · have hi' : (i : Int) < 4 := by omega
          have hi0 : (0 : Int) ≤ (i : Int) := by omega
          obtain ⟨b2, off2, e2, c1⟩ := hm.1.at (at_ + 1 + i) (by omega)
          simp only [Option.some.injEq, Addr.mk.injEq, and_true] at e2
          obtain ⟨rfl, rfl⟩ := e2
          have hxb := bm _ (getD_mem (show at_ + 1 + i < m.length by omega))
          obtain ⟨x, Hx⟩ : ∃ x : Nat, Hid (m.getD (at_ + 1 + i) 0 = (x : Int)) := ⟨(m.getD (at_ + 1 + i) 0).toNat, (Int.toNat_of_nonneg hxb.1).symm⟩
          rw [Hx.out] at c1 hxb
          obtain ⟨y, Hy⟩ : ∃ y : Nat, Hid (val 0 ((m.drop (at_ + 1)).take i) = y) := ⟨_, rfl⟩
          have hy2 := val_small m bm (at_ + 1) 4 (i + 1) hlt (by decide) (fun e => absurd e (by decide)) (by omega)
          have Hy2 : Hid (val 0 ((m.drop (at_ + 1)).take (i + 1)) = y * 256 + x) := by
            show _ = _
            rw [getD_drop m (at_ + 1) i (by omega), val_snoc, Hy.out, Hx.out, Int.toNat_natCast]
          rw [Hy2.out] at hy2
          rw [Hy.out]
          have hor := or_i64 (x := y) (y := x) (by omega) hy2
          have hyb : (y : Int) * 256 + (x : Int) < 9223372036854775808 := by omega
          have hy0 : (0 : Int) ≤ (y : Int) := by omega
          have hyb' : (y : Int) < 36028797018963968 := by omega
          go_wp2_with fail
          go_round
          case rel => exact ⟨i + 1, hlt, by go_num, by rw [Hy2.out]; push_cast; rfl⟩
          case measure => simp [intOf]; omega
        · obtain rfl : i = 4 := by omega
          have hi' : ¬ ((4 : Nat) : Int) < 4 := by omega
          obtain ⟨n, Hn⟩ : ∃ n, Hid (val 0 ((m.drop (at_ + 1)).take 4) = n) := ⟨_, rfl⟩
          have hn63 : Hid (n < 9223372036854775808) := by
            show _ < _
            rw [← Hn.out]
            exact val_small m bm (at_ + 1) 4 4 (Nat.le_refl _) (by decide) (fun e => absurd e (by decide)) (by omega)
          rw [Hn.out]
          have hcs : Hid ((m.drop at_).take 5 = (c : Int) :: (m.drop (at_ + 1)).take 4) := by show _ = _; rw [List.drop_eq_getElem_cons hx, List.take_succ_cons]; congr 1; rw [← hc]; simp [List.getD, hx]
          obtain ⟨v, Hv⟩ : ∃ v, Hid (decide (hd mj n = (m.drop at_).take 5) = v) := ⟨_, rfl⟩
          go_upto_region 26 with fail
          have hK := Kp.nil w'
          refine wp_region_lv 101 (fun _ => []) [.v (.int .i64 mj), .v (.int .i64 n), .ow (txR (hd mj n)), .v (.slice (some ⟨b, off, none⟩) m.length cap), .v (.int .i64 at_), .v (.int .i64 at_), .v (.int .i64 ((at_ : Int) + 1)), .v (.int .i64 4), .v (.int .i64 ((at_ : Int) + 5)), .v (.slice (some ⟨b, off + at_, none⟩) 5 (cap - at_)), .v (.bool v), .v (.bool (!v))] hK (by kernel_rfl) (by kernel_rfl) (by kernel_rfl) (by rfl) ?_ ?_
          · refine .c (.p1 4 (.int .i64 mj)) <| .c (.p1 5 (.int .i64 n)) <| .c (.co (fun _ => #[.int .i64 mj, .int .i64 n]) fun _ _ wq hA => (phead_is mj n hmj hn63.out wq).mono fun e w2 ⟨a2, c2, he, hO, hB⟩ => ⟨_, he, by rw [← hd_length mj n] at hO; have hO2 := tx_own hO (hd_bytes hmj); rw [hd_length] at hO2; exact ⟨hO2.1, hO2.2, hB⟩⟩) <| .c (.p1 0 (.slice (some ⟨b, off, none⟩) m.length cap)) <| .c (.p1 1 (.int .i64 at_)) <| .c (.p1 1 (.int .i64 at_)) <| .c (.p1 88 (.int .i64 at_) (h := by intro ac wc f; have q := getq f; go_simp; rw [IntKind.wrap_i64]; omega)) <| .c (.p1 9 (.int .i64 4)) <| .c (.p2 89 (.int .i64 ((at_ : Int) + 1)) 90 (.int .i64 4) (h := by intro ac wc f f'; have q := getq f; have q' := getq f'; go_simp; rw [IntKind.wrap_i64]; omega)) <| .c (.p3 86 (.slice (some ⟨b, off, none⟩) m.length cap) 87 (.int .i64 at_) 91 (.int .i64 ((at_ : Int) + 5)) (h := by intro ac wc f f' f2; have q := getq f; have q' := getq f'; have q2 := getq f2; go_simp; rw [if_pos (by omega), if_pos (by omega), if_neg (by omega), show ((at_ : Int) + 5).toNat - at_ = 5 by omega])) <| .c (.cj (fun vs => #[vs 2, .slice (some ⟨b, off + at_, none⟩) 5 (cap - at_)]) fun _ vs wq hA => ?_) <| .c (.p1 93 (.bool v)) .nil
            obtain ⟨a3, c3, e3, ht⟩ := hA.own 2
            have hp := (Txt.part hm at_ 5 (by omega) (by omega)).below hA.j.kp.2
            have hB := bytes_cmp ht.1 hp
            rw [Hv.out] at hB
            show Calls _ _ #[vs 2, _] _ _
            rw [e3]
            exact hB
          intro vs V1 hJ hf
          have hB1 := hJ.1.2
          simp only [putL, Lv.val, Act.put, List.setIfInBounds_toArray, List.set_cons_succ, List.set_cons_zero]
          clear hJ hf
          have hr := hsome.out n (by decide) (by show 4 ≤ _; omega) (Hn.out) hn63.out
          cases v
          · have hne : ¬ hd mj n = (c : Int) :: (m.drop (at_ + 1)).take 4 := by rw [← hcs.out]; exact of_decide_eq_false Hv.out
            have hr2 := show Hid _ from hr.trans (if_neg hne)
            clear hr hne Hv
            go_wp2_with fail
            refine bodyPost_ret (results_tmp4 Tryd.results34 _ _ _) rfl ⟨?_, hB1⟩
            rw [hr2.out]
            rfl
          · have he : hd mj n = (c : Int) :: (m.drop (at_ + 1)).take 4 := by rw [← hcs.out]; exact of_decide_eq_true Hv.out
            have hr2 := show Hid _ from hr.trans (if_pos he)
            clear hr he Hv
            go_wp2_with fail
            refine bodyPost_ret (results_tmp4 Tryd.results34 _ _ _) rfl ⟨?_, hB1⟩
            have e3 : (at_ : Int) + ((1 + lsize 26 : Nat) : Int) = (at_ : Int) + 1 + 4 := by show (at_ : Int) + ((1 + 4 : Nat) : Int) = _; omega
            rw [hr2.out, e3]
            rfl
  by_cases k27 : low = 27
  · subst k27
    by_cases k : m.length - (at_ + 1) < 8
    · have hk : (m.length : Int) - (at_ : Int) - 1 < 8 := by omega
      have hr := show Hid _ from hnone.out (.inr k)
      go_wp2_with fail
      refine bodyPost_ret (results_tmp4 Tryd.results34 _ _ _) rfl ⟨?_, Below.refl _ _⟩
      rw [hr.out]
      rfl
    · have hk : ¬ (m.length : Int) - (at_ : Int) - 1 < 8 := by omega
      obtain ⟨b2, off2, e2, c7⟩ := hm.1.at (at_ + 1) (by omega)
      simp only [Option.some.injEq, Addr.mk.injEq, and_true] at e2
      obtain ⟨rfl, rfl⟩ := e2
      have hxb7 := bm _ (getD_mem (show at_ + 1 < m.length by omega))
      obtain ⟨z, Hz⟩ : ∃ x : Nat, Hid (m.getD (at_ + 1) 0 = (x : Int)) := ⟨(m.getD (at_ + 1) 0).toNat, (Int.toNat_of_nonneg hxb7.1).symm⟩
      rw [Hz.out] at c7 hxb7
      by_cases h127 : 127 < z
      · have h127' : (127 : Int) < (z : Int) := by omega
        have hr := show Hid _ from hbig.out (val_big m (at_ + 1) (by rw [Hz.out]; omega) (by omega))
        go_wp2_with fail
        refine bodyPost_ret (results_tmp4 Tryd.results34 _ _ _) rfl ⟨?_, Below.refl _ _⟩
        rw [hr.out]
        rfl
      have h127n : ¬ (127 : Int) < (z : Int) := by omega
      replace h127 : Hid (m.getD (at_ + 1) 0 ≤ 127) := by show _ ≤ _; rw [Hz.out]; omega
      clear hxb7
      go_upto_region 23 with fail
      go_loop [5, 10] (fun nv iv => ∃ i : Nat, i ≤ 8 ∧ iv = .int .i64 (i : Int) ∧ nv = .int .i64 ((val 0 ((m.drop (at_ + 1)).take i) : Nat) : Int)) (fun _ iv => 8 - (intOf iv).toNat)
      case atStart => exact ⟨0, by decide, rfl, rfl⟩
      case round =>
        obtain ⟨i, hi, rfl, rfl⟩ := hrel
        by_cases hlt : i < 8
        · have hi' : (i : Int) < 8 := by omega
          have hi0 : (0 : Int) ≤ (i : Int) := by omega
          obtain ⟨b2, off2, e2, c1⟩ := hm.1.at (at_ + 1 + i) (by omega)
          simp only [Option.some.injEq, Addr.mk.injEq, and_true] at e2
          obtain ⟨rfl, rfl⟩ := e2
          have hxb := bm _ (getD_mem (show at_ + 1 + i < m.length by omega))
          obtain ⟨x, Hx⟩ : ∃ x : Nat, Hid (m.getD (at_ + 1 + i) 0 = (x : Int)) := ⟨(m.getD (at_ + 1 + i) 0).toNat, (Int.toNat_of_nonneg hxb.1).symm⟩
          rw [Hx.out] at c1 hxb
          obtain ⟨y, Hy⟩ : ∃ y : Nat, Hid (val 0 ((m.drop (at_ + 1)).take i) = y) := ⟨_, rfl⟩
          have hy2 := val_small m bm (at_ + 1) 8 (i + 1) hlt (by decide) (fun _ => h127.out) (by omega)
          have Hy2 : Hid (val 0 ((m.drop (at_ + 1)).take (i + 1)) = y * 256 + x) := by
            show _ = _
            rw [getD_drop m (at_ + 1) i (by omega), val_snoc, Hy.out, Hx.out, Int.toNat_natCast]
          rw [Hy2.out] at hy2
          rw [Hy.out]
          have hor := or_i64 (x := y) (y := x) (by omega) hy2
          have hyb : (y : Int) * 256 + (x : Int) < 9223372036854775808 := by omega
          have hy0 : (0 : Int) ≤ (y : Int) := by omega
          have hyb' : (y : Int) < 36028797018963968 := by omega
          go_wp2_with fail
          go_round
          case rel => exact ⟨i + 1, hlt, by go_num, by rw [Hy2.out]; push_cast; rfl⟩
          case measure => simp [intOf]; omega
        · obtain rfl : i = 8 := by omega
          have hi' : ¬ ((8 : Nat) : Int) < 8 := by omega
          obtain ⟨n, Hn⟩ : ∃ n, Hid (val 0 ((m.drop (at_ + 1)).take 8) = n) := ⟨_, rfl⟩
          have hn63 : Hid (n < 9223372036854775808) := by
            show _ < _
            rw [← Hn.out]
            exact val_small m bm (at_ + 1) 8 8 (Nat.le_refl _) (by decide) (fun _ => h127.out) (by omega)
          rw [Hn.out]
          have hcs : Hid ((m.drop at_).take 9 = (c : Int) :: (m.drop (at_ + 1)).take 8) := by show _ = _; rw [List.drop_eq_getElem_cons hx, List.take_succ_cons]; congr 1; rw [← hc]; simp [List.getD, hx]
          obtain ⟨v, Hv⟩ : ∃ v, Hid (decide (hd mj n = (m.drop at_).take 9) = v) := ⟨_, rfl⟩
          go_upto_region 26 with fail
          have hK := Kp.nil w'
          refine wp_region_lv 101 (fun _ => []) [.v (.int .i64 mj), .v (.int .i64 n), .ow (txR (hd mj n)), .v (.slice (some ⟨b, off, none⟩) m.length cap), .v (.int .i64 at_), .v (.int .i64 at_), .v (.int .i64 ((at_ : Int) + 1)), .v (.int .i64 8), .v (.int .i64 ((at_ : Int) + 9)), .v (.slice (some ⟨b, off + at_, none⟩) 9 (cap - at_)), .v (.bool v), .v (.bool (!v))] hK (by kernel_rfl) (by kernel_rfl) (by kernel_rfl) (by rfl) ?_ ?_
          · refine .c (.p1 4 (.int .i64 mj)) <| .c (.p1 5 (.int .i64 n)) <| .c (.co (fun _ => #[.int .i64 mj, .int .i64 n]) fun _ _ wq hA => (phead_is mj n hmj hn63.out wq).mono fun e w2 ⟨a2, c2, he, hO, hB⟩ => ⟨_, he, by rw [← hd_length mj n] at hO; have hO2 := tx_own hO (hd_bytes hmj); rw [hd_length] at hO2; exact ⟨hO2.1, hO2.2, hB⟩⟩) <| .c (.p1 0 (.slice (some ⟨b, off, none⟩) m.length cap)) <| .c (.p1 1 (.int .i64 at_)) <| .c (.p1 1 (.int .i64 at_)) <| .c (.p1 88 (.int .i64 at_) (h := by intro ac wc f; have q := getq f; go_simp; rw [IntKind.wrap_i64]; omega)) <| .c (.p1 9 (.int .i64 8)) <| .c (.p2 89 (.int .i64 ((at_ : Int) + 1)) 90 (.int .i64 8) (h := by intro ac wc f f'; have q := getq f; have q' := getq f'; go_simp; rw [IntKind.wrap_i64]; omega)) <| .c (.p3 86 (.slice (some ⟨b, off, none⟩) m.length cap) 87 (.int .i64 at_) 91 (.int .i64 ((at_ : Int) + 9)) (h := by intro ac wc f f' f2; have q := getq f; have q' := getq f'; have q2 := getq f2; go_simp; rw [if_pos (by omega), if_pos (by omega), if_neg (by omega), show ((at_ : Int) + 9).toNat - at_ = 9 by omega])) <| .c (.cj (fun vs => #[vs 2, .slice (some ⟨b, off + at_, none⟩) 9 (cap - at_)]) fun _ vs wq hA => ?_) <| .c (.p1 93 (.bool v)) .nil
            obtain ⟨a3, c3, e3, ht⟩ := hA.own 2
            have hp := (Txt.part hm at_ 9 (by omega) (by omega)).below hA.j.kp.2
            have hB := bytes_cmp ht.1 hp
            rw [Hv.out] at hB
            show Calls _ _ #[vs 2, _] _ _
            rw [e3]
            exact hB
          intro vs V1 hJ hf
          have hB1 := hJ.1.2
          simp only [putL, Lv.val, Act.put, List.setIfInBounds_toArray, List.set_cons_succ, List.set_cons_zero]
          clear hJ hf
          have hr := hsome.out n (by decide) (by show 8 ≤ _; omega) (Hn.out) hn63.out
          cases v
          · have hne : ¬ hd mj n = (c : Int) :: (m.drop (at_ + 1)).take 8 := by rw [← hcs.out]; exact of_decide_eq_false Hv.out
            have hr2 := show Hid _ from hr.trans (if_neg hne)
            clear hr hne Hv
            go_wp2_with fail
            refine bodyPost_ret (results_tmp4 Tryd.results34 _ _ _) rfl ⟨?_, hB1⟩
            rw [hr2.out]
            rfl
          · have he : hd mj n = (c : Int) :: (m.drop (at_ + 1)).take 8 := by rw [← hcs.out]; exact of_decide_eq_true Hv.out
            have hr2 := show Hid _ from hr.trans (if_pos he)
            clear hr he Hv
            go_wp2_with fail
            refine bodyPost_ret (results_tmp4 Tryd.results34 _ _ _) rfl ⟨?_, hB1⟩
            have e3 : (at_ : Int) + ((1 + lsize 27 : Nat) : Int) = (at_ : Int) + 1 + 8 := by show (at_ : Int) + ((1 + 8 : Nat) : Int) = _; omega
            rw [hr2.out, e3]
            rfl
  have q24 : ((low : Int) == 24) = false := beq_eq_false_iff_ne.2 (by omega)
  have q25 : ((low : Int) == 25) = false := beq_eq_false_iff_ne.2 (by omega)
  have q26 : ((low : Int) == 26) = false := beq_eq_false_iff_ne.2 (by omega)
  have q27 : ((low : Int) == 27) = false := beq_eq_false_iff_ne.2 (by omega)
  by_cases k28 : 27 < low
  · have k28' : (27 : Int) < (low : Int) := by omega
    have hr := show Hid _ from hnone.out (.inl k28)
    go_wp2_with fail
    refine bodyPost_ret (results_tmp4 Tryd.results34 _ _ _) rfl ⟨?_, Below.refl _ _⟩
    rw [hr.out]
    rfl
  have k28' : ¬ (27 : Int) < (low : Int) := by omega
  have hk : ¬ (m.length : Int) - (at_ : Int) - 1 < 0 := by omega
  have hs0 : Hid (lsize low = 0 ∧ hnum low (m.drop (at_ + 1)) = low) := by
    unfold lsize hnum
    exact ⟨by rw [if_neg k24, if_neg k25, if_neg k26, if_neg k27], if_pos (by omega)⟩
  have hn63 : Hid (low < 9223372036854775808) := by show _ < _; omega
  have hcs : Hid ((m.drop at_).take 1 = (c : Int) :: (m.drop (at_ + 1)).take 0) := by show _ = _; rw [List.drop_eq_getElem_cons hx, List.take_succ_cons]; congr 1; rw [← hc]; simp [List.getD, hx]
  obtain ⟨v, Hv⟩ : ∃ v, Hid (decide (hd mj low = (m.drop at_).take 1) = v) := ⟨_, rfl⟩
  go_upto_region 26 with fail
  have hK := Kp.nil w'
  refine wp_region_lv 101 (fun _ => []) [.v (.int .i64 mj), .v (.int .i64 low), .ow (txR (hd mj low)), .v (.slice (some ⟨b, off, none⟩) m.length cap), .v (.int .i64 at_), .v (.int .i64 at_), .v (.int .i64 ((at_ : Int) + 1)), .v (.int .i64 0), .v (.int .i64 ((at_ : Int) + 1)), .v (.slice (some ⟨b, off + at_, none⟩) 1 (cap - at_)), .v (.bool v), .v (.bool (!v))] hK (by kernel_rfl) (by kernel_rfl) (by kernel_rfl) (by rfl) ?_ ?_
  · refine .c (.p1 4 (.int .i64 mj)) <| .c (.p1 5 (.int .i64 low)) <| .c (.co (fun _ => #[.int .i64 mj, .int .i64 low]) fun _ _ wq hA => (phead_is mj low hmj hn63.out wq).mono fun e w2 ⟨a2, c2, he, hO, hB⟩ => ⟨_, he, by rw [← hd_length mj low] at hO; have hO2 := tx_own hO (hd_bytes hmj); rw [hd_length] at hO2; exact ⟨hO2.1, hO2.2, hB⟩⟩) <| .c (.p1 0 (.slice (some ⟨b, off, none⟩) m.length cap)) <| .c (.p1 1 (.int .i64 at_)) <| .c (.p1 1 (.int .i64 at_)) <| .c (.p1 88 (.int .i64 at_) (h := by intro ac wc f; have q := getq f; go_simp; rw [IntKind.wrap_i64]; omega)) <| .c (.p1 9 (.int .i64 0)) <| .c (.p2 89 (.int .i64 ((at_ : Int) + 1)) 90 (.int .i64 0) (h := by intro ac wc f f'; have q := getq f; have q' := getq f'; go_simp; rw [IntKind.wrap_i64]; omega)) <| .c (.p3 86 (.slice (some ⟨b, off, none⟩) m.length cap) 87 (.int .i64 at_) 91 (.int .i64 ((at_ : Int) + 1)) (h := by intro ac wc f f' f2; have q := getq f; have q' := getq f'; have q2 := getq f2; go_simp; rw [if_pos (by omega), if_neg (by omega)])) <| .c (.cj (fun vs => #[vs 2, .slice (some ⟨b, off + at_, none⟩) 1 (cap - at_)]) fun _ vs wq hA => ?_) <| .c (.p1 93 (.bool v)) .nil
    obtain ⟨a3, c3, e3, ht⟩ := hA.own 2
    have hp := (Txt.part hm at_ 1 (by omega) (by omega)).below hA.j.kp.2
    have hB := bytes_cmp ht.1 hp
    rw [Hv.out] at hB
    show Calls _ _ #[vs 2, _] _ _
    rw [e3]
    exact hB
  intro vs V1 hJ hf
  have hB1 := hJ.1.2
  simp only [putL, Lv.val, Act.put, List.setIfInBounds_toArray, List.set_cons_succ, List.set_cons_zero]
  clear hJ hf
  have hr := hsome.out low (by omega) (by rw [hs0.out.1]; exact Nat.zero_le _) (hs0.out.2) hn63.out
  rw [hs0.out.1] at hr
  cases v
  · have hne : ¬ hd mj low = (c : Int) :: (m.drop (at_ + 1)).take 0 := by rw [← hcs.out]; exact of_decide_eq_false Hv.out
    have hr2 := show Hid _ from hr.trans (if_neg hne)
    clear hr hne Hv
    go_wp2_with fail
    refine bodyPost_ret (results_tmp4 Tryd.results34 _ _ _) rfl ⟨?_, hB1⟩
    rw [hr2.out]
    rfl
  · have he : hd mj low = (c : Int) :: (m.drop (at_ + 1)).take 0 := by rw [← hcs.out]; exact of_decide_eq_true Hv.out
    have hr2 := show Hid _ from hr.trans (if_pos he)
    clear hr he Hv
    go_wp2_with fail
    refine bodyPost_ret (results_tmp4 Tryd.results34 _ _ _) rfl ⟨?_, hB1⟩
    have e3 : (at_ : Int) + ((1 + 0 : Nat) : Int) = (at_ : Int) + 1 := by omega
    rw [hr2.out, e3]
    rfl
end Go.Proofs.YtaabcllghniaoaaDoor
