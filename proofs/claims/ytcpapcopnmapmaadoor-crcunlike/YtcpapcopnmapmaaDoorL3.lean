/- The walk of the law CrcUnlike. -/
import Derived.Test.YtcpapcopnmapmaaDoorL1
import Derived.Test.YtcpapcopnmapmaaDoorM2
import Derived.Test.YtcpapcopnmapmaaDoorW3
namespace Go.Proofs.YtcpapcopnmapmaaDoor
open Go.RowKit

theorem left_by (x : Int) (n : Nat) (h1 : 1 ≤ n) (hn : n ≤ 1000000) : ∃ r : Nat, wrap64 ((IntKind.u64.wrap x).tmod (8 * (n : Int))) = (r : Int) ∧ r < 8 * n := by
  have h0 : 0 ≤ IntKind.u64.wrap x := wrap_u64_nonneg x
  rw [Int.tmod_eq_emod_of_nonneg h0]
  have h1 := Int.emod_nonneg (IntKind.u64.wrap x) (show (8 * (n : Int)) ≠ 0 by omega)
  have h2 := Int.emod_lt_of_pos (IntKind.u64.wrap x) (show 0 < (8 * (n : Int)) by omega)
  refine ⟨(IntKind.u64.wrap x % (8 * (n : Int))).toNat, ?_, by omega⟩
  rw [Int.toNat_of_nonneg h1]
  generalize IntKind.u64.wrap x % (8 * (n : Int)) = y at *
  unfold wrap64
  omega

set_option maxRecDepth 100000 in
set_option maxHeartbeats 4000000 in
theorem unlike_any (a : Option Addr) (len cap : Nat) (m : List Int) (p bs : Int) (w : World) (hm : BytesV w a len cap m) (hn : a = none → cap = 0) (hT : Tabs w) :
    Calls Tryd.prog 5 #[.slice a len cap, .int .i64 p, .int .u32 bs] w fun e w' => e = .returned (.bool true) ∧ Below w.heap.size w w' := by
  by_cases hl0 : len < 1
  · have hi : (len : Int) < 1 := by omega
    go_enter Tryd.func5, Tryd.ntmps5
    go_wp2_with fail
    go_ret
    exact ⟨rfl, Below.refl _ _⟩
  have hi0 : ¬ (len : Int) < 1 := by omega
  have hj0 : (1 : Int) ≤ (len : Int) := by omega
  by_cases hl1 : 400 < len
  · have hi : (400 : Int) < (len : Int) := by omega
    go_enter Tryd.func5, Tryd.ntmps5
    go_wp2_with fail
    go_ret
    exact ⟨rfl, Below.refl _ _⟩
  have hi1 : ¬ (400 : Int) < (len : Int) := by omega
  have hj1 : (len : Int) ≤ 400 := by omega
  have hml := hm.1
  have hby := hm.2.2.2.1
  subst hml
  go_enter Tryd.func5, Tryd.ntmps5
  go_wp2_with fail
  refine (twin_any a cap m w hm hn (by omega)).mono ?_
  rintro e w1 ⟨a1, cap1, rfl, hO, hV, hg⟩
  have hb := below_none hg
  obtain ⟨g, cap2, hv, hgb, hR⟩ := hO.row (by omega)
  simp only [Value.slice.injEq, true_and] at hv
  obtain ⟨rfl, rfl⟩ := hv
  clear hO hV hg
  obtain ⟨A, hA, hAl⟩ := left_by p m.length (by omega) (by omega)
  have HA := show Hid _ from hA
  clear hA
  go_upto_region 5 with fail
  rw [HA.out]
  have hA0 : (0 : Int) ≤ (A : Int) := by omega
  have hA1 : (A : Int) < 3200 := by omega
  have hA2 : (A : Int) < 8 * (m.length : Int) := by omega
  go_wp2_with fail
  go_loopw [8] (fun i wr => ∃ (k : Nat) (l : List Int), k ≤ 32 ∧ i = .int .i64 (k : Int) ∧ l.length = m.length ∧ Bys l ∧ (∀ q, q < A ∨ A + k ≤ q → bitAt l q = bitAt m q) ∧ RowAt wr g cap1 l ∧ Below w.heap.size w wr) (fun i _ => 32 - (intOf i).toNat)
  case atStart => exact ⟨0, m, Nat.zero_le _, rfl, rfl, hby, fun _ _ => rfl, hR, hb⟩
  case round =>
    obtain ⟨k, l, hk, rfl, hll, hbl, hag, hRl, hbw⟩ := hrel
    have hki0 : (0 : Int) ≤ (k : Int) := by omega
    by_cases hgo : k < 32 ∧ A + k < 8 * m.length
    · obtain ⟨hg1, hg2⟩ := hgo
      have hki : (k : Int) < 32 := by omega
      have hki2 : (A : Int) + (k : Int) < 8 * (m.length : Int) := by omega
      cases hbit : (bits .and .u32 (bs / 2 ^ k) 1 == 1)
      · go_wp2_with fail
        go_roundw
        case rel => exact ⟨k + 1, l, by omega, by go_num, hll, hbl, fun q hq => hag q (by omega), hRl, hbw⟩
        case measure => simp [intOf]; omega
      · have hd : (A + k) / 8 < l.length := by omega
        have hq : ((A : Int) + (k : Int)).tdiv 8 = (((A + k) / 8 : Nat) : Int) := by
          rw [Int.tdiv_eq_ediv_of_nonneg (by omega)]; omega
        have hr : ((A : Int) + (k : Int)).tmod 8 = (((A + k) % 8 : Nat) : Int) := by
          rw [Int.tmod_eq_emod_of_nonneg (by omega)]; omega
        have c1 := hRl.cellAt ((A + k) / 8) hd
        have f1 := hRl.frozen ((A + k) / 8)
        have hj8 : (A + k) % 8 < 8 := Nat.mod_lt _ (by decide)
        have Ht := show Hid _ from fun (q : Nat) => turn_bit l (A + k) q
        have Htb := show Hid _ from turn_bys hbl (A + k)
        have Htd : Hid (turn l (A + k) = _) := show _ from rfl
        have hcb := byte_lt hbl ((A + k) / 8)
        have hc0 : 0 ≤ l.getD ((A + k) / 8) 0 := (hbl _ (by rw [List.getD, List.getElem?_eq_getElem hd]; exact List.getElem_mem _)).1
        obtain ⟨c, hc⟩ : ∃ c : Nat, l.getD ((A + k) / 8) 0 = (c : Int) := ⟨_, (Int.toNat_of_nonneg hc0).symm⟩
        rw [hc] at c1 hcb
        rw [Int.toNat_natCast] at hcb
        have hpw := pow_lt_byte _ hj8
        have hx := u8_xor_nat c (2 ^ ((A + k) % 8)) hcb hpw
        have hdm : (((A + k) / 8 : Nat) : Int) < (m.length : Int) := by omega
        have hd0 : (0 : Int) ≤ (((A + k) / 8 : Nat) : Int) := by omega
        have hr0 : (0 : Int) ≤ (((A + k) % 8 : Nat) : Int) := by omega
        have hr8 : (((A + k) % 8 : Nat) : Int) < 8 := by omega
        generalize hD : (A + k) / 8 = D at hq c1 f1 hdm hd0
        generalize hJ : (A + k) % 8 = J at hr hx hr0 hr8 hpw
        have HD := show Hid _ from hD
        have HJ := show Hid _ from hJ
        have Hc := show Hid _ from hc
        clear hD hJ hc
        go_wp2
        have hv : bits .xor .u8 (c : Int) (2 ^ J % 256) = ((c ^^^ 2 ^ J : Nat) : Int) := by
          rw [← hx]
          have : (2 : Int) ^ J % 256 = ((2 ^ J : Nat) : Int) := by
            rw [show (2 : Int) ^ J = ((2 ^ J : Nat) : Int) by push_cast; rfl]
            have hmod : ∀ t : Nat, t < 256 → (t : Int) % 256 = (t : Int) := fun t ht => by omega
            exact hmod _ hpw
          rw [this]
        rw [hv]
        have e : turn l (A + k) = l.set D ((c ^^^ 2 ^ J : Nat) : Int) := by
          unfold turn
          rw [Hc.out, Int.toNat_natCast, HD.out, HJ.out]
        refine ⟨⟨k + 1, turn l (A + k), by omega, by go_num, by rw [turn_length]; exact hll, Htb.out, fun q hq => ?_, by rw [e]; exact hRl.set D _, hbw.setCell hgb _⟩, by simp [intOf]; omega⟩
        rw [Ht.out q (by omega)]
        exact hag q (by omega)
    · have hag' : ∀ q, q < A ∨ A + 32 ≤ q → bitAt l q = bitAt m q := fun q hq => by
        by_cases hq8 : 8 * m.length ≤ q
        · unfold bitAt
          rw [List.getD, List.getD, List.getElem?_eq_none (by omega), List.getElem?_eq_none (by omega)]
        · exact hag q (by omega)
      have Hiff := show Hid _ from crc_unlike m l hby hbl hll.symm A (fun q hq => (hag' q hq).symm)
      have hVl := hRl.bytes hbl
      rw [hll] at hVl
      have hVm := hm.below hbw
      have hTw := hT.below hbw
      clear hag hag' hRl
      obtain ⟨hstop⟩ : Nonempty (k = 32 ∨ (k < 32 ∧ 8 * m.length ≤ A + k)) := ⟨by omega⟩
      have Hx : Hid ((((crc m : Nat) : Int) == ((crc l : Nat) : Int)) = decide (m = l)) := by
        show _ = _
        by_cases e : m = l
        · rw [decide_eq_true e, e]; simp
        · rw [decide_eq_false e]
          have : crc m ≠ crc l := fun h => e (Hiff.out.1 h)
          have h' : ((crc m : Nat) : Int) ≠ ((crc l : Nat) : Int) := fun h => this (Int.ofNat.inj h)
          simpa using h'
      have hs1 := sum_any a m.length cap m wr hVm hTw
      have hs2 := sum_any _ m.length cap1 l wr hVl hTw
      have hs3 := bytes_eq a _ m.length cap cap1 m l wr hVm hVl
      generalize crc m = x at *
      generalize crc l = y at *
      clear Hiff hR hb
      obtain ⟨d, Hd⟩ : ∃ d, Hid (decide (m = l) = d) := ⟨_, rfl⟩
      have hxy : ((x : Int) == (y : Int)) = d := by rw [Hx.out, Hd.out]
      have hdd : (d == d) = true := by simp
      clear Hx
      rcases hstop with rfl | ⟨h1, h2⟩
      · go_wp2_with fail
        refine hs1.mono ?_
        rintro e w2 ⟨rfl, rfl⟩
        go_wp2_with fail
        refine hs2.mono ?_
        rintro e w3 ⟨rfl, rfl⟩
        go_wp2_with fail
        refine hs3.mono ?_
        rintro e w4 ⟨rfl, hb4⟩
        have hb5 := bel hbw hb4
        rw [Hd.out]
        go_wp2_with fail
        refine (wakes_any _ (hT.below hb5)).mono ?_
        rintro e w5 ⟨rfl, hb6⟩
        go_wp2
        go_ret
        exact ⟨rfl, bel hb5 hb6⟩
      · have hki : (k : Int) < 32 := by omega
        have hki2 : ¬ (A : Int) + (k : Int) < 8 * (m.length : Int) := by omega
        go_wp2_with fail
        refine hs1.mono ?_
        rintro e w2 ⟨rfl, rfl⟩
        go_wp2_with fail
        refine hs2.mono ?_
        rintro e w3 ⟨rfl, rfl⟩
        go_wp2_with fail
        refine hs3.mono ?_
        rintro e w4 ⟨rfl, hb4⟩
        have hb5 := bel hbw hb4
        rw [Hd.out]
        go_wp2_with fail
        refine (wakes_any _ (hT.below hb5)).mono ?_
        rintro e w5 ⟨rfl, hb6⟩
        go_wp2
        go_ret
        exact ⟨rfl, bel hb5 hb6⟩
end Go.Proofs.YtcpapcopnmapmaaDoor
