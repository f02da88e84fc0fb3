/- The walk of the page's own sum. -/
import Derived.Test.YtcpapcopnmapmaaDoorW1
namespace Go.Proofs.YtcpapcopnmapmaaDoor
open Go.RowKit

theorem and1 (y : Nat) (h : y < 4294967296) : bits .and .u32 (y : Int) 1 = ((y % 2 : Nat) : Int) := by
  have := u32_and_nat y 1 h (by decide)
  rw [nat_mask1] at this; exact this
theorem bit_u32 (c j : Nat) (h : c < 256) : bits .and .u32 ((c : Int) / 2 ^ j % 4294967296) 1 = ((c / 2 ^ j % 2 : Nat) : Int) := by
  have h1 : c / 2 ^ j < 4294967296 := Nat.lt_of_le_of_lt (Nat.div_le_self _ _) (by omega)
  have e : (c : Int) / 2 ^ j % 4294967296 = ((c / 2 ^ j : Nat) : Int) := by
    rw [show (c : Int) / 2 ^ j = ((c / 2 ^ j : Nat) : Int) by push_cast; rfl]
    generalize c / 2 ^ j = q at h1
    omega
  rw [e, and1 _ h1]
theorem T_bit (y d : Nat) (hd : d < 2) : T (y ^^^ d) = if y % 2 ≠ d then y / 2 ^^^ 3988292384 else y / 2 := by
  unfold T
  have h2 : (y ^^^ d) / 2 = y / 2 := by rw [xor_half, show d / 2 = 0 by omega, Nat.xor_zero]
  rw [xor_odd, h2]
  by_cases h : y % 2 = d
  · rw [if_neg (by omega), if_neg (by omega)]
  · rw [if_pos (by omega), if_pos h]
theorem xor_pol (y : Nat) (h : y < 4294967296) : bits .xor .u32 ((y : Int) / 2) 3988292384 = ((y / 2 ^^^ 3988292384 : Nat) : Int) := u32_xor_nat (y / 2) 3988292384 (by omega) (by decide)
theorem xor_all (y : Nat) (h : y < 4294967296) : bits .xor .u32 (y : Int) 4294967295 = ((4294967295 ^^^ y : Nat) : Int) := by
  rw [Nat.xor_comm]; exact u32_xor_nat y 4294967295 h (by decide)

set_option maxRecDepth 100000 in
set_option maxHeartbeats 2000000 in
theorem ref_any (a : Option Addr) (len cap : Nat) (m : List Int) (w : World) (hm : BytesV w a len cap m) :
    Calls Tryd.prog 10 #[.slice a len cap] w fun e w' => e = .returned (.int .u32 ((crc m : Nat) : Int)) ∧ w' = w := by
  have hlM : len ≤ maxLen := Nat.le_trans hm.2.1 hm.2.2.1
  have hlm : (len : Int) ≤ 9223372036854775807 := by unfold maxLen at hlM; omega
  have hby := hm.2.2.2.1
  have hml := hm.1
  go_enter Tryd.func10, Tryd.ntmps10
  go_wp2_with fail
  go_loop [4, 3] (fun i r => ∃ k y : Nat, k ≤ len ∧ i = .int .i64 (k : Int) ∧ r = .int .u32 (y : Int) ∧ Hid (y = reg 4294967295 (m.take k))) (fun i _ => len - (intOf i).toNat)
  case atStart => exact ⟨0, 4294967295, Nat.zero_le _, rfl, rfl, by rw [List.take_zero, reg_nil]; exact rfl⟩
  case round =>
    obtain ⟨k, y, hk, rfl, rfl, Hy⟩ := hrel
    have hy : y < 4294967296 := by rw [Hy.out]; exact reg_lt _ (fun x hx => hby x (List.mem_of_mem_take hx)) _ (by decide)
    by_cases hkl : k < len
    · have hki : (k : Int) < (len : Int) := by omega
      have hk0 : (0 : Int) ≤ (k : Int) := by omega
      obtain ⟨b, off, rfl, c1⟩ := hm.at k hkl
      have hc := hby (m.getD k 0) (by rw [List.getD, List.getElem?_eq_getElem (by omega)]; exact List.getElem_mem _)
      have Hs := show Hid _ from reg_snoc m k 4294967295 (by omega)
      obtain ⟨c, hcc⟩ : ∃ c : Nat, m.getD k 0 = (c : Int) := ⟨(m.getD k 0).toNat, by omega⟩
      rw [hcc] at c1 hc Hs
      have hc' : c < 256 := by omega
      have hc0 : (0 : Int) ≤ (c : Int) := by omega
      clear hcc
      go_wp2_with fail
      go_loop [5, 3] (fun i r => ∃ j z : Nat, j ≤ 8 ∧ i = .int .i64 (j : Int) ∧ r = .int .u32 (z : Int) ∧ Hid (z = Ti j (y ^^^ c % 2 ^ j))) (fun i _ => 8 - (intOf i).toNat)
      case atStart => exact ⟨0, y, Nat.zero_le _, rfl, rfl, by rw [Nat.pow_zero, Nat.mod_one, Nat.xor_zero]; exact rfl⟩
      case round =>
        obtain ⟨j, z, hj, rfl, rfl, Hz⟩ := hrel
        have hz : z < 4294967296 := by rw [Hz.out]; exact Ti_lt _ (Nat.xor_lt_two_pow (n := 32) hy (by have := Nat.mod_le c (2 ^ j); omega))
        by_cases hjl : j < 8
        · have hji : (j : Int) < 8 := by omega
          have hj0 : (0 : Int) ≤ (j : Int) := by omega
          have hjw : (j : Int).toNat = j := by omega
          have e1 := bit_u32 c j hc'
          have e2 := and1 z hz
          have hd : c / 2 ^ j % 2 < 2 := Nat.mod_lt _ (by decide)
          have Hb := show Hid _ from bit_step y c j
          have Ht := show Hid _ from T_bit z (c / 2 ^ j % 2) hd
          generalize c / 2 ^ j % 2 = d at *
          have e3 := xor_pol z hz
          by_cases hpd : z % 2 = d
          · have Hpd := show Hid _ from hpd
            clear hpd
            have t1 : (((z % 2 : Nat) : Int) != (d : Int)) = false := by rw [Hpd.out]; simp
            generalize hp : z % 2 = p at e2 t1
            clear hp
            go_wp2
            go_roundw
            case rel => exact ⟨j + 1, z / 2, by omega, by go_num, rfl, by rw [← Hb.out, ← Hz.out, Ht.out, if_neg (by rw [Hpd.out]; simp)]; exact rfl⟩
            case measure => simp [intOf]; omega
          · have Hpd := show Hid (z % 2 ≠ d) from hpd
            have t1 : (((z % 2 : Nat) : Int) != (d : Int)) = true := by simp; omega
            clear hpd
            generalize hp : z % 2 = p at e2 t1
            clear hp
            go_wp2
            go_roundw
            case rel => exact ⟨j + 1, z / 2 ^^^ 3988292384, by omega, by go_num, rfl, by rw [← Hb.out, ← Hz.out, Ht.out, if_pos Hpd.out]; exact rfl⟩
            case measure => simp [intOf]; omega
        · have hji : ¬ (j : Int) < 8 := by omega
          have hj8 : j = 8 := by omega
          have Hz' : Hid (z = By y c) := by
            rw [Hz.out, hj8, Nat.mod_eq_of_lt (show c < 2 ^ 8 from hc')]; exact rfl
          clear hj8
          go_wp2
          go_roundw
          case rel => exact ⟨k + 1, by omega, by go_num, z, rfl, by rw [Hs.out, ← Hy.out, Int.toNat_natCast, Hz'.out]; exact rfl⟩
          case measure => simp [intOf]; omega
    · have hki : ¬ (k : Int) < (len : Int) := by omega
      have x1 := xor_all y hy
      go_wp2
      go_ret
      have e : m.take k = m := List.take_of_length_le (by omega)
      rw [e] at Hy
      rw [Hy.out]
      exact ⟨rfl, rfl⟩
end Go.Proofs.YtcpapcopnmapmaaDoor
