/- The walk of Sum. -/
import Derived.Test.YtcpapcopnmapmaaDoorW9
namespace Go.Proofs.YtcpapcopnmapmaaDoor
open Go.RowKit

/-- The table of four bits lies in its block. -/
def Tabs (w : World) : Prop := 0 < w.heap.size ∧ ∀ i, i < 16 → w.cell? ⟨0, i, none⟩ = some (.int .u32 ((quarts.getD i 0 : Nat) : Int))
theorem Tabs.below {w w' : World} (h : Tabs w) (hB : Below w.heap.size w w') : Tabs w' :=
  ⟨Nat.lt_of_lt_of_le h.1 hB.size, fun i hi => by rw [hB.cell (p := ⟨0, i, none⟩) h.1]; exact h.2 i hi⟩
theorem quart_lt (i : Nat) (hi : i < 16) : quarts.getD i 0 < 4294967296 := by rw [quarts_eq i hi]; exact Ti_lt 4 (by omega)
theorem and15 (y : Nat) (h : y < 4294967296) : bits .and .u32 (y : Int) 15 = ((y % 16 : Nat) : Int) := by
  have := u32_and_nat y 15 h (by decide)
  rw [nat_mask4] at this; exact this
/-- Four steps, as the program takes them. -/
theorem four_u32 (y : Nat) (h : y < 4294967296) : bits .xor .u32 ((y : Int) / 16) ((quarts.getD (y % 16) 0 : Nat) : Int) = ((Ti 4 y : Nat) : Int) := by
  have := u32_xor_nat (y / 16) (quarts.getD (y % 16) 0) (by omega) (quart_lt _ (Nat.mod_lt _ (by decide)))
  rw [four] at this
  rw [← this]; rfl
theorem reg_snoc (m : List Int) (k r : Nat) (hk : k < m.length) : reg r (m.take (k + 1)) = By (reg r (m.take k)) (m.getD k 0).toNat := by
  rw [List.take_succ_eq_append_getElem hk, reg_append]
  rw [reg_cons, reg_nil, List.getD, List.getElem?_eq_getElem hk, Option.getD_some]
theorem not_u32 (r : Nat) (h : r < 4294967296) : bits .xor .u32 (if IntKind.u32.signed = true then -1 else IntKind.u32.max) (r : Int) = ((4294967295 ^^^ r : Nat) : Int) := u32_xor_nat 4294967295 r (by decide) h

set_option maxRecDepth 100000 in
set_option maxHeartbeats 1000000 in
theorem sum_any (a : Option Addr) (len cap : Nat) (m : List Int) (w : World) (hm : BytesV w a len cap m) (hT : Tabs w) :
    Calls Tryd.prog 9 #[.slice a len cap] w fun e w' => e = .returned (.int .u32 ((crc m : Nat) : Int)) ∧ w' = w := by
  have hlM : len ≤ maxLen := Nat.le_trans hm.2.1 hm.2.2.1
  have hlm : (len : Int) ≤ 9223372036854775807 := by unfold maxLen at hlM; omega
  have hby := hm.2.2.2.1
  have hml := hm.1
  go_enter Tryd.func9, Tryd.ntmps9
  go_wp2_with fail
  go_loop [8, 3] (fun i r => ∃ k y : Nat, k ≤ len ∧ i = .int .i64 (k : Int) ∧ r = .int .u32 (y : Int) ∧ Hid (y = reg 4294967295 (m.take k))) (fun i _ => len - (intOf i).toNat)
  case atStart => exact ⟨0, 4294967295, Nat.zero_le _, rfl, rfl, rfl⟩
  case round =>
    obtain ⟨k, y, hk, rfl, rfl, Hy⟩ := hrel
    have hy : y < 4294967296 := by rw [Hy.out]; exact reg_lt _ (fun x hx => hby x (List.mem_of_mem_take hx)) _ (by decide)
    by_cases hkl : k < len
    · have hki : (k : Int) < (len : Int) := by omega
      have hk0 : (0 : Int) ≤ (k : Int) := by omega
      obtain ⟨b, off, rfl, c1⟩ := hm.at k hkl
      have hc := hby (m.getD k 0) (by rw [List.getD, List.getElem?_eq_getElem (by omega)]; exact List.getElem_mem _)
      have Hs := show Hid _ from reg_snoc m k 4294967295 (by omega)
      obtain ⟨c, hcc⟩ : ∃ c : Nat, m.getD k 0 = (c : Int) := ⟨(m.getD k 0).toNat, by omega⟩
      rw [hcc] at c1 hc Hs
      have hc' : c < 256 := by omega
      have hc0 : (0 : Int) ≤ (c : Int) := by omega
      have x1 := u32_xor_nat y c hy (by omega)
      have Hx := show Hid (y ^^^ c = y ^^^ c) from rfl
      have hyc : y ^^^ c < 4294967296 := Nat.xor_lt_two_pow (n := 32) hy (by omega)
      generalize hz : y ^^^ c = z at x1 hyc
      have Hz := show Hid _ from hz
      clear hz
      have x2 := and15 z hyc
      have x3 := four_u32 z hyc
      have g1 := hT.2 (z % 16) (Nat.mod_lt _ (by decide))
      have hz1 : Ti 4 z < 4294967296 := Ti_lt 4 hyc
      have x4 := and15 _ hz1
      have x5 := four_u32 _ hz1
      have g2 := hT.2 (Ti 4 z % 16) (Nat.mod_lt _ (by decide))
      have Hb := show Hid _ from By_four y c
      have i1 : ((z % 16 : Nat) : Int) < 16 := by omega
      have i2 : (0 : Int) ≤ ((z % 16 : Nat) : Int) := by omega
      have i3 : ((Ti 4 z % 16 : Nat) : Int) < 16 := by omega
      have i4 : (0 : Int) ≤ ((Ti 4 z % 16 : Nat) : Int) := by omega
      have Hf := show Hid (Ti 4 z = Ti 4 z) from rfl
      generalize quarts.getD (z % 16) 0 = t1 at *
      generalize quarts.getD (Ti 4 z % 16) 0 = t2 at *
      generalize z % 16 = q1 at *
      generalize Ti 4 z % 16 = q2 at *
      generalize hz1 : Ti 4 z = z1 at x3 x4 x5
      have Hz1 := show Hid _ from hz1
      clear hz1
      generalize hz2 : Ti 4 z1 = z2 at x5
      have Hz2 := show Hid _ from hz2
      clear hz2
      go_wp2
      go_roundw
      case rel => exact ⟨k + 1, z2, by omega, by go_num, rfl, by rw [Hs.out, ← Hy.out, Int.toNat_natCast, Hb.out, Hz.out, Hz1.out, Hz2.out]; exact rfl⟩
      case measure => simp [intOf]; omega
    · have hki : ¬ (k : Int) < (len : Int) := by omega
      have x1 := not_u32 y hy
      go_wp2_with fail
      go_ret
      have e : m.take k = m := List.take_of_length_le (by omega)
      rw [e] at Hy
      rw [Hy.out]
      exact ⟨rfl, rfl⟩
end Go.Proofs.YtcpapcopnmapmaaDoor
