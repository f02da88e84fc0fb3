/- The page's bytes of a number. -/
import Derived.Test.YtaabcllghniaoabDoorHD
import Derived.Test.YtaabcllghniaoabDoorBT
namespace Go.Proofs.YtaabcllghniaoabDoor
open Go Go.RowKit
def sliceLen : Value → Nat | .slice _ n _ => n | _ => 0
theorem be_bys (n k : Nat) : Bys (be n k) := be_bytes n k
set_option maxRecDepth 100000 in
set_option maxHeartbeats 1000000 in
theorem pbe_is (n k : Nat) (hn : n < 9223372036854775808) (hk : k ≤ 8) (w : World) : Calls Tryd.prog 37 #[.int .i64 n, .int .i64 k] w fun e w' => ∃ a c, e = .returned (.slice a k c) ∧ OwnBytes w' w.heap.size (.slice a k c) (be n k) ∧ Below w.heap.size w w' := by
  have hn0 : (0 : Int) ≤ (n : Int) := by omega
  have hn1 : (n : Int) ≤ 9223372036854775807 := by omega
  have hk8 : (k : Int) ≤ 8 := by omega
  go_enter Tryd.func37, Tryd.ntmps37
  go_upto_region 3 with fail
  go_loopw [5, 6] (fun v i wr => ∃ (j : Nat) (a : Option Addr) (c : Nat), j ≤ k ∧ i = .int .i64 ((k : Int) - 1 - j) ∧ v = .slice a j c ∧ OwnBytes wr w.heap.size (.slice a j c) ((be n k).take j) ∧ Below w.heap.size w wr) (fun _ i _ => (intOf i + 1).toNat)
  case atStart => exact ⟨0, none, 0, Nat.zero_le _, by simp, rfl, by rw [List.take_zero]; exact ownBytes_nil _ _, Below.refl _ _⟩
  case round =>
    obtain ⟨j, a, c, hj, rfl, rfl, hO, hb⟩ := hrel
    have hlj : ((be n k).take j).length = j := by rw [List.length_take, be_length, Nat.min_eq_left hj]
    have bO : Bys ((be n k).take j) := fun x hx => be_bys _ _ x (List.mem_of_mem_take hx)
    by_cases hlt : j < k
    · obtain ⟨i, Hi, hi8⟩ : ∃ i : Nat, Hid (k = i + 1 + j) ∧ i ≤ 7 := ⟨k - 1 - j, show k = k - 1 - j + 1 + j by omega, by omega⟩
      have ei : (k : Int) - 1 - (j : Int) = (i : Int) := by have := Hi.out; omega
      rw [ei]
      have EI := show Hid _ from ei
      clear ei
      have hi0 : (0 : Int) ≤ (i : Int) := by omega
      have hi7 : (i : Int) ≤ 7 := by omega
      have HT : Hid ((be n k).take (j + 1) = (be n k).take j ++ [(n : Int) / 2 ^ (8 * i) % 256]) := by
        show _ = _
        rw [be_take n k j hlt, show k - 1 - j = i by have := Hi.out; omega, show (256 : Nat) = 2 ^ 8 by decide, ← Nat.pow_mul]
        push_cast
        rfl
      have HX : Hid (0 ≤ (n : Int) / 2 ^ (8 * i) % 256 ∧ (n : Int) / 2 ^ (8 * i) % 256 < 256) := by show _ ∧ _; generalize (n : Int) / 2 ^ (8 * i) = y; omega
      go_wp2_with (at_builtin; refine wpList_append_bytes (by rfl) (.tmp 13) (.tmp 20) (by rfl) w.heap.size _ _ (by rfl) (hO.below (alloc_below _ _)) bO _ 1 1 [(n : Int) / 2 ^ (8 * i) % 256] (by rfl) (bytesV_one _ _ HX.out) (fun h => by cases h) (by rw [hlj]; simp; omega) (by have := hb.size; simp; omega) ?_; intro a3 c3 w3 hO3 hg3 hV3)
      go_roundw
      case rel =>
        have hb3 : Below w.heap.size w w3 := by
          have h2 := hb.alloc hb.size (.cells #[.int .u8 ((n : Int) / 2 ^ (8 * i) % 256)] 5)
          exact h2.grown hg3 h2.size (fun g e => hO.base_le e)
        rw [hlj] at hO3
        refine ⟨j + 1, a3, c3, hlt, by have := Hi.out; congr 1; omega, rfl, ?_, hb3⟩
        rw [HT.out]
        exact hO3
      case measure => simp [intOf]
    · obtain rfl : j = k := by omega
      have hneg : ¬ (0 : Int) ≤ (j : Int) - 1 - (j : Int) := by omega
      go_wp2_with fail
      go_ret
      refine ⟨a, c, rfl, ?_, hb⟩
      rw [List.take_of_length_le (by rw [be_length]; exact Nat.le_refl _)] at hO
      exact hO
end Go.Proofs.YtaabcllghniaoabDoor
