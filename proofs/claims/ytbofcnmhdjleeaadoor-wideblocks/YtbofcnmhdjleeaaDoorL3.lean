/- The walk of the law ShaBlocks. -/
import Derived.Test.YtbofcnmhdjleeaaDoorW8
import Derived.Test.YtbofcnmhdjleeaaDoorV3
import Derived.Test.YtbofcnmhdjleeaaDoorL2
namespace Go.Proofs.YtbofcnmhdjleeaaDoor
open Go.RowKit

/-- The first k of n bytes are c, the others nought. -/
def filled (n k : Nat) (c : Int) : Array Value := (List.replicate k (Value.int .u8 c) ++ List.replicate (n - k) (Value.int .u8 0)).toArray
theorem filled_zero (n : Nat) (c : Int) : filled n 0 c = Array.replicate n (Value.int .u8 0) := by simp [filled]
theorem filled_full (n : Nat) (c : Int) : filled n n c = (u8s (List.replicate n c)).toArray := by simp [filled, u8s]
theorem filled_at (n k : Nat) (c : Int) (h : k < n) : (filled n k c)[k]? = some (.int .u8 0) := by
  rw [filled, List.getElem?_toArray, List.getElem?_append_right (by simp), List.length_replicate, Nat.sub_self, show n - k = (n - (k + 1)) + 1 from by omega, List.replicate_succ]; rfl
theorem filled_step (n k : Nat) (c : Int) (h : k < n) : (filled n k c).setIfInBounds k (.int .u8 c) = filled n (k + 1) c := by
  rw [filled, filled, List.setIfInBounds_toArray, show n - k = (n - (k + 1)) + 1 from by omega, List.replicate_succ]
  congr 1
  rw [List.set_append_right _ _ (by simp), List.length_replicate, Nat.sub_self, List.set_cons_zero, List.replicate_succ']
  simp

set_option maxRecDepth 100000 in
set_option maxHeartbeats 2000000 in
theorem blocks_law (x c : Int) (w : World) (hT : Tabs w) (hc : 0 ≤ c ∧ c < 256) :
    Calls Tryd.prog 4 #[.int .i64 x, .int .u8 c] w fun e w' => e = .returned (.bool true) ∧ Below w.heap.size w w' := by
  obtain ⟨n, hn, hnl⟩ := left_over x 299 (by omega)
  rw [show (((299 : Nat) : Int) + 1) = 300 from rfl] at hn
  have HN := show Hid _ from hn
  clear hn
  go_enter Tryd.func4, Tryd.ntmps4
  go_upto_region 2 with fail
  rw [HN.out]
  have hni : (n : Int) ≤ 299 := by omega
  clear HN
  go_wp2_with (at_make; refine wpList_make_cells _ (by rfl) _ _ 23 (by rfl) 5 _ Tryd.underlying23 info5 (by rfl) .i64 .i64 _ _ n (by rfl) (by rfl) rfl rfl (by omega) (by unfold maxLen; omega) ?_; intro w1 ho hgr)
  have hb1 := (Below.refl w.heap.size w).grown hgr (Nat.le_refl _) (fun k e => by cases e)
  clear hgr
  obtain ⟨b, Hb⟩ : ∃ b, Hid (b = w.heap.size) := ⟨_, rfl⟩
  rw [show (some ⟨w.heap.size, 0, none⟩ : Option Addr) = some ⟨b, 0, none⟩ from by rw [Hb.out]]
  rw [← filled_zero n c, ← Hb.out] at ho
  have hbz : w.heap.size ≤ b := by rw [Hb.out]; exact Nat.le_refl _
  clear Hb
  go_loopw [6] (fun i wx => ∃ k : Nat, k ≤ n ∧ i = .int .i64 (k : Int) ∧ Below w.heap.size w wx ∧ Own wx b (filled n k c) 5) (fun i _ => n - (intOf i).toNat)
  case atStart => exact ⟨0, Nat.zero_le _, rfl, hb1, ho⟩
  case round =>
    clear hb1 ho
    obtain ⟨k, hk, rfl, hb, ho⟩ := hrel
    by_cases hkn : k < n
    · have hki : (k : Int) < (n : Int) := by omega
      have hk0 : (0 : Int) ≤ (k : Int) := by omega
      have cO := ho.cell (filled_at n k c hkn)
      have fO := ho.frozen k
      go_wp2_with fail
      have hg := grown_setCell wr b k (.int .u8 c)
      refine ⟨⟨k + 1, by omega, by go_num, belg hb hg hbz, ?_⟩, by simp [intOf]; omega⟩
      rw [← filled_step n k c hkn]
      exact ho.setCell k _
    · have hki : ¬ (k : Int) < (n : Int) := by omega
      have hk' : k = n := by omega
      rw [hk', filled_full] at ho
      clear hk'
      obtain ⟨m, Hm⟩ : ∃ m, Hid (m = List.replicate n c) := ⟨_, rfl⟩
      rw [← Hm.out] at ho
      have hml : m.length = n := by rw [Hm.out, List.length_replicate]
      have hV : BytesV wr (some ⟨b, 0, none⟩) n n m := ⟨hml.symm, Nat.le_refl _, by unfold maxLen; omega, by rw [Hm.out]; intro y hy; rw [List.mem_replicate] at hy; rw [hy.2]; exact hc, fun _ => ⟨b, 0, rfl, ho.range⟩⟩
      have e3 := dig_eq m
      have hmn : m.length ≤ 299 := by omega
      have HL := show Hid _ from hml
      clear hml
      go_wp2_with fail
      have hr := one_row wr (some ⟨b, 0, none⟩) n n m hV (fun e => by cases e)
      have hb2 := bel hb (alloc_below wr (.cells #[.slice (some ⟨b, 0, none⟩) n n] 23))
      have hV2 := hV.below (alloc_below wr (.cells #[.slice (some ⟨b, 0, none⟩) n n] 23))
      refine (sum_any _ 1 1 [m] _ hr (hT.below hb2) (by rw [flat_one]; omega)).mono ?_
      rintro e w2 ⟨rfl, hb3⟩
      rw [flat_one]
      have hb4 := bel hb2 hb3
      have hV3 := hV2.below hb3
      clear hr hb2 hV2 hb3
      go_wp2_with fail
      have h9 := ref_any (some ⟨b, 0, none⟩) n m w2 (by rw [HL.out]; exact hV3) (fun e => by cases e) (by omega)
      rw [HL.out] at h9
      refine h9.mono ?_
      clear h9
      rintro e w3 ⟨rfl, hb5⟩
      have hb6 := bel hb4 hb5
      go_wp2_with fail
      refine (wakes_any _ (hT.below hb6)).mono ?_
      rintro e w4 ⟨rfl, hb7⟩
      go_wp2
      go_ret
      exact ⟨rfl, bel hb6 hb7⟩
end Go.Proofs.YtbofcnmhdjleeaaDoor
