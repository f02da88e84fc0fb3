/- The walks of the page's number p, of less, of what is left by p, of sums and differences by p. -/
import Derived.Test.YtofoihebhdpjlaaDoorE3
namespace Go.Proofs.YtofoihebhdpjlaaDoor
open Go.RowKit
/-- The page's sum, with what is carried. -/
theorem add_any (a b : Nat) (ha : a < R256) (hb : b < R256) (w : World) :
    Calls Tryd.prog 31 #[.agg (numA a), .agg (numA b)] w fun e w' => (∃ d c : Nat, e = .returned (.tuple #[.agg (numA d), .int .u64 (c : Int)]) ∧ d < R256 ∧ c ≤ 1 ∧ a + b = d + R256 * c) ∧ Below w.heap.size w w' := by
  refine (add_dig (dig a) (dig b) (fun i _ => dig_lt a i) (fun i _ => dig_lt b i) w).mono ?_
  rintro e w' ⟨⟨h, c, rfl, hh, hc, he⟩, hB⟩
  rw [vl_num a ha, vl_num b hb, pow4] at he
  exact ⟨⟨vl h 4, c, by rw [A4_num h hh], vl4_lt h hh, hc, he⟩, hB⟩
/-- The page's difference, with what is borrowed. -/
theorem sub_any (a b : Nat) (ha : a < R256) (hb : b < R256) (w : World) :
    Calls Tryd.prog 30 #[.agg (numA a), .agg (numA b)] w fun e w' => (∃ d c : Nat, e = .returned (.tuple #[.agg (numA d), .int .u64 (c : Int)]) ∧ d < R256 ∧ c ≤ 1 ∧ a + R256 * c = d + b) ∧ Below w.heap.size w w' := by
  refine (sub_dig (dig a) (dig b) (fun i _ => dig_lt a i) (fun i _ => dig_lt b i) w).mono ?_
  rintro e w' ⟨⟨h, c, rfl, hh, hc, he⟩, hB⟩
  rw [vl_num a ha, vl_num b hb, pow4] at he
  exact ⟨⟨vl h 4, c, by rw [A4_num h hh], vl4_lt h hh, hc, he⟩, hB⟩
theorem sub_big {a b y : Nat} (ha : a < R256) (hb : b < R256) (hy : a = y + b) (w : World) :
    Calls Tryd.prog 30 #[.agg (numA a), .agg (numA b)] w fun e w' => e = .returned (.tuple #[.agg (numA y), .int .u64 0]) ∧ Below w.heap.size w w' := by
  refine (sub_any a b ha hb w).mono ?_
  rintro e w' ⟨⟨d, c, rfl, hd, hc, he⟩, hB⟩
  have : c = 0 ∨ c = 1 := by omega
  rcases this with rfl | rfl
  · obtain rfl : d = y := by omega
    exact ⟨rfl, hB⟩
  · omega
set_option maxRecDepth 100000 in
set_option maxHeartbeats 1000000 in
theorem less_any (a b : Nat) (ha : a < R256) (hb : b < R256) (w : World) : Calls Tryd.prog 20 #[.agg (numA a), .agg (numA b)] w fun e w' => e = .returned (.bool (decide (a < b))) ∧ Below w.heap.size w w' := by
  have hz := (zero_of_info zeroNum).1
  go_enter Tryd.func20, Tryd.ntmps20
  go_upto_region 1 with fail
  have oA := (own_new w (numA a) 36).alloc (.cells (numA b) 36)
  have oB := own_new (w.alloc (.cells (numA a) 36)) (numA b) 36
  rw [World.size_alloc] at oB
  have hbW := bel (alloc_below w (.cells (numA a) 36)) (alloc_below _ (.cells (numA b) 36))
  generalize (w.alloc (.cells (numA a) 36)).alloc (.cells (numA b) 36) = W at *
  go_wp2_with (first
    | refine wpList_load_own (by rfl) 36 (.tmp 2) (by rfl) w.heap.size (by rfl) (numA a) _ oA Tryd.underlying36 (by rfl) (numA_info a) ?_
    | refine wpList_load_own (by rfl) 36 (.tmp 3) (by rfl) (w.heap.size + 1) (by rfl) (numA b) _ oB Tryd.underlying36 (by rfl) (numA_info b) ?_)
  refine (sub_any a b ha hb W).mono ?_
  rintro e w1 ⟨⟨d, c, rfl, hd, hc, he⟩, hb1⟩
  have hb2 := bel hbW hb1
  have hbo := bor_lt hd hc he
  clear he
  obtain ⟨l, Hl⟩ : ∃ l, Hid (decide (a < b) = l) := ⟨_, rfl⟩
  rw [Hl.out] at hbo
  clear hbW hb1 oA oB
  go_wp2_with (refine wpList_store_new (by rfl) 36 (.tmp 5) (.tmp 11) (by rfl) _ (numA d) (by rfl) (by rfl) (numA_info d) (by rfl) (numA_one d) (by rfl) ?_)
  go_ret
  rw [Hl.out]
  exact ⟨rfl, bel hb2 (alloc_below _ _)⟩
end Go.Proofs.YtofoihebhdpjlaaDoor
