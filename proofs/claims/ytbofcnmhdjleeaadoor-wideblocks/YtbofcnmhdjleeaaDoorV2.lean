/- The walks of the page's table, turning, and sum. -/
import Derived.Test.YtbofcnmhdjleeaaDoorV1
namespace Go.Proofs.YtbofcnmhdjleeaaDoor
open Go.RowKit

def kArr : Array Value := (kays.map (Value.int .u64)).toArray
theorem kArr_size : kArr.size = 80 := by rw [kArr, List.size_toArray, List.length_map]; rfl
theorem kArr_at (i : Nat) (h : i < 80) : kArr[i]? = some (.int .u64 (kays.getD i 0)) := by
  have h' : i < kays.length := h
  simp [kArr, h', List.getD]
theorem kArr_one : kArr.all (·.oneCell') = true := all_oneCell_toArray fun v hv => by obtain ⟨x, _, rfl⟩ := List.mem_map.1 hv; rfl
theorem kArr_info : (Tryd.prog.info? 43).map (·.size) = some kArr.size := by rw [info43, kArr_size]

set_option maxHeartbeats 400000 in
theorem rot64_any (x n : Int) (w : World) (h1 : 0 < n) (h2 : n < 64) :
    Calls Tryd.prog 17 #[.int .u64 x, .int .i64 n] w fun e w' => e = .returned (.int .u64 (rotl x (64 - n).toNat)) ∧ w' = w := by
  go_enter Tryd.func17, Tryd.ntmps17
  go_wp2_with fail
  refine (rot_any x (-n) w (by omega) (by omega)).mono ?_
  rintro e w' ⟨rfl, rfl⟩
  go_wp2
  go_ret
  refine ⟨ret_int ?_, rfl⟩
  rw [show 64 + -n = 64 - n from by omega]

set_option maxRecDepth 100000 in
set_option maxHeartbeats 1000000 in
theorem k512_any (w : World) : Calls Tryd.prog 15 #[] w fun e w' => e = .returned (.agg kArr) ∧ Below w.heap.size w w' := by
  have hz := (zero_of_info zero43).1
  go_enter Tryd.func15, Tryd.ntmps15
  go_upto_region 1 with fail
  go_wp2_with (first | refine wpList_store_new (by rfl) 43 (.tmp 0) (.tmp 1) (by rfl) _ kArr (by rfl) (by rfl) kArr_info (by rw [kArr_size]; rfl) kArr_one (by rfl) ?_ | refine wpList_value (by rfl) (.agg kArr) (by kernel_rfl) ?_)
  exact bodyPost_ret (results_own Tryd.results15 _ _ w.heap.size kArr _ rfl (own_new _ _ _) Tryd.underlying43 rfl kArr_info) rfl ⟨rfl, (Below.refl _ _).alloc (Nat.le_refl _) _⟩
end Go.Proofs.YtbofcnmhdjleeaaDoor
