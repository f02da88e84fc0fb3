/- The walks of the page's table, turning, and sum. -/
import Derived.Test.YtomlekmbkbgnfaaDoorV1
namespace Go.Proofs.YtomlekmbkbgnfaaDoor
open Go.RowKit

def kArr : Array Value := (kays.map (Value.int .u32)).toArray
theorem kArr_size : kArr.size = 64 := by rw [kArr, List.size_toArray, List.length_map]; rfl
theorem kArr_at (i : Nat) (h : i < 64) : kArr[i]? = some (.int .u32 (kays.getD i 0)) := by
  have h' : i < kays.length := h
  simp [kArr, h', List.getD]
theorem kArr_one : kArr.all (·.oneCell') = true := all_oneCell_toArray fun v hv => by obtain ⟨x, _, rfl⟩ := List.mem_map.1 hv; rfl
theorem kArr_info : (Tryd.prog.info? 40).map (·.size) = some kArr.size := by rw [info40, kArr_size]

set_option maxHeartbeats 400000 in
theorem rot32_any (x n : Int) (w : World) (h1 : 0 < n) (h2 : n < 32) :
    Calls Tryd.prog 20 #[.int .u32 x, .int .i64 n] w fun e w' => e = .returned (.int .u32 (rotl x (32 - n).toNat)) ∧ w' = w := by
  go_enter Tryd.func20, Tryd.ntmps20
  go_wp2_with fail
  refine (rot_any x (-n) w (by omega) (by omega)).mono ?_
  rintro e w' ⟨rfl, rfl⟩
  go_wp2
  go_ret
  refine ⟨ret_int ?_, rfl⟩
  rw [show 32 + -n = 32 - n from by omega]

theorem wpList_value {P : Program} {ops : Array Oper} {rest : List Oper} {op : Oper} {a : Act} {w : World} {Q : Exit → Act → World → Prop} (hgd : op.guard = none) (v : Value) (hrun : (execOp a.eval op).run P w = .ok (.value v) w)
    (h : wpList P ops Q rest (a.put op.dst v) w) : wpList P ops Q (op :: rest) a w :=
  wpList_plain hgd fun _ hK => by
    unfold Oper.wp
    rw [hrun]
    exact hK _ _ h
set_option maxRecDepth 100000 in
set_option maxHeartbeats 1000000 in
theorem k256_any (w : World) : Calls Tryd.prog 18 #[] w fun e w' => e = .returned (.agg kArr) ∧ Below w.heap.size w w' := by
  go_enter Tryd.func18, Tryd.ntmps18
  go_upto_region 1 with fail
  go_wp2_with (first | refine wpList_store_new (by rfl) 40 (.tmp 0) (.tmp 1) (by rfl) _ kArr (by rfl) (by rfl) kArr_info (by rw [kArr_size]; rfl) kArr_one (by rfl) ?_ | refine wpList_value (by rfl) (.agg kArr) (by kernel_rfl) ?_)
  exact bodyPost_ret (results_own Tryd.results18 _ _ w.heap.size kArr _ rfl (own_new _ _ _) Tryd.underlying40 rfl kArr_info) rfl ⟨rfl, (Below.refl _ _).alloc (Nat.le_refl _) _⟩
end Go.Proofs.YtomlekmbkbgnfaaDoor
