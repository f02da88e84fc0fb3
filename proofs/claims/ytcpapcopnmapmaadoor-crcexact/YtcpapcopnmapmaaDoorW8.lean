/- The walk of wakes. -/
import Derived.Test.YtcpapcopnmapmaaDoorW1
import Derived.Lib.SlBytesConst
namespace Go.Proofs.YtcpapcopnmapmaaDoor
open Go.RowKit
theorem crc_nine : crc [49, 50, 51, 52, 53, 54, 55, 56, 57] = 3421780262 := by decide +kernel
theorem crc_none : crc [] = 0 := by decide +kernel
set_option maxRecDepth 100000 in
set_option maxHeartbeats 2000000 in
theorem wakes_any (w : World) (hT : Tabs w) :
    Calls Tryd.prog 12 #[] w fun e w' => e = .returned (.bool true) ∧ Below w.heap.size w w' := by
  have kc := fun (w : World) (C : Array Value) (n c : Nat) => Lib.run_convert_bytes_const (P := Tryd.prog) w 22 5 C n c Tryd.underlying22 Tryd.underlying5
  go_enter Tryd.func12, Tryd.ntmps12
  go_wp2_with fail
  clear kc
  have hr := bytesV_new w [49, 50, 51, 52, 53, 54, 55, 56, 57] (9, 10) (by intro x hx; simp at hx; omega) (by decide)
  have hb1 := alloc_below w (.cells (u8s [49, 50, 51, 52, 53, 54, 55, 56, 57]).toArray 5 (9, 10))
  refine (sum_any _ _ _ [49, 50, 51, 52, 53, 54, 55, 56, 57] _ hr (hT.below hb1)).mono ?_
  rintro e w4 ⟨rfl, rfl⟩
  rw [crc_nine]
  go_wp2
  go_ret
  exact ⟨rfl, hb1⟩
end Go.Proofs.YtcpapcopnmapmaaDoor
