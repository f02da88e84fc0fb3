/- The walk of wakes. -/
import Derived.Test.YtbofcnmhdjleeaaDoorK3
import Derived.Test.YtbofcnmhdjleeaaDoorM3
import Derived.Lib.SlBytesConst
namespace Go.Proofs.YtbofcnmhdjleeaaDoor
open Go.RowKit
/-- The world behind the three parts of "abc". -/
def abcW (w : World) : World := ((w.alloc (.cells #[.int .u8 97] 5 (1, 2))).alloc (.cells #[.int .u8 98, .int .u8 99] 5 (2, 3))).alloc (.cells #[.slice (some ⟨w.heap.size, 0, none⟩) 1 1, .slice none 0 0, .slice (some ⟨w.heap.size + 1, 0, none⟩) 2 2] 23)
theorem abc_rows (w : World) : RowsV (abcW w) (some ⟨w.heap.size + 1 + 1, 0, none⟩) 3 3 [[97], [], [98, 99]] ∧ Below w.heap.size w (abcW w) := by
  have hv1 := bytesV_new w [97] (1, 2) (by intro x hx; simp at hx; omega) (by decide)
  have hb1 := alloc_below w (.cells (u8s [97]).toArray 5 (1, 2))
  have hv2 := bytesV_new (w.alloc (.cells (u8s [97]).toArray 5 (1, 2))) [98, 99] (2, 3) (by intro x hx; simp at hx; omega) (by decide)
  have hb2 := alloc_below (w.alloc (.cells (u8s [97]).toArray 5 (1, 2))) (.cells (u8s [98, 99]).toArray 5 (2, 3))
  have hv1 := hv1.below hb2
  have hr := rowsV_new ((w.alloc (.cells (u8s [97]).toArray 5 (1, 2))).alloc (.cells (u8s [98, 99]).toArray 5 (2, 3))) [(some ⟨w.heap.size, 0, none⟩, 1, [97]), (none, 0, []), (some ⟨w.heap.size + 1, 0, none⟩, 2, [98, 99])] (by
    intro p hp
    simp only [List.mem_cons, List.not_mem_nil, or_false] at hp
    rw [World.size_alloc] at hv2
    rcases hp with rfl | rfl | rfl
    · exact ⟨hv1, fun h => by cases h⟩
    · exact ⟨bytesV_nil _, fun _ => rfl⟩
    · exact ⟨hv2, fun h => by cases h⟩) (show 3 ≤ maxLen by decide)
  rw [World.size_alloc, World.size_alloc] at hr
  exact ⟨hr, bel (bel hb1 hb2) (alloc_below _ _)⟩
set_option maxRecDepth 100000 in
set_option maxHeartbeats 2000000 in
theorem wakes_any (w : World) (hT : Tabs w) :
    Calls Tryd.prog 10 #[] w fun e w' => e = .returned (.bool true) ∧ Below w.heap.size w w' := by
  have hz2 := (zero_of_info zero25).1
  have kc := fun (w : World) (C : Array Value) (n c : Nat) => Lib.run_convert_bytes_const (P := Tryd.prog) w 23 5 C n c Tryd.underlying23 Tryd.underlying5
  have kc2 := fun (w : World) (x : Obj) (C : Array Value) (n c : Nat) => kc (w.alloc x) C n c
  simp only [World.size_alloc] at kc2
  go_enter Tryd.func10, Tryd.ntmps10
  go_wp2_with fail
  clear kc kc2
  obtain ⟨hr, hb13⟩ := abc_rows w
  refine (sum_any _ _ _ [[97], [], [98, 99]] _ hr (hT.below hb13) (by decide)).mono ?_
  rintro e w4 ⟨rfl, hb4⟩
  have hb5 := bel hb13 hb4
  rw [show [[97], [], [98, 99]].flatten = [(97 : Int), 98, 99] from rfl]
  have hsz := dig_size [97, 98, 99]
  have hi := dig_info [97, 98, 99]
  have h1 := dig_one [97, 98, 99]
  have a0 : (dig [97, 98, 99])[0]? = some (.int .u8 221) := by rw [dig, digest_abc]; rfl
  have a1 : (dig [97, 98, 99])[1]? = some (.int .u8 175) := by rw [dig, digest_abc]; rfl
  have a2 : (dig [97, 98, 99])[2]? = some (.int .u8 53) := by rw [dig, digest_abc]; rfl
  have a3 : (dig [97, 98, 99])[3]? = some (.int .u8 161) := by rw [dig, digest_abc]; rfl
  have a62 : (dig [97, 98, 99])[62]? = some (.int .u8 164) := by rw [dig, digest_abc]; rfl
  have a63 : (dig [97, 98, 99])[63]? = some (.int .u8 159) := by rw [dig, digest_abc]; rfl
  generalize dig [97, 98, 99] = A at *
  clear hb4 hb13 hr
  go_upto_region 2 with (refine wpList_store_new (by rfl) 25 (.tmp 1) (.tmp 7) (by rfl) _ A (by rfl) (by rfl) hi (by rw [hsz]; rfl) h1 (by rfl) ?_)
  have oA := own_new w4 A 25
  have hb6 := hb5.alloc hb5.size (.cells A 25)
  generalize w4.alloc (.cells A 25) = W at *
  have c0 := oA.cell a0
  have c1 := oA.cell a1
  have c2 := oA.cell a2
  have c3 := oA.cell a3
  have c62 := oA.cell a62
  have c63 := oA.cell a63
  clear a0 a1 a2 a3 a62 a63 hi h1 hsz oA
  go_wp2
  go_ret
  exact ⟨rfl, hb6⟩
end Go.Proofs.YtbofcnmhdjleeaaDoor
