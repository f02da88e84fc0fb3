/- The walk of the law CrcExact. -/
import Derived.Test.YtcpapcopnmapmaaDoorW2
import Derived.Test.YtcpapcopnmapmaaDoorW8
namespace Go.Proofs.YtcpapcopnmapmaaDoor
open Go.RowKit
theorem below_none {w w' : World} (h : w.grownBy w' none) : Below w.heap.size w w' := (Below.refl _ _).grown h (Nat.le_refl _) (fun k e => by cases e)
set_option maxRecDepth 100000 in
set_option maxHeartbeats 2000000 in
theorem exact_any (a : Option Addr) (len cap : Nat) (m : List Int) (w : World) (hm : BytesV w a len cap m) (hn : a = none → cap = 0) (hT : Tabs w) :
    Calls Tryd.prog 3 #[.slice a len cap] w fun e w' => e = .returned (.bool true) ∧ Below w.heap.size w w' := by
  by_cases hlen : 400 < len
  · have hi : (400 : Int) < (len : Int) := by omega
    go_enter Tryd.func3, Tryd.ntmps3
    go_wp2_with fail
    go_ret
    exact ⟨rfl, Below.refl _ _⟩
  · have hi : ¬ (400 : Int) < (len : Int) := by omega
    have hi' : (len : Int) ≤ 400 := by omega
    go_enter Tryd.func3, Tryd.ntmps3
    go_wp2_with fail
    have hml := hm.1
    subst hml
    refine (twin_any a cap m w hm hn (by omega)).mono ?_
    rintro e w1 ⟨a1, cap1, rfl, hO, hV, hg⟩
    have hb := below_none hg
    go_wp2_with fail
    refine (sum_any a1 m.length cap1 m w1 hV (hT.below hb)).mono ?_
    rintro e w2 ⟨rfl, rfl⟩
    go_wp2_with fail
    refine (ref_any a m.length cap m w2 (hm.below hb)).mono ?_
    rintro e w3 ⟨rfl, rfl⟩
    have hbe : (((crc m : Nat) : Int) == ((crc m : Nat) : Int)) = true := beq_self_eq_true _
    generalize ((crc m : Nat) : Int) = x at *
    go_wp2_with fail
    refine (bytes_any a1 a m.length cap1 cap m w3 hV (hm.below hb)).mono ?_
    rintro e w4 ⟨rfl, hb2⟩
    have hb3 := bel hb hb2
    go_wp2_with fail
    refine (wakes_any _ (hT.below hb3)).mono ?_
    rintro e w5 ⟨rfl, hb4⟩
    go_wp2
    go_ret
    exact ⟨rfl, bel hb3 hb4⟩
end Go.Proofs.YtcpapcopnmapmaaDoor
