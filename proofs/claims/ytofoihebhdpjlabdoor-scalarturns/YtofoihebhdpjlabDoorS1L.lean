/- The walk of the page's L. -/
import Derived.Test.YtofoihebhdpjlabDoorS0
namespace Go.Proofs.YtofoihebhdpjlabDoor
open Go.RowKit
theorem Kp.h1 {b : Nat} {A : Array Value} {t : TypeId} {l : List (Nat × Array Value × TypeId)} {w0 w : World} (h : Kp ((b, A, t) :: l) w0 w) : Own w b A t := h.at b A t (by simp)
theorem Kp.h2 {p1 : Nat × Array Value × TypeId} {b : Nat} {A : Array Value} {t : TypeId} {l : List (Nat × Array Value × TypeId)} {w0 w : World} (h : Kp (p1 :: (b, A, t) :: l) w0 w) : Own w b A t := h.at b A t (by simp)
theorem Kp.h3 {p1 p2 : Nat × Array Value × TypeId} {b : Nat} {A : Array Value} {t : TypeId} {l : List (Nat × Array Value × TypeId)} {w0 w : World} (h : Kp (p1 :: p2 :: (b, A, t) :: l) w0 w) : Own w b A t := h.at b A t (by simp)
theorem Kp.h4 {p1 p2 p3 : Nat × Array Value × TypeId} {b : Nat} {A : Array Value} {t : TypeId} {l : List (Nat × Array Value × TypeId)} {w0 w : World} (h : Kp (p1 :: p2 :: p3 :: (b, A, t) :: l) w0 w) : Own w b A t := h.at b A t (by simp)
set_option maxRecDepth 100000 in
theorem L_any (w : World) : Calls Tryd.prog 5 #[] w fun e w' => e = .returned (.agg (numA LL)) ∧ Below w.heap.size w w' := by
  have hz := (zero_of_info zeroLit).1
  obtain ⟨A, HA⟩ : ∃ A, Hid (numA LL = A) := ⟨_, rfl⟩
  have hc : Hid (A = _) := HA.out.symm.trans L_cells
  have hi : (Tryd.prog.info? 26).map (·.size) = some A.size := by rw [← HA.out]; exact numA_info LL
  have h1 : A.all (·.oneCell') = true := by rw [← HA.out]; exact numA_one LL
  have hs : 4 = A.size := by rw [← HA.out]; exact (numA_size LL).symm
  rw [HA.out]
  clear HA
  go_enter Tryd.func5, Tryd.ntmps5
  go_upto_region 1 with fail
  go_wp2_with (refine wpList_store_new (by rfl) 26 (.tmp 0) (.tmp 1) (by rfl) _ A (by rfl) (by rw [hc.out]; rfl) hi hs h1 (by rfl) ?_)
  refine bodyPost_ret (results_own Tryd.results5 _ _ w.heap.size A _ (by rfl) (own_new w A 26) Tryd.underlying26 rfl hi) rfl ⟨rfl, alloc_below _ _⟩
end Go.Proofs.YtofoihebhdpjlabDoor
