/- The walk of the padding. -/
import Derived.Test.YtbofcnmhdjleeaaDoorW3
namespace Go.Proofs.YtbofcnmhdjleeaaDoor
open Go.RowKit

theorem info5 : (Tryd.prog.info? 5).map (fun i => (i.zero, i.size, i.bytes)) = some (some (.int .u8 0), 1, 1) := by kernel_rfl

theorem put8_list (L1 L2 : List Value) (x : Int) (off : Nat) (h : off = L1.length) : put8 (L1 ++ (List.replicate 8 (Value.int .u8 0) ++ L2)).toArray off x 8 = (L1 ++ (u8s (be8 x) ++ L2)).toArray := by
  subst h
  simp [put8, u8s, be8, List.replicate_succ]
theorem below_grown {B : Nat} {a w w' : World} {b : Nat} (h : Below B a w) (hg : w.grownBy w' (some b)) (hB : B ≤ w.heap.size) (hb : B ≤ b) : Below B a w' :=
  h.grown hg hB (fun k e => by cases e; exact hb)

theorem pad_array (n q : Nat) (h : noughts n = q) : (u8s (padL n)).toArray = put8 (put8 ((Array.replicate (1 + q + 16) (Value.int .u8 0)).setIfInBounds 0 (Value.int .u8 128)) (1 + q) 0 8) (1 + q + 8) ((n : Int) * 8) 8 := by
  have e : (Array.replicate (1 + q + 16) (Value.int .u8 0)).setIfInBounds 0 (Value.int .u8 128) = ((Value.int .u8 128 :: List.replicate q (Value.int .u8 0)) ++ (List.replicate 8 (Value.int .u8 0) ++ (List.replicate 8 (Value.int .u8 0) ++ []))).toArray := by
    apply Array.ext'
    rw [show 1 + q + 16 = (q + 16) + 1 from by omega]
    rw [Array.toList_setIfInBounds, Array.toList_replicate, List.replicate_succ, List.set_cons_zero, List.append_nil, List.replicate_append_replicate, List.cons_append, List.replicate_append_replicate]
  rw [e, put8_list _ _ _ _ (by simp; omega)]
  have e2 : ((Value.int .u8 128 :: List.replicate q (Value.int .u8 0)) ++ (u8s (be8 0) ++ (List.replicate 8 (Value.int .u8 0) ++ []))) = ((Value.int .u8 128 :: List.replicate q (Value.int .u8 0)) ++ u8s (be8 0)) ++ (List.replicate 8 (Value.int .u8 0) ++ []) := by rw [List.append_assoc]
  rw [e2, put8_list _ _ _ _ (by simp [u8s, be8]; omega)]
  simp [padL, u8s, h]
set_option maxRecDepth 100000 in
set_option maxHeartbeats 400000 in
theorem pad_any (n : Nat) (w : World) (hn : n ≤ 16777216) :
    Calls Tryd.prog 13 #[.int .i64 n] w fun e w' => e = .returned (.slice (some ⟨w.heap.size, 0, none⟩) (padL n).length (padL n).length) ∧ Own w' w.heap.size (u8s (padL n)).toArray 5 ∧ Below w.heap.size w w' := by
  rw [padL_length]
  obtain ⟨q, hq, Hn⟩ : ∃ q : Nat, (128 - ((n : Int) % 128 + 1 + 16) % 128) % 128 = (q : Int) ∧ Hid (noughts n = q) := ⟨noughts n, by unfold noughts; omega, rfl⟩
  have hq127 : q ≤ 127 := by omega
  have Hq := show Hid _ from hq
  clear hq
  rw [Hn.out]
  go_enter Tryd.func13, Tryd.ntmps13
  go_upto_region 3 with fail
  rw [Hq.out]
  have e1 : (1 : Int) + (q : Int) + 16 = ((1 + q + 16 : Nat) : Int) := by omega
  have E1 := show Hid _ from e1
  clear e1
  go_wp2_with (first
    | (at_make; refine wpList_make_cells _ (by rfl) _ _ 23 (by rfl) 5 _ Tryd.underlying23 info5 (by rfl) .i64 .i64 _ _ (1 + q + 16) (by rfl) (by rfl) E1.out E1.out (by omega) (by unfold maxLen; omega) ?_; intro w1 ho hgr; have c0 := ho.cell (i := 0) (by simp; rfl); have f0 := ho.frozen 0)
    | (go_at_call 19; refine (mul_any _ _ (by omega) (by omega)).mono ?_; rintro e w' ⟨rfl, rfl⟩))
  clear c0 f0
  have ho := ho.setCell 0 (.int .u8 128)
  have hgr' := (Below.refl w.heap.size w).grown hgr (Nat.le_refl _) (fun k e => by cases e)
  have hB := below_grown hgr' (grown_setCell w1 w.heap.size 0 (.int .u8 128)) hgr.size (Nat.le_refl _)
  generalize w1.setCell ⟨w.heap.size, 0, none⟩ (.int .u8 128) = w2 at *
  refine (putWord_own _ _ _ _ _ _ _ _ ho (by simp) (by omega) (by omega) (by omega) (by omega)).mono ?_
  rintro e w3 ⟨rfl, ho3, hg3⟩
  have s3 : (put8 ((Array.replicate (1 + q + 16) (Value.int .u8 0)).setIfInBounds 0 (.int .u8 128)) (1 + q) 0 8).size = 1 + q + 16 := by rw [put8_size]; simp
  go_wp2_with fail
  refine (putWord_own _ _ _ _ _ _ _ _ ho3 (by rw [s3]; omega) (by omega) (by omega) (by omega) (by omega)).mono ?_
  rintro e w4 ⟨rfl, ho4, hg4⟩
  go_wp2
  go_ret
  refine ⟨rfl, ?_, below_grown (below_grown hB hg3 hB.size (Nat.le_refl _)) hg4 (Nat.le_trans hB.size hg3.size) (Nat.le_refl _)⟩
  rw [show (u8s (padL n)).toArray = _ from pad_array n q Hn.out]
  exact ho4
end Go.Proofs.YtbofcnmhdjleeaaDoor
