/- The walk of the padding. -/
import Derived.Test.YtgibllaifnnfkaaDoorJW3
namespace Go.Proofs.YtgibllaifnnfkaaDoor.J
open Go.RowKit

theorem info5 : (Tryd.prog.info? 5).map (fun i => (i.zero, i.size, i.bytes)) = some (some (.int .u8 0), 1, 1) := by kernel_rfl

def put4 (A : Array Value) (off : Nat) (x : Int) : Array Value :=
  (((A.setIfInBounds off (.int .u8 (x / 16777216))).setIfInBounds (off + 1) (.int .u8 (x / 65536 % 256))).setIfInBounds (off + 2) (.int .u8 (x / 256 % 256))).setIfInBounds (off + 3) (.int .u8 (x % 256))
theorem put4_list (L1 L2 : List Value) (z0 z1 z2 z3 : Value) (x : Int) (off : Nat) (h : off = L1.length) : put4 (L1 ++ (z0 :: z1 :: z2 :: z3 :: L2)).toArray off x = (L1 ++ (u8s (be4 x) ++ L2)).toArray := by
  subst h
  simp [put4, u8s, be4]
theorem grown_setCell (w : World) (b i : Nat) (v : Value) : w.grownBy (w.setCell ⟨b, i, none⟩ v) (some b) :=
  ⟨rfl, rfl, rfl, by simp [World.setCell], fun k _ hk => Below.heap_setCell _ _ _ _ (fun e => hk (by rw [e]))⟩
theorem grown_trans {a b c : World} {r : Option Nat} (h : a.grownBy b r) (k : b.grownBy c r) : a.grownBy c r :=
  ⟨k.os.trans h.os, k.tape.trans h.tape, k.output.trans h.output, Nat.le_trans h.size k.size, fun i hi hr => (k.block i (Nat.lt_of_lt_of_le hi h.size) hr).trans (h.block i hi hr)⟩
theorem below_grown {B : Nat} {a w w' : World} {b : Nat} (h : Below B a w) (hg : w.grownBy w' (some b)) (hB : B ≤ w.heap.size) (hb : B ≤ b) : Below B a w' :=
  h.grown hg hB (fun k e => by cases e; exact hb)

theorem putWord_own (b off len cap : Nat) (x : Int) (w : World) (A : Array Value) (t : TypeId) (ho : Own w b A t) (hfit : off + 4 ≤ A.size) (hl : 4 ≤ len) (hc : len ≤ cap) (hx : 0 ≤ x) (hx' : x < 4294967296) :
    Calls Tryd.prog 43 #[.slice (some ⟨b, off, none⟩) len cap, .int .u32 x] w fun e w' => e = .returned (.tuple #[]) ∧ Own w' b (put4 A off x) t ∧ w.grownBy w' (some b) := by
  refine (putWord_any b off len cap x w _ _ _ _ hl hc hx hx' (ho.cell (Array.getElem?_eq_getElem (by omega))) (ho.cell (Array.getElem?_eq_getElem (by omega))) (ho.cell (Array.getElem?_eq_getElem (by omega))) (ho.cell (Array.getElem?_eq_getElem (by omega))) (ho.frozen _) (ho.frozen _) (ho.frozen _) (ho.frozen _)).mono ?_
  rintro e w' ⟨rfl, rfl⟩
  exact ⟨rfl, (((ho.setCell _ _).setCell _ _).setCell _ _).setCell _ _, grown_trans (grown_trans (grown_trans (grown_setCell _ _ _ _) (grown_setCell _ _ _ _)) (grown_setCell _ _ _ _)) (grown_setCell _ _ _ _)⟩

theorem pad_array (n q : Nat) (h : noughts n = q) : (u8s (padL n)).toArray = put4 (put4 ((Array.replicate (1 + q + 8) (Value.int .u8 0)).setIfInBounds 0 (Value.int .u8 128)) (1 + q) ((n : Int) * 8 / 4294967296)) (1 + q + 4) ((n : Int) * 8 % 4294967296) := by
  have e : (Array.replicate (1 + q + 8) (Value.int .u8 0)).setIfInBounds 0 (Value.int .u8 128) = ((Value.int .u8 128 :: List.replicate q (Value.int .u8 0)) ++ (Value.int .u8 0 :: Value.int .u8 0 :: Value.int .u8 0 :: Value.int .u8 0 :: [Value.int .u8 0, Value.int .u8 0, Value.int .u8 0, Value.int .u8 0])).toArray := by
    apply Array.ext'
    rw [show 1 + q + 8 = (q + 8) + 1 from by omega]
    simp [List.replicate_succ]
    show List.replicate 8 (Value.int .u8 0) ++ List.replicate q (Value.int .u8 0) = List.replicate q (Value.int .u8 0) ++ List.replicate 8 (Value.int .u8 0)
    rw [List.replicate_append_replicate, List.replicate_append_replicate, Nat.add_comm]
  rw [e, put4_list _ _ _ _ _ _ _ _ (by simp; omega)]
  have e2 : ((Value.int .u8 128 :: List.replicate q (Value.int .u8 0)) ++ (u8s (be4 ((n : Int) * 8 / 4294967296)) ++ [Value.int .u8 0, Value.int .u8 0, Value.int .u8 0, Value.int .u8 0])) = ((Value.int .u8 128 :: List.replicate q (Value.int .u8 0)) ++ u8s (be4 ((n : Int) * 8 / 4294967296))) ++ (Value.int .u8 0 :: Value.int .u8 0 :: Value.int .u8 0 :: Value.int .u8 0 :: []) := by simp
  rw [e2, put4_list _ _ _ _ _ _ _ _ (by simp [u8s, be4]; omega)]
  simp [padL, u8s, h]
set_option maxRecDepth 100000 in
set_option maxHeartbeats 400000 in
theorem pad_any (n : Nat) (w : World) (hn : n ≤ 1099511627776) :
    Calls Tryd.prog 42 #[.int .i64 n] w fun e w' => e = .returned (.slice (some ⟨w.heap.size, 0, none⟩) (padL n).length (padL n).length) ∧ Own w' w.heap.size (u8s (padL n)).toArray 5 ∧ Below w.heap.size w w' := by
  rw [padL_length]
  obtain ⟨q, hq, Hn⟩ : ∃ q : Nat, (64 - ((n : Int) % 64 + 1 + 8) % 64) % 64 = (q : Int) ∧ Hid (noughts n = q) := ⟨noughts n, by unfold noughts; omega, rfl⟩
  have hq63 : q ≤ 63 := by omega
  have Hq := show Hid _ from hq
  clear hq
  rw [Hn.out]
  go_enter Tryd.func42, Tryd.ntmps42
  go_upto_region 3 with fail
  rw [Hq.out]
  have e1 : (1 : Int) + (q : Int) + 8 = ((1 + q + 8 : Nat) : Int) := by omega
  have E1 := show Hid _ from e1
  clear e1
  go_wp2_with (at_make; refine wpList_make_cells _ (by rfl) _ _ 23 (by rfl) 5 _ Tryd.underlying23 info5 (by rfl) .i64 .i64 _ _ (1 + q + 8) (by rfl) (by rfl) E1.out E1.out (by omega) (by unfold maxLen; omega) ?_; intro w1 ho hgr; have c0 := ho.cell (i := 0) (by simp; rfl); have f0 := ho.frozen 0)
  clear c0 f0
  have ho := ho.setCell 0 (.int .u8 128)
  have hgr' := (Below.refl w.heap.size w).grown hgr (Nat.le_refl _) (fun k e => by cases e)
  have hB := below_grown hgr' (grown_setCell w1 w.heap.size 0 (.int .u8 128)) hgr.size (Nat.le_refl _)
  generalize w1.setCell ⟨w.heap.size, 0, none⟩ (.int .u8 128) = w2 at *
  refine (putWord_own _ _ _ _ _ _ _ _ ho (by simp) (by omega) (by omega) (by omega) (by omega)).mono ?_
  rintro e w3 ⟨rfl, ho3, hg3⟩
  have s3 : (put4 ((Array.replicate (1 + q + 8) (Value.int .u8 0)).setIfInBounds 0 (.int .u8 128)) (1 + q) ((n : Int) * 8 / 4294967296)).size = 1 + q + 8 := by simp [put4]
  go_wp2_with fail
  refine (putWord_own _ _ _ _ _ _ _ _ ho3 (by rw [s3]; omega) (by omega) (by omega) (by omega) (by omega)).mono ?_
  rintro e w4 ⟨rfl, ho4, hg4⟩
  go_wp2
  go_ret
  refine ⟨rfl, ?_, below_grown (below_grown hB hg3 hB.size (Nat.le_refl _)) hg4 (Nat.le_trans hB.size hg3.size) (Nat.le_refl _)⟩
  rw [show (u8s (padL n)).toArray = _ from pad_array n q Hn.out]
  exact ho4
end Go.Proofs.YtgibllaifnnfkaaDoor.J
