/- Of the texts VA: what the card of this claim reaches. -/
import Derived.Test.YtfkcphbbabaefaaGreatDoorXC3
import Derived.Test.YtfkcphbbabaefaaGreatDoorXC16
import Derived.Test.YtfkcphbbabaefaaGreatDoorXC13
namespace Go.Proofs.YtfkcphbbabaefaaGreatDoor
open Go Go.RowKit
def PA (r : N4) : Array Value := #[.int .u64 (dig r.X 0 : Int), .int .u64 (dig r.X 1 : Int), .int .u64 (dig r.X 2 : Int), .int .u64 (dig r.X 3 : Int), .int .u64 (dig r.Y 0 : Int), .int .u64 (dig r.Y 1 : Int), .int .u64 (dig r.Y 2 : Int), .int .u64 (dig r.Y 3 : Int), .int .u64 (dig r.Z 0 : Int), .int .u64 (dig r.Z 1 : Int), .int .u64 (dig r.Z 2 : Int), .int .u64 (dig r.Z 3 : Int), .int .u64 (dig r.T 0 : Int), .int .u64 (dig r.T 1 : Int), .int .u64 (dig r.T 2 : Int), .int .u64 (dig r.T 3 : Int)]
theorem infoPA : (Tryz.prog.info? 52).map (·.size) = some 16 := by kernel_rfl
theorem PA_info (r : N4) : (Tryz.prog.info? 52).map (·.size) = some (PA r).size := infoPA
theorem PA_one (r : N4) : (PA r).all (·.oneCell') = true := by simp [PA, Value.oneCell']
theorem PA_sizes (r s : N4) : (PA r).size = (PA s).size := rfl
theorem zeroPA : (Tryz.prog.info? 52).map (fun i => (i.zero, i.size)) = some (some (.agg (PA ⟨0, 0, 0, 0⟩)), 16) := by kernel_rfl
def N4.get (r : N4) : Nat → Nat
  | 0 => r.X
  | 1 => r.Y
  | 2 => r.Z
  | _ => r.T
theorem PA_part (r : N4) (k : Nat) (hk : k < 4) {w : World} {b : Nat} {t : TypeId} (h : Own w b (PA r) t) : w.rangeAt b (4 * k) (numA (r.get k)).toList := fun j v hv => by
  have hj : j < 4 := by
    have := (List.getElem?_eq_some_iff.1 hv).1
    simpa [numA, A4] using this
  refine h.cell ?_
  rw [← hv]
  rcases k with _ | _ | _ | _ | k
  · rcases j with _ | _ | _ | _ | j <;> first | rfl | omega
  · rcases j with _ | _ | _ | _ | j <;> first | rfl | omega
  · rcases j with _ | _ | _ | _ | j <;> first | rfl | omega
  · rcases j with _ | _ | _ | _ | j <;> first | rfl | omega
  · omega
theorem numA_len (n : Nat) : (Tryz.prog.info? 50).map (·.size) = some (numA n).toList.length := infoNum
theorem wp_load_part {op : Oper} {a : Act} {w : World} {K : Act → World → Prop} {Q : Exit → Act → World → Prop} (k : Nat) (hk : k < 4) (x : Operand) (ho : op.op = .load 50 x)
    (b : Nat) (hx : a.eval x = .pointer (some ⟨b, 4 * k, none⟩)) {r : N4} {t : TypeId} (hc : Own w b (PA r) t) (h : K (a.put op.dst (.agg (numA (r.get k)))) w) : op.wp Tryz.prog a w K Q :=
  wp_load_mid 50 x ho b (4 * k) hx (numA (r.get k)).toList _ (PA_part r k hk hc) Tryz.underlying50 rfl (numA_len _) h
theorem wpList_load_part {ops : Array Oper} {rest : List Oper} {op : Oper} {a : Act} {w : World} {Q : Exit → Act → World → Prop} (hgd : op.guard = none) (k : Nat) (hk : k < 4) (x : Operand) (ho : op.op = .load 50 x)
    (b : Nat) (hx : a.eval x = .pointer (some ⟨b, 4 * k, none⟩)) {r : N4} {t : TypeId} (hc : Own w b (PA r) t) (h : wpList Tryz.prog ops Q rest (a.put op.dst (.agg (numA (r.get k)))) w) : wpList Tryz.prog ops Q (op :: rest) a w :=
  wpList_load_mid hgd 50 x ho b (4 * k) hx (numA (r.get k)).toList _ (PA_part r k hk hc) Tryz.underlying50 rfl (numA_len _) h
end Go.Proofs.YtfkcphbbabaefaaGreatDoor
namespace Go.Proofs.YtfkcphbbabaefaaGreatDoor
open Go Go.RowKit
theorem subp_lt (a b : Nat) : subp a b < R256 := lt_of_mod
theorem fsub_at {a b c : Nat} (ha : a < R256) (hb : b < R256) (hc : subp a b = c) (w : World) : Calls Tryz.prog 65 #[.agg (numA a), .agg (numA b)] w fun e w' => e = .returned (.agg (numA c)) ∧ Below w.heap.size w w' := by
  rw [← hc]; exact fsub_any a b ha hb w
theorem fadd_at {a b c : Nat} (ha : a < R256) (hb : b < R256) (hc : (a + b) % pp = c) (w : World) : Calls Tryz.prog 67 #[.agg (numA a), .agg (numA b)] w fun e w' => e = .returned (.agg (numA c)) ∧ Below w.heap.size w w' := by
  rw [← hc]; exact fadd_any a b ha hb w
theorem inv_at {a c : Nat} (ha : a < R256) (hc : finv a = c) (w : World) : Calls Tryz.prog 66 #[.agg (numA a)] w fun x w' => x = .returned (.agg (numA c)) ∧ Below w.heap.size w w' := by
  rw [← hc]; exact inv_any a ha w
theorem finv_R (a : Nat) : finv a < R256 := Nat.lt_trans (finv_lt a) (by decide)
theorem PA_size (r : N4) : (PA r).size = 16 := rfl
theorem put0 (X Y Z T x : Nat) : Array.foldl (fun cs p => cs.setIfInBounds p.snd p.fst) (PA ⟨X, Y, Z, T⟩) (numA x).zipIdx 0 4 = PA ⟨x, Y, Z, T⟩ := by kernel_rfl
theorem put4 (X Y Z T x : Nat) : Array.foldl (fun cs p => cs.setIfInBounds (4 + p.snd) p.fst) (PA ⟨X, Y, Z, T⟩) (numA x).zipIdx 0 4 = PA ⟨X, x, Z, T⟩ := by kernel_rfl
theorem put8 (X Y Z T x : Nat) : Array.foldl (fun cs p => cs.setIfInBounds (8 + p.snd) p.fst) (PA ⟨X, Y, Z, T⟩) (numA x).zipIdx 0 4 = PA ⟨X, Y, x, T⟩ := by kernel_rfl
theorem put12 (X Y Z T x : Nat) : Array.foldl (fun cs p => cs.setIfInBounds (12 + p.snd) p.fst) (PA ⟨X, Y, Z, T⟩) (numA x).zipIdx 0 4 = PA ⟨X, Y, Z, x⟩ := by kernel_rfl
theorem wp_build_pt {op : Oper} {a : Act} {w : World} {K : Act → World → Prop} {Q : Exit → Act → World → Prop} (t0 t1 t2 t3 : Tmp) (X Y Z T : Nat) (ho : op.op = .build 52 #[(0, .tmp t0), (1, .tmp t1), (2, .tmp t2), (3, .tmp t3)])
    (f0 : a.tmps.getD t0 undef = .agg (numA X)) (f1 : a.tmps.getD t1 undef = .agg (numA Y)) (f2 : a.tmps.getD t2 undef = .agg (numA Z)) (f3 : a.tmps.getD t3 undef = .agg (numA T)) (h : K (a.put op.dst (.agg (PA ⟨X, Y, Z, T⟩))) w) : op.wp Tryz.prog a w K Q := by
  have hzP := (zero_of_info zeroPA).1
  have g0 := getq f0
  have g1 := getq f1
  have g2 := getq f2
  have g3 := getq f3
  unfold Oper.wp execOp
  rw [ho]
  go_simp
  simp only [numA_size, put0, put4, put8, put12, PA_size]
  go_simp
  exact h
theorem dd_page : subp 0 121665 * finv 121666 % pp = dd := by
  have h1 : subp 0 121665 = 121666 * dd % pp := by decide +kernel
  have h2 := finv_mul (a := 121666) (by decide)
  generalize finv 121666 = x at *
  rw [h1, Nat.mod_mul_mod, Nat.mul_right_comm, Nat.mul_mod, h2, Nat.one_mul, Nat.mod_mod, Nat.mod_eq_of_lt dd_lt]
set_option maxRecDepth 100000 in
set_option maxHeartbeats 4000000 in
theorem d_any (w : World) : Calls Tryz.prog 68 #[] w fun x w' => x = .returned (.agg (numA dd)) ∧ Below w.heap.size w w' := by
  have hz := (zero_of_info zeroLit).1
  obtain ⟨r, Hd⟩ : ∃ r, Hid (dd = r) := ⟨_, rfl⟩
  obtain ⟨s, Hs⟩ : ∃ x, Hid (subp 0 121665 = x) := ⟨_, rfl⟩
  obtain ⟨i, Hi⟩ : ∃ x, Hid (finv 121666 = x) := ⟨_, rfl⟩
  have Hr : Hid (s * i % pp = r) := by show _ = _; rw [← Hd.out, ← Hs.out, ← Hi.out]; exact dd_page
  have hs : s < R256 := by rw [← Hs.out]; exact subp_lt _ _
  have hi : i < R256 := by rw [← Hi.out]; exact finv_R _
  rw [Hd.out]
  go_enter Tryz.func68, Tryz.ntmps68
  go_upto_region 1 with fail
  have hK := (Kp.nil w).alloc (numA 0) 50
  rw [show (#[.int .u64 0, .int .u64 0, .int .u64 0, .int .u64 0] : Array Value) = numA 0 from rfl]
  generalize w.alloc (.cells (numA 0) 50) = W at *
  obtain ⟨bR, HbR⟩ : ∃ b, Hid (w.heap.size = b) := ⟨_, rfl⟩
  have le_bR : Hid (w.heap.size ≤ bR) := by show _ ≤ _; have := HbR.out; omega
  rw [HbR.out] at hK ⊢
  go_wp2_with fail
  rw [show (#[.int .u64 0, .int .u64 0, .int .u64 0, .int .u64 0] : Array Value) = numA 0 from rfl]
  rw [show (#[.int .u64 121665, .int .u64 0, .int .u64 0, .int .u64 0] : Array Value) = numA 121665 from (numA_word 121665 (by decide)).symm]
  refine (fsub_at (by decide) (by decide) Hs.out _).mono ?_
  rintro e V1 ⟨rfl, bw⟩
  have hK := hK.below bw
  clear bw
  go_wp2_with fail
  rw [show (#[.int .u64 121666, .int .u64 0, .int .u64 0, .int .u64 0] : Array Value) = numA 121666 from (numA_word 121666 (by decide)).symm]
  refine (inv_at (by decide) Hi.out _).mono ?_
  rintro e V2 ⟨rfl, bw⟩
  have hK := hK.below bw
  clear bw
  go_wp2_with fail
  refine (mul_at hs hi Hr.out _).mono ?_
  rintro e V3 ⟨rfl, bw⟩
  have hK := hK.below bw
  clear bw
  go_wp2_with (refine wpList_store_own (by rfl) 50 (.tmp 0) (.tmp 6) (by rfl) bR 0 (numA r) (by rfl) (by rfl) (hK.at bR (numA 0) 50 (.head _)) (Nat.le_refl _) (numA_info _) (numA_one _) (by rfl) ?_)
  exact bodyPost_ret (results_own Tryz.results68 _ _ bR (numA r) _ (by rfl) (own_setCells (hK.at bR (numA 0) 50 (.head _)) (numA_sizes _ _)) Tryz.underlying50 rfl (numA_info _)) rfl ⟨rfl, Below.setCells _ _ _ _ le_bR.out hK.2⟩
set_option maxRecDepth 100000 in
set_option maxHeartbeats 4000000 in
theorem zero_any (w : World) : Calls Tryz.prog 80 #[] w fun x w' => x = .returned (.agg (PA zero4)) ∧ Below w.heap.size w w' := by
  have hz := (zero_of_info zeroLit).1
  have hzP := (zero_of_info zeroPA).1
  go_enter Tryz.func80, Tryz.ntmps80
  go_upto_region 1 with fail
  have hK := (Kp.nil w).alloc (PA ⟨0, 0, 0, 0⟩) 52
  generalize w.alloc (.cells (PA ⟨0, 0, 0, 0⟩) 52) = W at *
  obtain ⟨bR, HbR⟩ : ∃ b, Hid (w.heap.size = b) := ⟨_, rfl⟩
  have le_bR : Hid (w.heap.size ≤ bR) := by show _ ≤ _; have := HbR.out; omega
  rw [HbR.out] at hK ⊢
  go_wp2_with (refine wpList_store_own (by rfl) 52 (.tmp 0) (.tmp 5) (by rfl) bR 0 (PA zero4) (by rfl) (by rfl) (hK.at bR (PA ⟨0, 0, 0, 0⟩) 52 (.head _)) (Nat.le_refl _) (PA_info _) (PA_one _) (by rfl) ?_)
  exact bodyPost_ret (results_own Tryz.results80 _ _ bR (PA zero4) _ (by rfl) (own_setCells (hK.at bR (PA ⟨0, 0, 0, 0⟩) 52 (.head _)) (PA_sizes _ _)) Tryz.underlying52 rfl (PA_info _)) rfl ⟨rfl, Below.setCells _ _ _ _ le_bR.out hK.2⟩
end Go.Proofs.YtfkcphbbabaefaaGreatDoor
