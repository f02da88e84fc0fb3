/- Of the texts G5: what the card of this claim reaches. -/
import Derived.Test.YtgibllaifnnfkaaGreatDoorXE13
import Derived.Test.YtgibllaifnnfkaaGreatDoorXE14
namespace Go.Proofs.YtgibllaifnnfkaaGreatDoor
open Go Go.RowKit
theorem wpList_load_gd3 {P : Program} {ops : Array Oper} {rest : List Oper} {op : Oper} {a : Act} {w : World} {Q : Exit → Act → World → Prop} (hw : Region.wanted op (yielded ops a.tmps) = true) (ty : TypeId) (x : Operand) (ho : op.op = .load ty x)
    (b : Nat) (hx : a.eval x = .pointer (some ⟨b, 0, none⟩)) (A : Array Value) (d : TypeDesc) {t : TypeId} (hc : Own w b A t)
    (hu : P.underlying ty = some d) (hd : d.isRow = true) (hi : (P.info? ty).map (·.size) = some A.size)
    (h : wpList P ops Q rest (a.put op.dst (.agg A)) w) : wpList P ops Q (op :: rest) a w :=
  wpList_step fun K hK => by
    rw [if_pos hw]
    exact wp_load_own ty x ho b hx A d t hc hu hd hi (hK _ _ h)
noncomputable def rdp (a : Nat) : Option N3 :=
  if a % HH < pp then
    match froot (usq (a % HH)) with
    | none => none
    | some x => if a / HH = 1 then (if x = 0 then none else some ⟨subp 0 x, a % HH, 1⟩) else some ⟨x, a % HH, 1⟩
  else none
theorem rd_big {a : Nat} (h : ¬ a % HH < pp) : rdp a = none := by unfold rdp; rw [if_neg h]
theorem rd_noroot {a : Nat} (h : a % HH < pp) (hf : froot (usq (a % HH)) = none) : rdp a = none := by unfold rdp; rw [if_pos h, hf]
theorem rd_noside {a : Nat} (h : a % HH < pp) (hf : froot (usq (a % HH)) = some 0) (ho : a / HH = 1) : rdp a = none := by unfold rdp; rw [if_pos h, hf]; simp [ho]
theorem rd_side {a x : Nat} (h : a % HH < pp) (hf : froot (usq (a % HH)) = some x) (ho : a / HH = 1) (hx : x ≠ 0) : rdp a = some ⟨subp 0 x, a % HH, 1⟩ := by unfold rdp; rw [if_pos h, hf]; simp [ho, hx]
theorem rd_even {a x : Nat} (h : a % HH < pp) (hf : froot (usq (a % HH)) = some x) (ho : a / HH ≠ 1) : rdp a = some ⟨x, a % HH, 1⟩ := by unfold rdp; rw [if_pos h, hf]; simp [ho]
def rdV : Option N3 → Value
  | some r => .tuple #[.agg (QA r), .bool true]
  | none => .tuple #[.agg (QA ⟨0, 0, 0⟩), .bool false]
theorem and128 : ∀ x : Fin 256, x.val &&& 128 = if x.val < 128 then 0 else 128 := by decide +kernel
theorem and_topY {a : Nat} (ha : a < R256) (h : a / HH = 1) : bits .and .u8 (bdig a 31 : Int) 128 = 128 := by
  have h0 := u8_and_nat (bdig a 31) 128 (bdig_lt _ _) (by decide)
  have h1 := and128 ⟨bdig a 31, bdig_lt _ _⟩
  have h2 := (top_odd ha).2 h
  simp only at h1
  rw [h1, if_neg (by omega)] at h0
  exact h0
theorem and_topN {a : Nat} (ha : a < R256) (h : ¬ a / HH = 1) : bits .and .u8 (bdig a 31 : Int) 128 = 0 := by
  have h0 := u8_and_nat (bdig a 31) 128 (bdig_lt _ _) (by decide)
  have h1 := and128 ⟨bdig a 31, bdig_lt _ _⟩
  have h2 := mt (top_odd ha).1 h
  simp only at h1
  rw [h1, if_pos (by omega)] at h0
  exact h0
theorem andN_top (a : Nat) : bits .andNot .u8 (bdig a 31 : Int) 128 = ((bdig a 31 % 128 : Nat) : Int) := by
  have := u8_andNot_nat (bdig a 31) 128 (bdig_lt _ _) (by decide)
  have e := Nat.and_two_pow_sub_one_eq_mod (bdig a 31) 7
  rw [show (255 - 128 : Nat) = 2 ^ 7 - 1 from rfl, e] at this
  exact this
theorem b32_zero {x : Nat} (hx : x < R256) (h : x = 0) (w : World) : (Op.equalIn 10000 22 (.agg (B32 (bdig x))) (.agg (B32 fun _ => 0))).run Tryz.prog w = .ok true w := by
  rw [zero_bytes]
  exact (B32_eq x 0 hx (by decide) w).trans (by rw [decide_eq_true h])
theorem b32_nonzero {x : Nat} (hx : x < R256) (h : x ≠ 0) (w : World) : (Op.equalIn 10000 22 (.agg (B32 (bdig x))) (.agg (B32 fun _ => 0))).run Tryz.prog w = .ok false w := by
  rw [zero_bytes]
  exact (B32_eq x 0 hx (by decide) w).trans (by rw [decide_eq_false h])
set_option maxRecDepth 100000 in
set_option maxHeartbeats 6000000 in
theorem read_nat (a : Nat) (ha : Hid (a < R256)) (w : World) (hT : TC w) : Calls Tryz.prog 62 #[.agg (B32 (bdig a))] w fun e w' => e = .returned (rdV (rdp a)) ∧ Below w.heap.size w w' := by
  have hz := (zero_of_info zeroB32).1
  have hzP := (zero_of_info zeroQA).1
  obtain ⟨y, Hy⟩ : ∃ y, Hid (a % HH = y) := ⟨_, rfl⟩
  have hy : Hid (y < R256) := by show _ < _; rw [← Hy.out]; exact Nat.lt_of_le_of_lt (Nat.mod_le _ _) ha.out
  by_cases hod : a / HH = 1
  · have hodd : Hid (a / HH = 1) := hod
    have hge : bits .and .u8 (bdig a 31 : Int) 128 = 128 := and_topY ha.out hod
    clear hod
    go_enter Tryz.func62, Tryz.ntmps62
    go_upto_region 1 with fail
    have hK := ((Kp.nil w).alloc (B32 (bdig a)) 22).alloc (QA ⟨0, 0, 0⟩) 74
    rw [World.size_alloc] at hK
    generalize (w.alloc (.cells (B32 (bdig a)) 22)).alloc (.cells (QA ⟨0, 0, 0⟩) 74) = W at *
    obtain ⟨bB, HbB⟩ : ∃ b, Hid (w.heap.size = b) := ⟨_, rfl⟩
    obtain ⟨bR, HbR⟩ : ∃ b, Hid (bB + 1 = b) := ⟨_, rfl⟩
    have le_bB : Hid (w.heap.size ≤ bB) := by show _ ≤ _; have := HbB.out; omega
    have le_bR : Hid (w.heap.size ≤ bR) := by show _ ≤ _; have := HbB.out; have := HbR.out; omega
    have ne_bB_bR : Hid (bB ≠ bR) := by show _ ≠ _; have := HbR.out; omega
    rw [HbB.out, HbR.out] at hK ⊢
    have cB := (hK.at bB (B32 (bdig a)) 22 (.tail _ (.head _))).cell (B32_at (bdig a) 31 (by decide))
    have fB := (hK.at bB (B32 (bdig a)) 22 (.tail _ (.head _))).frozen 31
    have hand := andN_top a
    obtain ⟨u, Hu⟩ : ∃ u, Hid (bdig a 31 % 128 = u) := ⟨_, rfl⟩
    rw [Hu.out] at hand
    have hK : Kp [(bB, B32 (bdig a), 22), (bR, QA ⟨0, 0, 0⟩, 74)] w W := ((hK.none.cons (hK.at bR (QA ⟨0, 0, 0⟩) 74 (.head _))).cons (hK.at bB (B32 (bdig a)) 22 (.tail _ (.head _))))
    have hK := Kp.setCell (i := 31) (v := .int .u8 (u : Int)) hK (by simp only [List.forall_mem_cons, List.not_mem_nil, false_implies, implies_true, and_true]; exact (Ne.symm ne_bB_bR.out)) le_bB.out
    rw [B32_set _ 31 _ (by decide), ← Hu.out, B32_low ha.out, Hy.out, Hu.out] at hK
    generalize bdig a 31 = d31 at *
    go_upto_region 3 with fail
    generalize W.setCell ⟨bB, 31, none⟩ (.int .u8 (u : Int)) = V0 at *
    clear cB fB hand hge
    by_cases hlt : y < pp
    · have Hlt := show Hid _ from hlt
      clear hlt
      go_wp2_with (refine wpList_load_own (by rfl) 22 (.tmp 1) (by rfl) bB (by rfl) (B32 (bdig y)) _ (hK.at bB (B32 (bdig y)) 22 (.head _)) Tryz.underlying22 (by rfl) (B32_info _) ?_)
      refine (ccheck_yes hy.out Hlt.out _ (TC.keep hT hK.2)).mono ?_
      rintro e V1 ⟨rfl, bw⟩
      have hK := hK.below bw
      clear bw
      go_upto_region 5 with fail
      rcases hfr : froot (usq y) with _ | x
      · have Hro : Hid (rootBo (froot (usq y)) = .tuple #[.agg (B32 (bdig 0)), .bool false]) := by show _ = _; rw [hfr]; rfl
        have Hrd : Hid (rdV (rdp a) = .tuple #[.agg (QA ⟨0, 0, 0⟩), .bool false]) := by show _ = _; rw [rd_noroot (by rw [Hy.out]; exact Hlt.out) (by rw [Hy.out]; exact hfr)]; rfl
        clear hfr
        go_wp2_with (refine wpList_load_own (by rfl) 22 (.tmp 1) (by rfl) bB (by rfl) (B32 (bdig y)) _ (hK.at bB (B32 (bdig y)) 22 (.head _)) Tryz.underlying22 (by rfl) (B32_info _) ?_)
        refine (beside_at hy Hro.out _ (TC.keep hT hK.2)).mono ?_
        rintro e V2 ⟨rfl, bw⟩
        have hK := hK.below bw
        clear bw
        go_upto_region 6 with (refine wpList_store_new (by rfl) 22 (.tmp 5) (.tmp 22) (by rfl) _ (B32 (bdig 0)) (by rfl) (by rfl) (B32_info _) (B32_sizes _ _) (B32_one _) (by rfl) ?_)
        have lt_bB := (hK.at bB (B32 (bdig y)) 22 (.head _)).lt
        have lt_bR := (hK.at bR (QA ⟨0, 0, 0⟩) 74 (.tail _ (.head _))).lt
        have le_b3 := show Hid _ from hK.2.size
        have hK := hK.alloc (B32 (bdig 0)) 22
        generalize V2.alloc (.cells (B32 (bdig 0)) 22) = V4 at *
        obtain ⟨b3, Hb3⟩ : ∃ b, Hid (V2.heap.size = b) := ⟨_, rfl⟩
        have ne_bB_b3 : Hid (bB ≠ b3) := by show _ ≠ _; rw [← Hb3.out]; exact Nat.ne_of_lt lt_bB
        have ne_bR_b3 : Hid (bR ≠ b3) := by show _ ≠ _; rw [← Hb3.out]; exact Nat.ne_of_lt lt_bR
        have le_b3 : Hid (w.heap.size ≤ b3) := by show _ ≤ _; rw [← Hb3.out]; exact le_b3.out
        rw [Hb3.out] at hK ⊢
        clear lt_bB lt_bR
        go_upto_region 7 with fail
        go_wp2_with (refine wpList_store_own (op := { dst := none, op := _, type := _, pos := _, after := _, guard := _ }) rfl 74 (.tmp 2) (.tmp 34) rfl bR 0 (QA ⟨0, 0, 0⟩) (by rfl) (by rfl) (hK.at bR (QA ⟨0, 0, 0⟩) 74 (.tail _ (.tail _ (.head _)))) (QA_le _ _) (QA_info _) (QA_one _) (by rfl) ?_)
        exact bodyPost_ret (results_own_tmp Tryz.results62 _ _ bR (QA ⟨0, 0, 0⟩) _ (by rfl) (own_setCells (hK.at bR (QA ⟨0, 0, 0⟩) 74 (.tail _ (.tail _ (.head _)))) (QA_sizes _ _)) Tryz.underlying74 rfl (QA_info _)) rfl ⟨by rw [Hrd.out]; rfl, Below.setCells _ _ _ _ le_bR.out hK.2⟩
      · have Hro : Hid (rootBo (froot (usq y)) = .tuple #[.agg (B32 (bdig x)), .bool true]) := by show _ = _; rw [hfr]; rfl
        have Hfr := show Hid _ from hfr
        clear hfr
        have hx : Hid (x < R256) := by show _ < _; exact Nat.lt_trans (froot_some Hfr.out).1 (by decide)
        go_wp2_with (refine wpList_load_own (by rfl) 22 (.tmp 1) (by rfl) bB (by rfl) (B32 (bdig y)) _ (hK.at bB (B32 (bdig y)) 22 (.head _)) Tryz.underlying22 (by rfl) (B32_info _) ?_)
        refine (beside_at hy Hro.out _ (TC.keep hT hK.2)).mono ?_
        rintro e V2 ⟨rfl, bw⟩
        have hK := hK.below bw
        clear bw
        go_upto_region 6 with (refine wpList_store_new (by rfl) 22 (.tmp 5) (.tmp 22) (by rfl) _ (B32 (bdig x)) (by rfl) (by rfl) (B32_info _) (B32_sizes _ _) (B32_one _) (by rfl) ?_)
        have lt_bB := (hK.at bB (B32 (bdig y)) 22 (.head _)).lt
        have lt_bR := (hK.at bR (QA ⟨0, 0, 0⟩) 74 (.tail _ (.head _))).lt
        have le_b3 := show Hid _ from hK.2.size
        have hK := hK.alloc (B32 (bdig x)) 22
        generalize V2.alloc (.cells (B32 (bdig x)) 22) = V4 at *
        obtain ⟨b3, Hb3⟩ : ∃ b, Hid (V2.heap.size = b) := ⟨_, rfl⟩
        have ne_bB_b3 : Hid (bB ≠ b3) := by show _ ≠ _; rw [← Hb3.out]; exact Nat.ne_of_lt lt_bB
        have ne_bR_b3 : Hid (bR ≠ b3) := by show _ ≠ _; rw [← Hb3.out]; exact Nat.ne_of_lt lt_bR
        have le_b3 : Hid (w.heap.size ≤ b3) := by show _ ≤ _; rw [← Hb3.out]; exact le_b3.out
        rw [Hb3.out] at hK ⊢
        clear lt_bB lt_bR
        by_cases hx0 : x = 0
        · have Hrd : Hid (rdV (rdp a) = .tuple #[.agg (QA ⟨0, 0, 0⟩), .bool false]) := by show _ = _; rw [rd_noside (by rw [Hy.out]; exact Hlt.out) (by rw [Hy.out, Hfr.out, hx0]) hodd.out]; rfl
          have hq0 := b32_zero hx.out hx0
          clear hx0
          go_upto_region 7 with (refine wpList_load_gd3 (by rfl) 22 (.tmp 5) (by rfl) b3 (by rfl) (B32 (bdig x)) _ (hK.at b3 (B32 (bdig x)) 22 (.head _)) Tryz.underlying22 (by rfl) (B32_info _) ?_)
          go_wp2_with (refine wpList_store_own (op := { dst := none, op := _, type := _, pos := _, after := _, guard := _ }) rfl 74 (.tmp 2) (.tmp 34) rfl bR 0 (QA ⟨0, 0, 0⟩) (by rfl) (by rfl) (hK.at bR (QA ⟨0, 0, 0⟩) 74 (.tail _ (.tail _ (.head _)))) (QA_le _ _) (QA_info _) (QA_one _) (by rfl) ?_)
          exact bodyPost_ret (results_own_tmp Tryz.results62 _ _ bR (QA ⟨0, 0, 0⟩) _ (by rfl) (own_setCells (hK.at bR (QA ⟨0, 0, 0⟩) 74 (.tail _ (.tail _ (.head _)))) (QA_sizes _ _)) Tryz.underlying74 rfl (QA_info _)) rfl ⟨by rw [Hrd.out]; rfl, Below.setCells _ _ _ _ le_bR.out hK.2⟩
        · obtain ⟨xs, Hxs⟩ : ∃ z, Hid (subp 0 x = z) := ⟨_, rfl⟩
          have Hrd : Hid (rdV (rdp a) = .tuple #[.agg (QA ⟨xs, y, 1⟩), .bool true]) := by show _ = _; rw [rd_side (by rw [Hy.out]; exact Hlt.out) (by rw [Hy.out]; exact Hfr.out) hodd.out hx0, Hy.out, Hxs.out]; rfl
          have hq0 := b32_nonzero hx.out hx0
          clear hx0
          go_upto_region 9 with (refine wpList_load_gd3 (by rfl) 22 (.tmp 5) (by rfl) b3 (by rfl) (B32 (bdig x)) _ (hK.at b3 (B32 (bdig x)) 22 (.head _)) Tryz.underlying22 (by rfl) (B32_info _) ?_)
          clear hq0
          go_wp2_with (refine wpList_load_own (by rfl) 22 (.tmp 5) (by rfl) b3 (by rfl) (B32 (bdig x)) _ (hK.at b3 (B32 (bdig x)) 22 (.head _)) Tryz.underlying22 (by rfl) (B32_info _) ?_)
          refine (opposite_at hx Hxs _ (TC.keep hT hK.2)).mono ?_
          rintro e V5 ⟨rfl, bw⟩
          have hK := hK.below bw
          clear bw
          go_upto_region 10 with (refine wpList_store_own (op := { dst := none, op := _, type := _, pos := _, after := _, guard := _ }) rfl 22 (.tmp 5) (.tmp 37) rfl b3 0 (B32 (bdig xs)) (by rfl) (by rfl) (hK.at b3 (B32 (bdig x)) 22 (.head _)) (B32_le _ _) (B32_info _) (B32_one _) (by rfl) ?_)
          have hK : Kp [(b3, B32 (bdig x), 22), (bB, B32 (bdig y), 22), (bR, QA ⟨0, 0, 0⟩, 74)] w V5 := (((hK.none.cons (hK.at bR (QA ⟨0, 0, 0⟩) 74 (.tail _ (.tail _ (.head _))))).cons (hK.at bB (B32 (bdig y)) 22 (.tail _ (.head _)))).cons (hK.at b3 (B32 (bdig x)) 22 (.head _)))
          have hK := Kp.set (A' := B32 (bdig xs)) hK (by simp only [List.forall_mem_cons, List.not_mem_nil, false_implies, implies_true, and_true]; exact ⟨ne_bB_b3.out, ne_bR_b3.out⟩) le_b3.out (B32_sizes _ _)
          generalize V5.setCells b3 0 (B32 (bdig xs)).toList = V6 at *
          go_wp2_with (first
            | refine wpList_load_own (by rfl) 22 (.tmp 5) (by rfl) b3 (by rfl) (B32 (bdig xs)) _ (hK.at b3 (B32 (bdig xs)) 22 (.head _)) Tryz.underlying22 (by rfl) (B32_info _) ?_
            | refine wpList_load_own (by rfl) 22 (.tmp 1) (by rfl) bB (by rfl) (B32 (bdig y)) _ (hK.at bB (B32 (bdig y)) 22 (.tail _ (.head _))) Tryz.underlying22 (by rfl) (B32_info _) ?_
            | refine wpList_build_one (by rfl) (by rfl) ?_
            | refine wpList_build_q (by rfl) 38 39 40 (xs) (y) (1) (by rfl) (by rfl) (by rfl) (by rfl) ?_
            | refine wpList_store_own (op := { dst := none, op := _, type := _, pos := _, after := _, guard := _ }) rfl 74 (.tmp 2) (.tmp 41) rfl bR 0 (QA ⟨xs, y, 1⟩) (by rfl) (by rfl) (hK.at bR (QA ⟨0, 0, 0⟩) 74 (.tail _ (.tail _ (.head _)))) (QA_le _ _) (QA_info _) (QA_one _) (by rfl) ?_)
          exact bodyPost_ret (results_own_tmp Tryz.results62 _ _ bR (QA ⟨xs, y, 1⟩) _ (by rfl) (own_setCells (hK.at bR (QA ⟨0, 0, 0⟩) 74 (.tail _ (.tail _ (.head _)))) (QA_sizes _ _)) Tryz.underlying74 rfl (QA_info _)) rfl ⟨by rw [Hrd.out]; rfl, Below.setCells _ _ _ _ le_bR.out hK.2⟩
    · have Hrd : Hid (rdV (rdp a) = .tuple #[.agg (QA ⟨0, 0, 0⟩), .bool false]) := by show _ = _; rw [rd_big (by rw [Hy.out]; exact hlt)]; rfl
      have Hlt := show Hid _ from hlt
      clear hlt
      go_wp2_with (refine wpList_load_own (by rfl) 22 (.tmp 1) (by rfl) bB (by rfl) (B32 (bdig y)) _ (hK.at bB (B32 (bdig y)) 22 (.head _)) Tryz.underlying22 (by rfl) (B32_info _) ?_)
      refine (ccheck_no hy.out Hlt.out _ (TC.keep hT hK.2)).mono ?_
      rintro e V1 ⟨rfl, bw⟩
      have hK := hK.below bw
      clear bw
      go_upto_region 4 with fail
      go_wp2_with (refine wpList_store_own (op := { dst := none, op := _, type := _, pos := _, after := _, guard := _ }) rfl 74 (.tmp 2) (.tmp 18) rfl bR 0 (QA ⟨0, 0, 0⟩) (by rfl) (by rfl) (hK.at bR (QA ⟨0, 0, 0⟩) 74 (.tail _ (.head _))) (QA_le _ _) (QA_info _) (QA_one _) (by rfl) ?_)
      exact bodyPost_ret (results_own_tmp Tryz.results62 _ _ bR (QA ⟨0, 0, 0⟩) _ (by rfl) (own_setCells (hK.at bR (QA ⟨0, 0, 0⟩) 74 (.tail _ (.head _))) (QA_sizes _ _)) Tryz.underlying74 rfl (QA_info _)) rfl ⟨by rw [Hrd.out]; rfl, Below.setCells _ _ _ _ le_bR.out hK.2⟩
  · have hodd : Hid (a / HH ≠ 1) := hod
    have hge : bits .and .u8 (bdig a 31 : Int) 128 = 0 := and_topN ha.out hod
    clear hod
    go_enter Tryz.func62, Tryz.ntmps62
    go_upto_region 1 with fail
    have hK := ((Kp.nil w).alloc (B32 (bdig a)) 22).alloc (QA ⟨0, 0, 0⟩) 74
    rw [World.size_alloc] at hK
    generalize (w.alloc (.cells (B32 (bdig a)) 22)).alloc (.cells (QA ⟨0, 0, 0⟩) 74) = W at *
    obtain ⟨bB, HbB⟩ : ∃ b, Hid (w.heap.size = b) := ⟨_, rfl⟩
    obtain ⟨bR, HbR⟩ : ∃ b, Hid (bB + 1 = b) := ⟨_, rfl⟩
    have le_bB : Hid (w.heap.size ≤ bB) := by show _ ≤ _; have := HbB.out; omega
    have le_bR : Hid (w.heap.size ≤ bR) := by show _ ≤ _; have := HbB.out; have := HbR.out; omega
    have ne_bB_bR : Hid (bB ≠ bR) := by show _ ≠ _; have := HbR.out; omega
    rw [HbB.out, HbR.out] at hK ⊢
    have cB := (hK.at bB (B32 (bdig a)) 22 (.tail _ (.head _))).cell (B32_at (bdig a) 31 (by decide))
    have fB := (hK.at bB (B32 (bdig a)) 22 (.tail _ (.head _))).frozen 31
    have hand := andN_top a
    obtain ⟨u, Hu⟩ : ∃ u, Hid (bdig a 31 % 128 = u) := ⟨_, rfl⟩
    rw [Hu.out] at hand
    have hK : Kp [(bB, B32 (bdig a), 22), (bR, QA ⟨0, 0, 0⟩, 74)] w W := ((hK.none.cons (hK.at bR (QA ⟨0, 0, 0⟩) 74 (.head _))).cons (hK.at bB (B32 (bdig a)) 22 (.tail _ (.head _))))
    have hK := Kp.setCell (i := 31) (v := .int .u8 (u : Int)) hK (by simp only [List.forall_mem_cons, List.not_mem_nil, false_implies, implies_true, and_true]; exact (Ne.symm ne_bB_bR.out)) le_bB.out
    rw [B32_set _ 31 _ (by decide), ← Hu.out, B32_low ha.out, Hy.out, Hu.out] at hK
    generalize bdig a 31 = d31 at *
    go_upto_region 3 with fail
    generalize W.setCell ⟨bB, 31, none⟩ (.int .u8 (u : Int)) = V0 at *
    clear cB fB hand hge
    by_cases hlt : y < pp
    · have Hlt := show Hid _ from hlt
      clear hlt
      go_wp2_with (refine wpList_load_own (by rfl) 22 (.tmp 1) (by rfl) bB (by rfl) (B32 (bdig y)) _ (hK.at bB (B32 (bdig y)) 22 (.head _)) Tryz.underlying22 (by rfl) (B32_info _) ?_)
      refine (ccheck_yes hy.out Hlt.out _ (TC.keep hT hK.2)).mono ?_
      rintro e V1 ⟨rfl, bw⟩
      have hK := hK.below bw
      clear bw
      go_upto_region 5 with fail
      rcases hfr : froot (usq y) with _ | x
      · have Hro : Hid (rootBo (froot (usq y)) = .tuple #[.agg (B32 (bdig 0)), .bool false]) := by show _ = _; rw [hfr]; rfl
        have Hrd : Hid (rdV (rdp a) = .tuple #[.agg (QA ⟨0, 0, 0⟩), .bool false]) := by show _ = _; rw [rd_noroot (by rw [Hy.out]; exact Hlt.out) (by rw [Hy.out]; exact hfr)]; rfl
        clear hfr
        go_wp2_with (refine wpList_load_own (by rfl) 22 (.tmp 1) (by rfl) bB (by rfl) (B32 (bdig y)) _ (hK.at bB (B32 (bdig y)) 22 (.head _)) Tryz.underlying22 (by rfl) (B32_info _) ?_)
        refine (beside_at hy Hro.out _ (TC.keep hT hK.2)).mono ?_
        rintro e V2 ⟨rfl, bw⟩
        have hK := hK.below bw
        clear bw
        go_upto_region 6 with (refine wpList_store_new (by rfl) 22 (.tmp 5) (.tmp 22) (by rfl) _ (B32 (bdig 0)) (by rfl) (by rfl) (B32_info _) (B32_sizes _ _) (B32_one _) (by rfl) ?_)
        have lt_bB := (hK.at bB (B32 (bdig y)) 22 (.head _)).lt
        have lt_bR := (hK.at bR (QA ⟨0, 0, 0⟩) 74 (.tail _ (.head _))).lt
        have le_b3 := show Hid _ from hK.2.size
        have hK := hK.alloc (B32 (bdig 0)) 22
        generalize V2.alloc (.cells (B32 (bdig 0)) 22) = V4 at *
        obtain ⟨b3, Hb3⟩ : ∃ b, Hid (V2.heap.size = b) := ⟨_, rfl⟩
        have ne_bB_b3 : Hid (bB ≠ b3) := by show _ ≠ _; rw [← Hb3.out]; exact Nat.ne_of_lt lt_bB
        have ne_bR_b3 : Hid (bR ≠ b3) := by show _ ≠ _; rw [← Hb3.out]; exact Nat.ne_of_lt lt_bR
        have le_b3 : Hid (w.heap.size ≤ b3) := by show _ ≤ _; rw [← Hb3.out]; exact le_b3.out
        rw [Hb3.out] at hK ⊢
        clear lt_bB lt_bR
        go_upto_region 7 with fail
        go_wp2_with (refine wpList_store_own (op := { dst := none, op := _, type := _, pos := _, after := _, guard := _ }) rfl 74 (.tmp 2) (.tmp 34) rfl bR 0 (QA ⟨0, 0, 0⟩) (by rfl) (by rfl) (hK.at bR (QA ⟨0, 0, 0⟩) 74 (.tail _ (.tail _ (.head _)))) (QA_le _ _) (QA_info _) (QA_one _) (by rfl) ?_)
        exact bodyPost_ret (results_own_tmp Tryz.results62 _ _ bR (QA ⟨0, 0, 0⟩) _ (by rfl) (own_setCells (hK.at bR (QA ⟨0, 0, 0⟩) 74 (.tail _ (.tail _ (.head _)))) (QA_sizes _ _)) Tryz.underlying74 rfl (QA_info _)) rfl ⟨by rw [Hrd.out]; rfl, Below.setCells _ _ _ _ le_bR.out hK.2⟩
      · have Hro : Hid (rootBo (froot (usq y)) = .tuple #[.agg (B32 (bdig x)), .bool true]) := by show _ = _; rw [hfr]; rfl
        have Hfr := show Hid _ from hfr
        clear hfr
        have hx : Hid (x < R256) := by show _ < _; exact Nat.lt_trans (froot_some Hfr.out).1 (by decide)
        go_wp2_with (refine wpList_load_own (by rfl) 22 (.tmp 1) (by rfl) bB (by rfl) (B32 (bdig y)) _ (hK.at bB (B32 (bdig y)) 22 (.head _)) Tryz.underlying22 (by rfl) (B32_info _) ?_)
        refine (beside_at hy Hro.out _ (TC.keep hT hK.2)).mono ?_
        rintro e V2 ⟨rfl, bw⟩
        have hK := hK.below bw
        clear bw
        go_upto_region 6 with (refine wpList_store_new (by rfl) 22 (.tmp 5) (.tmp 22) (by rfl) _ (B32 (bdig x)) (by rfl) (by rfl) (B32_info _) (B32_sizes _ _) (B32_one _) (by rfl) ?_)
        have lt_bB := (hK.at bB (B32 (bdig y)) 22 (.head _)).lt
        have lt_bR := (hK.at bR (QA ⟨0, 0, 0⟩) 74 (.tail _ (.head _))).lt
        have le_b3 := show Hid _ from hK.2.size
        have hK := hK.alloc (B32 (bdig x)) 22
        generalize V2.alloc (.cells (B32 (bdig x)) 22) = V4 at *
        obtain ⟨b3, Hb3⟩ : ∃ b, Hid (V2.heap.size = b) := ⟨_, rfl⟩
        have ne_bB_b3 : Hid (bB ≠ b3) := by show _ ≠ _; rw [← Hb3.out]; exact Nat.ne_of_lt lt_bB
        have ne_bR_b3 : Hid (bR ≠ b3) := by show _ ≠ _; rw [← Hb3.out]; exact Nat.ne_of_lt lt_bR
        have le_b3 : Hid (w.heap.size ≤ b3) := by show _ ≤ _; rw [← Hb3.out]; exact le_b3.out
        rw [Hb3.out] at hK ⊢
        clear lt_bB lt_bR
        have Hrd : Hid (rdV (rdp a) = .tuple #[.agg (QA ⟨x, y, 1⟩), .bool true]) := by show _ = _; rw [rd_even (by rw [Hy.out]; exact Hlt.out) (by rw [Hy.out]; exact Hfr.out) hodd.out, Hy.out]; rfl
        go_upto_region 10 with fail
        go_wp2_with (first
          | refine wpList_load_own (by rfl) 22 (.tmp 5) (by rfl) b3 (by rfl) (B32 (bdig x)) _ (hK.at b3 (B32 (bdig x)) 22 (.head _)) Tryz.underlying22 (by rfl) (B32_info _) ?_
          | refine wpList_load_own (by rfl) 22 (.tmp 1) (by rfl) bB (by rfl) (B32 (bdig y)) _ (hK.at bB (B32 (bdig y)) 22 (.tail _ (.head _))) Tryz.underlying22 (by rfl) (B32_info _) ?_
          | refine wpList_build_one (by rfl) (by rfl) ?_
          | refine wpList_build_q (by rfl) 38 39 40 (x) (y) (1) (by rfl) (by rfl) (by rfl) (by rfl) ?_
          | refine wpList_store_own (op := { dst := none, op := _, type := _, pos := _, after := _, guard := _ }) rfl 74 (.tmp 2) (.tmp 41) rfl bR 0 (QA ⟨x, y, 1⟩) (by rfl) (by rfl) (hK.at bR (QA ⟨0, 0, 0⟩) 74 (.tail _ (.tail _ (.head _)))) (QA_le _ _) (QA_info _) (QA_one _) (by rfl) ?_)
        exact bodyPost_ret (results_own_tmp Tryz.results62 _ _ bR (QA ⟨x, y, 1⟩) _ (by rfl) (own_setCells (hK.at bR (QA ⟨0, 0, 0⟩) 74 (.tail _ (.tail _ (.head _)))) (QA_sizes _ _)) Tryz.underlying74 rfl (QA_info _)) rfl ⟨by rw [Hrd.out]; rfl, Below.setCells _ _ _ _ le_bR.out hK.2⟩
    · have Hrd : Hid (rdV (rdp a) = .tuple #[.agg (QA ⟨0, 0, 0⟩), .bool false]) := by show _ = _; rw [rd_big (by rw [Hy.out]; exact hlt)]; rfl
      have Hlt := show Hid _ from hlt
      clear hlt
      go_wp2_with (refine wpList_load_own (by rfl) 22 (.tmp 1) (by rfl) bB (by rfl) (B32 (bdig y)) _ (hK.at bB (B32 (bdig y)) 22 (.head _)) Tryz.underlying22 (by rfl) (B32_info _) ?_)
      refine (ccheck_no hy.out Hlt.out _ (TC.keep hT hK.2)).mono ?_
      rintro e V1 ⟨rfl, bw⟩
      have hK := hK.below bw
      clear bw
      go_upto_region 4 with fail
      go_wp2_with (refine wpList_store_own (op := { dst := none, op := _, type := _, pos := _, after := _, guard := _ }) rfl 74 (.tmp 2) (.tmp 18) rfl bR 0 (QA ⟨0, 0, 0⟩) (by rfl) (by rfl) (hK.at bR (QA ⟨0, 0, 0⟩) 74 (.tail _ (.head _))) (QA_le _ _) (QA_info _) (QA_one _) (by rfl) ?_)
      exact bodyPost_ret (results_own_tmp Tryz.results62 _ _ bR (QA ⟨0, 0, 0⟩) _ (by rfl) (own_setCells (hK.at bR (QA ⟨0, 0, 0⟩) 74 (.tail _ (.head _))) (QA_sizes _ _)) Tryz.underlying74 rfl (QA_info _)) rfl ⟨by rw [Hrd.out]; rfl, Below.setCells _ _ _ _ le_bR.out hK.2⟩
theorem enc_R3 (P : Pt E5) : enc P < R256 := by have := enc_lt P; rw [R256_HH]; exact this
theorem rd_pt (P : Pt E5) : ∃ r, rdp (enc P) = some r ∧ Ok3 P r := by
  have hy : enc P % HH < pp := by rw [enc_y]; exact P.y.isLt
  have hyR : enc P % HH < R256 := Nat.lt_trans hy (by decide)
  cases hf : froot (usq (enc P % HH)) with
  | none => exact absurd rfl (dec_noroot hf P)
  | some x =>
    have hxR : x < R256 := Nat.lt_trans (froot_some hf).1 (by decide)
    by_cases ho : enc P / HH = 1
    · by_cases hx : x = 0
      · subst hx; exact absurd rfl (dec_noside hf ho P)
      · obtain ⟨Q, h1, h2, h3⟩ := dec_side hy hf ho hx
        obtain rfl := enc_inj h1
        exact ⟨_, rd_side hy hf ho hx, Ok3.ofPt h2 h3 (subp_R _ _) hyR⟩
    · have ho0 : enc P / HH = 0 := by have := half_lt (enc_R3 P); generalize enc P / HH = q at *; omega
      obtain ⟨Q, h1, h2, h3⟩ := dec_even hy hf ho0
      obtain rfl := enc_inj h1
      exact ⟨_, rd_even hy hf ho, Ok3.ofPt h2 h3 hxR hyR⟩
theorem rd_not {a : Nat} (ha : a < R256) (h : ∀ P : Pt E5, enc P ≠ a) : rdp a = none := by
  by_cases hy : a % HH < pp
  · cases hf : froot (usq (a % HH)) with
    | none => exact rd_noroot hy hf
    | some x =>
      by_cases ho : a / HH = 1
      · by_cases hx : x = 0
        · subst hx; exact rd_noside hy hf ho
        · obtain ⟨Q, h1, -, -⟩ := dec_side hy hf ho hx
          exact absurd h1 (h Q)
      · have ho0 : a / HH = 0 := by have := half_lt ha; generalize a / HH = q at *; omega
        obtain ⟨Q, h1, -, -⟩ := dec_even hy hf ho0
        exact absurd h1 (h Q)
  · exact rd_big hy
theorem read_pt {P : Pt E5} {r : N3} (hr : rdp (enc P) = some r) (w : World) (hT : TC w) : Calls Tryz.prog 62 #[.agg (B32 (bdig (enc P)))] w fun e w' => e = .returned (.tuple #[.agg (QA r), .bool true]) ∧ Below w.heap.size w w' := by
  have := read_nat (enc P) (enc_R3 P) w hT
  rw [hr] at this
  exact this
theorem read_not {a : Nat} (ha : a < R256) (h : ∀ P : Pt E5, enc P ≠ a) (w : World) (hT : TC w) : Calls Tryz.prog 62 #[.agg (B32 (bdig a))] w fun e w' => e = .returned (.tuple #[.agg (QA ⟨0, 0, 0⟩), .bool false]) ∧ Below w.heap.size w w' := by
  have := read_nat a ha w hT
  rw [rd_not ha h] at this
  exact this
end Go.Proofs.YtgibllaifnnfkaaGreatDoor
