/- Of the texts V4: what the card of this claim reaches. -/
import Derived.Test.YtgibllaifnnfkaaGreatDoorXE34
import Derived.Test.YtgibllaifnnfkaaGreatDoorXE9
import Derived.Test.YtgibllaifnnfkaaGreatDoorXE29
import Derived.Test.YtgibllaifnnfkaaGreatDoorXE4
namespace Go.Proofs.YtgibllaifnnfkaaGreatDoor
open Go Go.RowKit
theorem wpList_load_gd {P : Program} {ops : Array Oper} {rest : List Oper} {op : Oper} {a : Act} {w : World} {Q : Exit → Act → World → Prop} (hw : Region.wanted op (yielded ops a.tmps) = true) (ty : TypeId) (x : Operand) (ho : op.op = .load ty x)
    (b : Nat) (hx : a.eval x = .pointer (some ⟨b, 0, none⟩)) (A : Array Value) (d : TypeDesc) {t : TypeId} (hc : Own w b A t)
    (hu : P.underlying ty = some d) (hd : d.isRow = true) (hi : (P.info? ty).map (·.size) = some A.size)
    (h : wpList P ops Q rest (a.put op.dst (.agg A)) w) : wpList P ops Q (op :: rest) a w :=
  wpList_step fun K hK => by
    rw [if_pos hw]
    exact wp_load_own ty x ho b hx A d t hc hu hd hi (hK _ _ h)
noncomputable def dec (a : Nat) : Option N4 :=
  if a % HH < pp then
    match froot (usq (a % HH)) with
    | none => none
    | some x => if a / HH = 1 then (if x = 0 then none else some ⟨subp 0 x, a % HH, 1, subp 0 x * (a % HH) % pp⟩) else some ⟨x, a % HH, 1, x * (a % HH) % pp⟩
  else none
theorem dec_big' {a : Nat} (h : ¬ a % HH < pp) : dec a = none := by unfold dec; rw [if_neg h]
theorem dec_noroot' {a : Nat} (h : a % HH < pp) (hf : froot (usq (a % HH)) = none) : dec a = none := by unfold dec; rw [if_pos h, hf]
theorem dec_noside' {a : Nat} (h : a % HH < pp) (hf : froot (usq (a % HH)) = some 0) (ho : a / HH = 1) : dec a = none := by unfold dec; rw [if_pos h, hf]; simp [ho]
theorem dec_side' {a x : Nat} (h : a % HH < pp) (hf : froot (usq (a % HH)) = some x) (ho : a / HH = 1) (hx : x ≠ 0) : dec a = some ⟨subp 0 x, a % HH, 1, subp 0 x * (a % HH) % pp⟩ := by unfold dec; rw [if_pos h, hf]; simp [ho, hx]
theorem dec_even' {a x : Nat} (h : a % HH < pp) (hf : froot (usq (a % HH)) = some x) (ho : a / HH ≠ 1) : dec a = some ⟨x, a % HH, 1, x * (a % HH) % pp⟩ := by unfold dec; rw [if_pos h, hf]; simp [ho]
def decV : Option N4 → Value
  | some r => .tuple #[.agg (PA r), .bool true]
  | none => .tuple #[.agg (PA ⟨0, 0, 0, 0⟩), .bool false]
theorem less_yes {a b : Nat} (ha : a < R256) (h : a < b) (w : World) (hb : b < R256 := by decide) : Calls Tryz.prog 64 #[.agg (numA a), .agg (numA b)] w fun e w' => e = .returned (.bool true) ∧ Below w.heap.size w w' := by
  have := less_any a b ha hb w
  rwa [decide_eq_true h] at this
theorem less_no {a b : Nat} (ha : a < R256) (h : ¬ a < b) (w : World) (hb : b < R256 := by decide) : Calls Tryz.prog 64 #[.agg (numA a), .agg (numA b)] w fun e w' => e = .returned (.bool false) ∧ Below w.heap.size w w' := by
  have := less_any a b ha hb w
  rwa [decide_eq_false h] at this
theorem root_none {a : Nat} (ha : a < R256) (h : froot a = none) (w : World) : Calls Tryz.prog 69 #[.agg (numA a)] w fun e w' => e = .returned (.tuple #[.agg (numA 0), .bool false]) ∧ Below w.heap.size w w' := by
  have := root_any a ha w
  unfold rootV at this
  rwa [h] at this
theorem root_some {a x : Nat} (ha : a < R256) (h : froot a = some x) (w : World) : Calls Tryz.prog 69 #[.agg (numA a)] w fun e w' => e = .returned (.tuple #[.agg (numA x), .bool true]) ∧ Below w.heap.size w w' := by
  have := root_any a ha w
  unfold rootV at this
  rwa [h] at this
theorem eq_zero {x : Nat} (hx : x < R256) (h : x = 0) (w : World) : (Op.equalIn 10000 54 (.agg (numA x)) (.agg #[.int .u64 0, .int .u64 0, .int .u64 0, .int .u64 0])).run Tryz.prog w = .ok true w :=
  (num_eq x 0 hx (by decide) w).trans (by rw [decide_eq_true h])
theorem ne_zero {x : Nat} (hx : x < R256) (h : x ≠ 0) (w : World) : (Op.equalIn 10000 54 (.agg (numA x)) (.agg #[.int .u64 0, .int .u64 0, .int .u64 0, .int .u64 0])).run Tryz.prog w = .ok false w :=
  (num_eq x 0 hx (by decide) w).trans (by rw [decide_eq_false h])
set_option maxRecDepth 100000 in
set_option maxHeartbeats 3000000 in
theorem decode_any (a : Nat) (ha : Hid (a < R256)) (w : World) : Calls Tryz.prog 36 #[.agg (B32 (bdig a))] w fun e w' => e = .returned (decV (dec a)) ∧ Below w.heap.size w w' := by
  have hz := (zero_of_info zeroLit).1
  have hzP := (zero_of_info zeroPA).1
  obtain ⟨y, Hy⟩ : ∃ y, Hid (a % HH = y) := ⟨_, rfl⟩
  have hy : Hid (y < R256) := by show _ < _; rw [← Hy.out]; exact Nat.lt_of_le_of_lt (Nat.mod_le _ _) ha.out
  obtain ⟨yy, Hyy⟩ : ∃ z, Hid (y * y % pp = z) := ⟨_, rfl⟩
  have hyy : Hid (yy < R256) := by show _ < _; rw [← Hyy.out]; exact lt_of_mod
  obtain ⟨s, Hs⟩ : ∃ z, Hid (subp yy 1 = z) := ⟨_, rfl⟩
  have hs : Hid (s < R256) := by show _ < _; rw [← Hs.out]; exact subp_lt _ _
  obtain ⟨e, He⟩ : ∃ z, Hid (dd * yy % pp = z) := ⟨_, rfl⟩
  have he : Hid (e < R256) := by show _ < _; rw [← He.out]; exact lt_of_mod
  obtain ⟨g, Hg⟩ : ∃ z, Hid ((e + 1) % pp = z) := ⟨_, rfl⟩
  have hg : Hid (g < R256) := by show _ < _; rw [← Hg.out]; exact lt_of_mod
  obtain ⟨v, Hv⟩ : ∃ z, Hid (finv g = z) := ⟨_, rfl⟩
  have hv : Hid (v < R256) := by show _ < _; rw [← Hv.out]; exact finv_R _
  obtain ⟨q, Hq⟩ : ∃ z, Hid (s * v % pp = z) := ⟨_, rfl⟩
  have hq : Hid (q < R256) := by show _ < _; rw [← Hq.out]; exact lt_of_mod
  have Hqu : Hid (q = usq y) := by show _ = _; rw [← Hq.out, ← Hs.out, ← Hv.out, ← Hg.out, ← He.out, ← Hyy.out]; rfl
  by_cases hod : a / HH = 1
  · have hodd : Hid (a / HH = 1) := hod
    have hge : (128 : Int) ≤ (bdig a 31 : Int) := by have := (top_odd ha.out).2 hod; omega
    clear hod
    go_enter Tryz.func36, Tryz.ntmps36
    go_upto_region 1 with fail
    have hK := ((Kp.nil w).alloc (B32 (bdig a)) 22).alloc (PA ⟨0, 0, 0, 0⟩) 56
    rw [World.size_alloc] at hK
    generalize (w.alloc (.cells (B32 (bdig a)) 22)).alloc (.cells (PA ⟨0, 0, 0, 0⟩) 56) = W at *
    obtain ⟨bB, HbB⟩ : ∃ b, Hid (w.heap.size = b) := ⟨_, rfl⟩
    obtain ⟨bR, HbR⟩ : ∃ b, Hid (bB + 1 = b) := ⟨_, rfl⟩
    have le_bB : Hid (w.heap.size ≤ bB) := by show _ ≤ _; have := HbB.out; omega
    have le_bR : Hid (w.heap.size ≤ bR) := by show _ ≤ _; have := HbB.out; have := HbR.out; omega
    have ne_bB_bR : Hid (bB ≠ bR) := by show _ ≠ _; have := HbR.out; omega
    rw [HbB.out, HbR.out] at hK ⊢
    have cB := (hK.at bB (B32 (bdig a)) 22 (.tail _ (.head _))).cell (B32_at (bdig a) 31 (by decide))
    have fB := (hK.at bB (B32 (bdig a)) 22 (.tail _ (.head _))).frozen 31
    have hand := and_top a
    obtain ⟨u, Hu⟩ : ∃ u, Hid (bdig a 31 % 128 = u) := ⟨_, rfl⟩
    rw [Hu.out] at hand
    have hK : Kp [(bB, B32 (bdig a), 22), (bR, PA ⟨0, 0, 0, 0⟩, 56)] w W := ((hK.none.cons (hK.at bR (PA ⟨0, 0, 0, 0⟩) 56 (.head _))).cons (hK.at bB (B32 (bdig a)) 22 (.tail _ (.head _))))
    have hK := Kp.setCell (i := 31) (v := .int .u8 (u : Int)) hK (by simp only [List.forall_mem_cons, List.not_mem_nil, false_implies, implies_true, and_true]; exact (Ne.symm ne_bB_bR.out)) le_bB.out
    rw [B32_set _ 31 _ (by decide), ← Hu.out, B32_low ha.out, Hy.out, Hu.out] at hK
    generalize bdig a 31 = d31 at *
    go_upto_region 3 with fail
    generalize W.setCell ⟨bB, 31, none⟩ (.int .u8 (u : Int)) = V0 at *
    clear cB fB hand hge
    go_wp2_with (refine wpList_load_own (by rfl) 22 (.tmp 1) (by rfl) bB (by rfl) (B32 (bdig y)) _ (hK.at bB (B32 (bdig y)) 22 (.head _)) Tryz.underlying22 (by rfl) (B32_info _) ?_)
    refine (of_any y hy.out _).mono ?_
    rintro e V1 ⟨rfl, bw⟩
    have hK := hK.below bw
    clear bw
    go_upto_region 4 with (refine wpList_store_new (by rfl) 54 (.tmp 5) (.tmp 17) (by rfl) _ (numA y) (by rfl) (by rfl) (numA_info _) (lit4_size _ _ _ _ _) (numA_one _) (by rfl) ?_)
    have lt_bB := (hK.at bB (B32 (bdig y)) 22 (.head _)).lt
    have lt_bR := (hK.at bR (PA ⟨0, 0, 0, 0⟩) 56 (.tail _ (.head _))).lt
    have le_b2 := show Hid _ from hK.2.size
    have hK := hK.alloc (numA y) 54
    generalize V1.alloc (.cells (numA y) 54) = V3 at *
    obtain ⟨b2, Hb2⟩ : ∃ b, Hid (V1.heap.size = b) := ⟨_, rfl⟩
    have ne_bB_b2 : Hid (bB ≠ b2) := by show _ ≠ _; rw [← Hb2.out]; exact Nat.ne_of_lt lt_bB
    have ne_bR_b2 : Hid (bR ≠ b2) := by show _ ≠ _; rw [← Hb2.out]; exact Nat.ne_of_lt lt_bR
    have le_b2 : Hid (w.heap.size ≤ b2) := by show _ ≤ _; rw [← Hb2.out]; exact le_b2.out
    rw [Hb2.out] at hK ⊢
    clear lt_bB lt_bR
    have hK : Kp [(b2, numA y, 54), (bR, PA ⟨0, 0, 0, 0⟩, 56)] w V3 := ((hK.none.cons (hK.at bR (PA ⟨0, 0, 0, 0⟩) 56 (.tail _ (.tail _ (.head _))))).cons (hK.at b2 (numA y) 54 (.head _)))
    by_cases hlt : y < pp
    · have Hlt := show Hid _ from hlt
      clear hlt
      refine wp_region_lv 62 (fun _ => [(b2, numA y, 54), (bR, PA ⟨0, 0, 0, 0⟩, 56)]) [.v (.agg (numA y)), .v (.agg (numA pp)), .v (.bool true), .v (.bool false)] hK (by kernel_rfl) (by kernel_rfl) (by kernel_rfl) (by rfl) ?_ ?_
      · exact .c (.ld b2 (fun _ => .head _) Tryz.underlying54 rfl (numA_info _)) <| .c (.ca fun _ _ _ => P_any _) <| .c (.ca fun _ _ _ => less_yes hy.out Hlt.out _) <| .c (.p1 20 (.bool true)) .nil
      intro _ V4 hJ _
      have hK : Kp [(b2, numA y, 54), (bR, PA ⟨0, 0, 0, 0⟩, 56)] w V4 := hJ.1
      clear hJ
      simp only [putL, Lv.val, Act.put, List.setIfInBounds_toArray, List.set_cons_succ, List.set_cons_zero]
      go_upto_region 6 with fail
      go_wp2_with (first
        | refine wpList_load_own (by rfl) 54 (.tmp 5) (by rfl) b2 (by rfl) (numA y) _ (hK.at b2 (numA y) 54 (.head _)) Tryz.underlying54 (by rfl) (numA_info _) ?_
        | refine wpList_load_own (by rfl) 54 (.tmp 5) (by rfl) b2 (by rfl) (numA y) _ (hK.at b2 (numA y) 54 (.head _)) Tryz.underlying54 (by rfl) (numA_info _) ?_)
      refine (mul_at hy.out hy.out Hyy.out _).mono ?_
      rintro e V5 ⟨rfl, bw⟩
      have hK := hK.below bw
      clear bw
      go_upto_region 7 with (refine wpList_store_new (by rfl) 54 (.tmp 6) (.tmp 25) (by rfl) _ (numA yy) (by rfl) (by rfl) (numA_info _) (lit4_size _ _ _ _ _) (numA_one _) (by rfl) ?_)
      have lt_b2 := (hK.at b2 (numA y) 54 (.head _)).lt
      have lt_bR := (hK.at bR (PA ⟨0, 0, 0, 0⟩) 56 (.tail _ (.head _))).lt
      have le_b6 := show Hid _ from hK.2.size
      have hK := hK.alloc (numA yy) 54
      generalize V5.alloc (.cells (numA yy) 54) = V7 at *
      obtain ⟨b6, Hb6⟩ : ∃ b, Hid (V5.heap.size = b) := ⟨_, rfl⟩
      have ne_b2_b6 : Hid (b2 ≠ b6) := by show _ ≠ _; rw [← Hb6.out]; exact Nat.ne_of_lt lt_b2
      have ne_bR_b6 : Hid (bR ≠ b6) := by show _ ≠ _; rw [← Hb6.out]; exact Nat.ne_of_lt lt_bR
      have le_b6 : Hid (w.heap.size ≤ b6) := by show _ ≤ _; rw [← Hb6.out]; exact le_b6.out
      rw [Hb6.out] at hK ⊢
      clear lt_b2 lt_bR
      rcases hfr : froot (usq y) with _ | x
      · have Hfr := show Hid _ from hfr
        clear hfr
        have Hdec : Hid (decV (dec a) = .tuple #[.agg (PA ⟨0, 0, 0, 0⟩), .bool false]) := by show _ = _; rw [dec_noroot' (by rw [Hy.out]; exact Hlt.out) (by rw [Hy.out]; exact Hfr.out)]; rfl
        refine wp_region_lv 62 (fun _ => [(b6, numA yy, 54), (b2, numA y, 54), (bR, PA ⟨0, 0, 0, 0⟩, 56)]) [.v (.agg (numA yy)), .v (.agg (numA 1)), .v (.agg (numA s)), .v (.agg (numA dd)), .v (.agg (numA yy)), .v (.agg (numA e)), .v (.agg (numA 1)), .v (.agg (numA g)), .v (.agg (numA v)), .v (.agg (numA q)), .v (.tuple #[.agg (numA 0), .bool false]), .v (.tuple #[.agg (numA 0), .bool false]), .v (.agg (numA 0)), .v (.bool false), .mk (numA 0) (numA 0) 54 15, .o, .v (.bool false)] hK (by kernel_rfl) (by kernel_rfl) (by kernel_rfl) (by rfl) ?_ ?_
        · exact .c (.ld b6 (fun _ => .head _) Tryz.underlying54 rfl (numA_info _)) <| .c .p0 <| .c (.ca fun _ _ _ => fsub_at hyy.out (by decide) Hs.out _) <| .c (.ca fun _ _ _ => d_any _) <| .c (.ld b6 (fun _ => .head _) Tryz.underlying54 rfl (numA_info _)) <| .c (.ca fun _ _ _ => mul_at dd_R hyy.out He.out _) <| .c .p0 <| .c (.ca fun _ _ _ => fadd_at he.out (by decide) Hg.out _) <| .c (.ca fun _ _ _ => inv_at hg.out Hv.out _) <| .c (.ca fun _ _ _ => mul_at hs.out hv.out Hq.out _) <| .c (.ca fun _ _ _ => root_none hq.out (by rw [Hqu.out]; exact Hfr.out) _) <| .c (.p1 37 (.tuple #[.agg (numA 0), .bool false])) <| .c (.p1 26 (.tuple #[.agg (numA 0), .bool false])) <| .c (.p1 26 (.tuple #[.agg (numA 0), .bool false])) <| .c (.al hz) <| .c (.st 14 (numA_info _) (numA_one _)) <| .c (.p1 39 (.bool false)) .nil
        intro vs V8 hJ hf
        obtain ⟨g9, hgg9⟩ := hf 14 _ _ rfl rfl
        obtain ⟨le0, apg9, owng9⟩ := hJ.got 14 hgg9
        have le_g9 := show Hid _ from le0
        clear le0
        have ne_bR_g9 : Hid (bR ≠ g9) := apg9 (bR, PA ⟨0, 0, 0, 0⟩, 56) (.tail _ (.tail _ (.head _)))
        have hK : Kp [(g9, numA 0, 54), (b6, numA yy, 54), (b2, numA y, 54), (bR, PA ⟨0, 0, 0, 0⟩, 56)] w V8 := (hJ.1.cons owng9)
        simp only [putL, Lv.val, Nat.zero_add, Nat.reduceAdd, hgg9, Act.put, List.setIfInBounds_toArray, List.set_cons_succ, List.set_cons_zero]
        clear hJ hf hgg9 apg9 owng9
        go_upto_region 9 with fail
        go_wp2_with (refine wpList_store_own (by rfl) 56 (.tmp 2) (.tmp 50) (by rfl) bR 0 (PA ⟨0, 0, 0, 0⟩) (by rfl) (by rfl) (hK.at bR (PA ⟨0, 0, 0, 0⟩) 56 (.tail _ (.tail _ (.tail _ (.head _))))) (Nat.le_refl _) (PA_info _) (PA_one _) (by rfl) ?_)
        exact bodyPost_ret (results_own_tmp Tryz.results36 _ _ bR (PA ⟨0, 0, 0, 0⟩) _ (by rfl) (own_setCells (hK.at bR (PA ⟨0, 0, 0, 0⟩) 56 (.tail _ (.tail _ (.tail _ (.head _))))) (PA_sizes _ _)) Tryz.underlying56 rfl (PA_info _)) rfl ⟨by rw [Hdec.out]; rfl, Below.setCells _ _ _ _ le_bR.out hK.2⟩
      · have Hfr := show Hid _ from hfr
        clear hfr
        have hx : Hid (x < R256) := by show _ < _; exact Nat.lt_trans (froot_some Hfr.out).1 (by decide)
        refine wp_region_lv 62 (fun _ => [(b6, numA yy, 54), (b2, numA y, 54), (bR, PA ⟨0, 0, 0, 0⟩, 56)]) [.v (.agg (numA yy)), .v (.agg (numA 1)), .v (.agg (numA s)), .v (.agg (numA dd)), .v (.agg (numA yy)), .v (.agg (numA e)), .v (.agg (numA 1)), .v (.agg (numA g)), .v (.agg (numA v)), .v (.agg (numA q)), .v (.tuple #[.agg (numA x), .bool true]), .v (.tuple #[.agg (numA x), .bool true]), .v (.agg (numA x)), .v (.bool true), .mk (numA 0) (numA x) 54 15, .o, .v (.bool true)] hK (by kernel_rfl) (by kernel_rfl) (by kernel_rfl) (by rfl) ?_ ?_
        · exact .c (.ld b6 (fun _ => .head _) Tryz.underlying54 rfl (numA_info _)) <| .c .p0 <| .c (.ca fun _ _ _ => fsub_at hyy.out (by decide) Hs.out _) <| .c (.ca fun _ _ _ => d_any _) <| .c (.ld b6 (fun _ => .head _) Tryz.underlying54 rfl (numA_info _)) <| .c (.ca fun _ _ _ => mul_at dd_R hyy.out He.out _) <| .c .p0 <| .c (.ca fun _ _ _ => fadd_at he.out (by decide) Hg.out _) <| .c (.ca fun _ _ _ => inv_at hg.out Hv.out _) <| .c (.ca fun _ _ _ => mul_at hs.out hv.out Hq.out _) <| .c (.ca fun _ _ _ => root_some hq.out (by rw [Hqu.out]; exact Hfr.out) _) <| .c (.p1 37 (.tuple #[.agg (numA x), .bool true])) <| .c (.p1 26 (.tuple #[.agg (numA x), .bool true])) <| .c (.p1 26 (.tuple #[.agg (numA x), .bool true])) <| .c (.al hz) <| .c (.st 14 (numA_info _) (numA_one _)) <| .c (.p1 39 (.bool true)) .nil
        intro vs V8 hJ hf
        obtain ⟨g9, hgg9⟩ := hf 14 _ _ rfl rfl
        obtain ⟨le0, apg9, owng9⟩ := hJ.got 14 hgg9
        have le_g9 := show Hid _ from le0
        clear le0
        have ne_b6_g9 : Hid (b6 ≠ g9) := apg9 (b6, numA yy, 54) (.head _)
        have ne_b2_g9 : Hid (b2 ≠ g9) := apg9 (b2, numA y, 54) (.tail _ (.head _))
        have ne_bR_g9 : Hid (bR ≠ g9) := apg9 (bR, PA ⟨0, 0, 0, 0⟩, 56) (.tail _ (.tail _ (.head _)))
        have hK : Kp [(g9, numA x, 54), (b6, numA yy, 54), (b2, numA y, 54), (bR, PA ⟨0, 0, 0, 0⟩, 56)] w V8 := (hJ.1.cons owng9)
        simp only [putL, Lv.val, Nat.zero_add, Nat.reduceAdd, hgg9, Act.put, List.setIfInBounds_toArray, List.set_cons_succ, List.set_cons_zero]
        clear hJ hf hgg9 apg9 owng9
        by_cases hx0 : x = 0
        · have Hdec : Hid (decV (dec a) = .tuple #[.agg (PA ⟨0, 0, 0, 0⟩), .bool false]) := by show _ = _; rw [dec_noside' (by rw [Hy.out]; exact Hlt.out) (by rw [Hy.out, Hfr.out, hx0]) hodd.out]; rfl
          have hq0 := eq_zero hx.out hx0
          clear hx0
          go_upto_region 9 with (refine wpList_load_gd (by rfl) 54 (.tmp 7) (by rfl) g9 (by rfl) (numA x) _ (hK.at g9 (numA x) 54 (.head _)) Tryz.underlying54 (by rfl) (numA_info _) ?_)
          go_wp2_with (refine wpList_store_own (by rfl) 56 (.tmp 2) (.tmp 50) (by rfl) bR 0 (PA ⟨0, 0, 0, 0⟩) (by rfl) (by rfl) (hK.at bR (PA ⟨0, 0, 0, 0⟩) 56 (.tail _ (.tail _ (.tail _ (.head _))))) (Nat.le_refl _) (PA_info _) (PA_one _) (by rfl) ?_)
          exact bodyPost_ret (results_own_tmp Tryz.results36 _ _ bR (PA ⟨0, 0, 0, 0⟩) _ (by rfl) (own_setCells (hK.at bR (PA ⟨0, 0, 0, 0⟩) 56 (.tail _ (.tail _ (.tail _ (.head _))))) (PA_sizes _ _)) Tryz.underlying56 rfl (PA_info _)) rfl ⟨by rw [Hdec.out]; rfl, Below.setCells _ _ _ _ le_bR.out hK.2⟩
        · obtain ⟨xs, Hxs⟩ : ∃ z, Hid (subp 0 x = z) := ⟨_, rfl⟩
          have hxs : Hid (xs < R256) := by show _ < _; rw [← Hxs.out]; exact subp_lt _ _
          obtain ⟨t, Ht⟩ : ∃ z, Hid (xs * y % pp = z) := ⟨_, rfl⟩
          have Hdec : Hid (decV (dec a) = .tuple #[.agg (PA ⟨xs, y, 1, t⟩), .bool true]) := by show _ = _; rw [dec_side' (by rw [Hy.out]; exact Hlt.out) (by rw [Hy.out]; exact Hfr.out) hodd.out hx0, Hy.out, Hxs.out, Ht.out]; rfl
          have hq0 := ne_zero hx.out hx0
          clear hx0
          go_upto_region 11 with (refine wpList_load_gd (by rfl) 54 (.tmp 7) (by rfl) g9 (by rfl) (numA x) _ (hK.at g9 (numA x) 54 (.head _)) Tryz.underlying54 (by rfl) (numA_info _) ?_)
          clear hq0
          go_wp2_with (refine wpList_load_own (by rfl) 54 (.tmp 7) (by rfl) g9 (by rfl) (numA x) _ (hK.at g9 (numA x) 54 (.head _)) Tryz.underlying54 (by rfl) (numA_info _) ?_)
          rw [show (#[.int .u64 0, .int .u64 0, .int .u64 0, .int .u64 0] : Array Value) = numA 0 from rfl]
          refine (fsub_at (by decide) hx.out Hxs.out _).mono ?_
          rintro e V10 ⟨rfl, bw⟩
          have hK := hK.below bw
          clear bw
          go_upto_region 12 with (refine wpList_store_own (by rfl) 54 (.tmp 7) (.tmp 54) (by rfl) g9 0 (numA xs) (by rfl) (by rfl) (hK.at g9 (numA x) 54 (.head _)) (Nat.le_refl _) (numA_info _) (numA_one _) (by rfl) ?_)
          have hK : Kp [(g9, numA x, 54), (b6, numA yy, 54), (b2, numA y, 54), (bR, PA ⟨0, 0, 0, 0⟩, 56)] w V10 := ((((hK.none.cons (hK.at bR (PA ⟨0, 0, 0, 0⟩) 56 (.tail _ (.tail _ (.tail _ (.head _)))))).cons (hK.at b2 (numA y) 54 (.tail _ (.tail _ (.head _))))).cons (hK.at b6 (numA yy) 54 (.tail _ (.head _)))).cons (hK.at g9 (numA x) 54 (.head _)))
          have hK := Kp.set (A' := numA xs) hK (by simp only [List.forall_mem_cons, List.not_mem_nil, false_implies, implies_true, and_true]; exact ⟨ne_b6_g9.out, ne_b2_g9.out, ne_bR_g9.out⟩) le_g9.out (numA_sizes _ _)
          generalize V10.setCells g9 0 (numA xs).toList = V11 at *
          have hK : Kp [(g9, numA xs, 54), (b2, numA y, 54), (bR, PA ⟨0, 0, 0, 0⟩, 56)] w V11 := (((hK.none.cons (hK.at bR (PA ⟨0, 0, 0, 0⟩) 56 (.tail _ (.tail _ (.tail _ (.head _)))))).cons (hK.at b2 (numA y) 54 (.tail _ (.tail _ (.head _))))).cons (hK.at g9 (numA xs) 54 (.head _)))
          refine wp_region_lv 62 (fun L => [(g9, numA xs, 54), (b2, numA y, 54), (bR, if L 7 = true then PA ⟨xs, y, 1, t⟩ else PA ⟨0, 0, 0, 0⟩, 56)]) [.v (.agg (numA xs)), .v (.agg (numA y)), .v (.agg (numA 1)), .v (.agg (numA xs)), .v (.agg (numA y)), .v (.agg (numA t)), .v (.agg (PA ⟨xs, y, 1, t⟩)), .o, .v (.bool true)] hK (by kernel_rfl) (by kernel_rfl) (by kernel_rfl) (by rfl) ?_ ?_
          · exact .c (.ld g9 (fun _ => .head _) Tryz.underlying54 rfl (numA_info _)) <| .c (.ld b2 (fun _ => .tail _ (.head _)) Tryz.underlying54 rfl (numA_info _)) <| .c .p0 <| .c (.ld g9 (fun _ => .head _) Tryz.underlying54 rfl (numA_info _)) <| .c (.ld b2 (fun _ => .tail _ (.head _)) Tryz.underlying54 rfl (numA_info _)) <| .c (.ca fun _ _ _ => mul_at hxs.out hy.out Ht.out _) <| .c (.x [(55, .agg (numA xs)), (56, .agg (numA y)), (57, .agg (numA 1)), (60, .agg (numA t))] fun _ _ _ _ _ hfx hkx hx => wp_build_pt 55 56 57 60 (xs) (y) (1) (t) rfl (hfx _ (.head _)) (hfx _ (.tail _ (.head _))) (hfx _ (.tail _ (.tail _ (.head _)))) (hfx _ (.tail _ (.tail _ (.tail _ (.head _))))) (hx _ _ rfl (Below.refl _ _))) <| .c (.sk bR (.nx (fun _ => rfl) (fun _ => rfl) (fun _ => Ne.symm ne_bR_g9.out) <| .nx (fun _ => rfl) (fun _ => rfl) (fun _ => Ne.symm ne_bR_b2.out) <| .hr (fun _ => rfl) (fun _ => rfl) (fun _ => fn)) le_bR.out (PA_info _) (PA_one _)) <| .c .p0 .nil
          intro _ V12 hJ _
          have hK : Kp [(g9, numA xs, 54), (b2, numA y, 54), (bR, PA ⟨xs, y, 1, t⟩, 56)] w V12 := hJ.1
          clear hJ
          simp only [putL, Lv.val, Act.put, List.setIfInBounds_toArray, List.set_cons_succ, List.set_cons_zero]
          go_wp2_with fail
          exact bodyPost_ret (results_own_tmp Tryz.results36 _ _ bR (PA ⟨xs, y, 1, t⟩) _ (by rfl) (hK.at bR (PA ⟨xs, y, 1, t⟩) 56 (.tail _ (.tail _ (.head _)))) Tryz.underlying56 rfl (PA_info _)) rfl ⟨by rw [Hdec.out]; rfl, hK.2⟩
    · have Hdec : Hid (decV (dec a) = .tuple #[.agg (PA ⟨0, 0, 0, 0⟩), .bool false]) := by show _ = _; rw [dec_big' (by rw [Hy.out]; exact hlt)]; rfl
      have Hlt := show Hid _ from hlt
      clear hlt
      refine wp_region_lv 62 (fun _ => [(b2, numA y, 54), (bR, PA ⟨0, 0, 0, 0⟩, 56)]) [.v (.agg (numA y)), .v (.agg (numA pp)), .v (.bool false), .v (.bool true)] hK (by kernel_rfl) (by kernel_rfl) (by kernel_rfl) (by rfl) ?_ ?_
      · exact .c (.ld b2 (fun _ => .head _) Tryz.underlying54 rfl (numA_info _)) <| .c (.ca fun _ _ _ => P_any _) <| .c (.ca fun _ _ _ => less_no hy.out Hlt.out _) <| .c (.p1 20 (.bool false)) .nil
      intro _ V4 hJ _
      have hK : Kp [(b2, numA y, 54), (bR, PA ⟨0, 0, 0, 0⟩, 56)] w V4 := hJ.1
      clear hJ
      simp only [putL, Lv.val, Act.put, List.setIfInBounds_toArray, List.set_cons_succ, List.set_cons_zero]
      go_upto_region 5 with fail
      go_wp2_with (refine wpList_store_own (by rfl) 56 (.tmp 2) (.tmp 22) (by rfl) bR 0 (PA ⟨0, 0, 0, 0⟩) (by rfl) (by rfl) (hK.at bR (PA ⟨0, 0, 0, 0⟩) 56 (.tail _ (.head _))) (Nat.le_refl _) (PA_info _) (PA_one _) (by rfl) ?_)
      exact bodyPost_ret (results_own_tmp Tryz.results36 _ _ bR (PA ⟨0, 0, 0, 0⟩) _ (by rfl) (own_setCells (hK.at bR (PA ⟨0, 0, 0, 0⟩) 56 (.tail _ (.head _))) (PA_sizes _ _)) Tryz.underlying56 rfl (PA_info _)) rfl ⟨by rw [Hdec.out]; rfl, Below.setCells _ _ _ _ le_bR.out hK.2⟩
  · have hodd : Hid (a / HH ≠ 1) := hod
    have hge : decide ((128 : Int) ≤ (bdig a 31 : Int)) = false := by have := mt (top_odd ha.out).1 hod; rw [decide_eq_false]; omega
    clear hod
    go_enter Tryz.func36, Tryz.ntmps36
    go_upto_region 1 with fail
    have hK := ((Kp.nil w).alloc (B32 (bdig a)) 22).alloc (PA ⟨0, 0, 0, 0⟩) 56
    rw [World.size_alloc] at hK
    generalize (w.alloc (.cells (B32 (bdig a)) 22)).alloc (.cells (PA ⟨0, 0, 0, 0⟩) 56) = W at *
    obtain ⟨bB, HbB⟩ : ∃ b, Hid (w.heap.size = b) := ⟨_, rfl⟩
    obtain ⟨bR, HbR⟩ : ∃ b, Hid (bB + 1 = b) := ⟨_, rfl⟩
    have le_bB : Hid (w.heap.size ≤ bB) := by show _ ≤ _; have := HbB.out; omega
    have le_bR : Hid (w.heap.size ≤ bR) := by show _ ≤ _; have := HbB.out; have := HbR.out; omega
    have ne_bB_bR : Hid (bB ≠ bR) := by show _ ≠ _; have := HbR.out; omega
    rw [HbB.out, HbR.out] at hK ⊢
    have cB := (hK.at bB (B32 (bdig a)) 22 (.tail _ (.head _))).cell (B32_at (bdig a) 31 (by decide))
    have fB := (hK.at bB (B32 (bdig a)) 22 (.tail _ (.head _))).frozen 31
    have hand := and_top a
    obtain ⟨u, Hu⟩ : ∃ u, Hid (bdig a 31 % 128 = u) := ⟨_, rfl⟩
    rw [Hu.out] at hand
    have hK : Kp [(bB, B32 (bdig a), 22), (bR, PA ⟨0, 0, 0, 0⟩, 56)] w W := ((hK.none.cons (hK.at bR (PA ⟨0, 0, 0, 0⟩) 56 (.head _))).cons (hK.at bB (B32 (bdig a)) 22 (.tail _ (.head _))))
    have hK := Kp.setCell (i := 31) (v := .int .u8 (u : Int)) hK (by simp only [List.forall_mem_cons, List.not_mem_nil, false_implies, implies_true, and_true]; exact (Ne.symm ne_bB_bR.out)) le_bB.out
    rw [B32_set _ 31 _ (by decide), ← Hu.out, B32_low ha.out, Hy.out, Hu.out] at hK
    generalize bdig a 31 = d31 at *
    go_upto_region 3 with fail
    generalize W.setCell ⟨bB, 31, none⟩ (.int .u8 (u : Int)) = V0 at *
    clear cB fB hand hge
    go_wp2_with (refine wpList_load_own (by rfl) 22 (.tmp 1) (by rfl) bB (by rfl) (B32 (bdig y)) _ (hK.at bB (B32 (bdig y)) 22 (.head _)) Tryz.underlying22 (by rfl) (B32_info _) ?_)
    refine (of_any y hy.out _).mono ?_
    rintro e V1 ⟨rfl, bw⟩
    have hK := hK.below bw
    clear bw
    go_upto_region 4 with (refine wpList_store_new (by rfl) 54 (.tmp 5) (.tmp 17) (by rfl) _ (numA y) (by rfl) (by rfl) (numA_info _) (lit4_size _ _ _ _ _) (numA_one _) (by rfl) ?_)
    have lt_bB := (hK.at bB (B32 (bdig y)) 22 (.head _)).lt
    have lt_bR := (hK.at bR (PA ⟨0, 0, 0, 0⟩) 56 (.tail _ (.head _))).lt
    have le_b2 := show Hid _ from hK.2.size
    have hK := hK.alloc (numA y) 54
    generalize V1.alloc (.cells (numA y) 54) = V3 at *
    obtain ⟨b2, Hb2⟩ : ∃ b, Hid (V1.heap.size = b) := ⟨_, rfl⟩
    have ne_bB_b2 : Hid (bB ≠ b2) := by show _ ≠ _; rw [← Hb2.out]; exact Nat.ne_of_lt lt_bB
    have ne_bR_b2 : Hid (bR ≠ b2) := by show _ ≠ _; rw [← Hb2.out]; exact Nat.ne_of_lt lt_bR
    have le_b2 : Hid (w.heap.size ≤ b2) := by show _ ≤ _; rw [← Hb2.out]; exact le_b2.out
    rw [Hb2.out] at hK ⊢
    clear lt_bB lt_bR
    have hK : Kp [(b2, numA y, 54), (bR, PA ⟨0, 0, 0, 0⟩, 56)] w V3 := ((hK.none.cons (hK.at bR (PA ⟨0, 0, 0, 0⟩) 56 (.tail _ (.tail _ (.head _))))).cons (hK.at b2 (numA y) 54 (.head _)))
    by_cases hlt : y < pp
    · have Hlt := show Hid _ from hlt
      clear hlt
      refine wp_region_lv 62 (fun _ => [(b2, numA y, 54), (bR, PA ⟨0, 0, 0, 0⟩, 56)]) [.v (.agg (numA y)), .v (.agg (numA pp)), .v (.bool true), .v (.bool false)] hK (by kernel_rfl) (by kernel_rfl) (by kernel_rfl) (by rfl) ?_ ?_
      · exact .c (.ld b2 (fun _ => .head _) Tryz.underlying54 rfl (numA_info _)) <| .c (.ca fun _ _ _ => P_any _) <| .c (.ca fun _ _ _ => less_yes hy.out Hlt.out _) <| .c (.p1 20 (.bool true)) .nil
      intro _ V4 hJ _
      have hK : Kp [(b2, numA y, 54), (bR, PA ⟨0, 0, 0, 0⟩, 56)] w V4 := hJ.1
      clear hJ
      simp only [putL, Lv.val, Act.put, List.setIfInBounds_toArray, List.set_cons_succ, List.set_cons_zero]
      go_upto_region 6 with fail
      go_wp2_with (first
        | refine wpList_load_own (by rfl) 54 (.tmp 5) (by rfl) b2 (by rfl) (numA y) _ (hK.at b2 (numA y) 54 (.head _)) Tryz.underlying54 (by rfl) (numA_info _) ?_
        | refine wpList_load_own (by rfl) 54 (.tmp 5) (by rfl) b2 (by rfl) (numA y) _ (hK.at b2 (numA y) 54 (.head _)) Tryz.underlying54 (by rfl) (numA_info _) ?_)
      refine (mul_at hy.out hy.out Hyy.out _).mono ?_
      rintro e V5 ⟨rfl, bw⟩
      have hK := hK.below bw
      clear bw
      go_upto_region 7 with (refine wpList_store_new (by rfl) 54 (.tmp 6) (.tmp 25) (by rfl) _ (numA yy) (by rfl) (by rfl) (numA_info _) (lit4_size _ _ _ _ _) (numA_one _) (by rfl) ?_)
      have lt_b2 := (hK.at b2 (numA y) 54 (.head _)).lt
      have lt_bR := (hK.at bR (PA ⟨0, 0, 0, 0⟩) 56 (.tail _ (.head _))).lt
      have le_b6 := show Hid _ from hK.2.size
      have hK := hK.alloc (numA yy) 54
      generalize V5.alloc (.cells (numA yy) 54) = V7 at *
      obtain ⟨b6, Hb6⟩ : ∃ b, Hid (V5.heap.size = b) := ⟨_, rfl⟩
      have ne_b2_b6 : Hid (b2 ≠ b6) := by show _ ≠ _; rw [← Hb6.out]; exact Nat.ne_of_lt lt_b2
      have ne_bR_b6 : Hid (bR ≠ b6) := by show _ ≠ _; rw [← Hb6.out]; exact Nat.ne_of_lt lt_bR
      have le_b6 : Hid (w.heap.size ≤ b6) := by show _ ≤ _; rw [← Hb6.out]; exact le_b6.out
      rw [Hb6.out] at hK ⊢
      clear lt_b2 lt_bR
      rcases hfr : froot (usq y) with _ | x
      · have Hfr := show Hid _ from hfr
        clear hfr
        have Hdec : Hid (decV (dec a) = .tuple #[.agg (PA ⟨0, 0, 0, 0⟩), .bool false]) := by show _ = _; rw [dec_noroot' (by rw [Hy.out]; exact Hlt.out) (by rw [Hy.out]; exact Hfr.out)]; rfl
        refine wp_region_lv 62 (fun _ => [(b6, numA yy, 54), (b2, numA y, 54), (bR, PA ⟨0, 0, 0, 0⟩, 56)]) [.v (.agg (numA yy)), .v (.agg (numA 1)), .v (.agg (numA s)), .v (.agg (numA dd)), .v (.agg (numA yy)), .v (.agg (numA e)), .v (.agg (numA 1)), .v (.agg (numA g)), .v (.agg (numA v)), .v (.agg (numA q)), .v (.tuple #[.agg (numA 0), .bool false]), .v (.tuple #[.agg (numA 0), .bool false]), .v (.agg (numA 0)), .v (.bool false), .mk (numA 0) (numA 0) 54 15, .o, .v (.bool false)] hK (by kernel_rfl) (by kernel_rfl) (by kernel_rfl) (by rfl) ?_ ?_
        · exact .c (.ld b6 (fun _ => .head _) Tryz.underlying54 rfl (numA_info _)) <| .c .p0 <| .c (.ca fun _ _ _ => fsub_at hyy.out (by decide) Hs.out _) <| .c (.ca fun _ _ _ => d_any _) <| .c (.ld b6 (fun _ => .head _) Tryz.underlying54 rfl (numA_info _)) <| .c (.ca fun _ _ _ => mul_at dd_R hyy.out He.out _) <| .c .p0 <| .c (.ca fun _ _ _ => fadd_at he.out (by decide) Hg.out _) <| .c (.ca fun _ _ _ => inv_at hg.out Hv.out _) <| .c (.ca fun _ _ _ => mul_at hs.out hv.out Hq.out _) <| .c (.ca fun _ _ _ => root_none hq.out (by rw [Hqu.out]; exact Hfr.out) _) <| .c (.p1 37 (.tuple #[.agg (numA 0), .bool false])) <| .c (.p1 26 (.tuple #[.agg (numA 0), .bool false])) <| .c (.p1 26 (.tuple #[.agg (numA 0), .bool false])) <| .c (.al hz) <| .c (.st 14 (numA_info _) (numA_one _)) <| .c (.p1 39 (.bool false)) .nil
        intro vs V8 hJ hf
        obtain ⟨g9, hgg9⟩ := hf 14 _ _ rfl rfl
        obtain ⟨le0, apg9, owng9⟩ := hJ.got 14 hgg9
        have le_g9 := show Hid _ from le0
        clear le0
        have ne_bR_g9 : Hid (bR ≠ g9) := apg9 (bR, PA ⟨0, 0, 0, 0⟩, 56) (.tail _ (.tail _ (.head _)))
        have hK : Kp [(g9, numA 0, 54), (b6, numA yy, 54), (b2, numA y, 54), (bR, PA ⟨0, 0, 0, 0⟩, 56)] w V8 := (hJ.1.cons owng9)
        simp only [putL, Lv.val, Nat.zero_add, Nat.reduceAdd, hgg9, Act.put, List.setIfInBounds_toArray, List.set_cons_succ, List.set_cons_zero]
        clear hJ hf hgg9 apg9 owng9
        go_upto_region 9 with fail
        go_wp2_with (refine wpList_store_own (by rfl) 56 (.tmp 2) (.tmp 50) (by rfl) bR 0 (PA ⟨0, 0, 0, 0⟩) (by rfl) (by rfl) (hK.at bR (PA ⟨0, 0, 0, 0⟩) 56 (.tail _ (.tail _ (.tail _ (.head _))))) (Nat.le_refl _) (PA_info _) (PA_one _) (by rfl) ?_)
        exact bodyPost_ret (results_own_tmp Tryz.results36 _ _ bR (PA ⟨0, 0, 0, 0⟩) _ (by rfl) (own_setCells (hK.at bR (PA ⟨0, 0, 0, 0⟩) 56 (.tail _ (.tail _ (.tail _ (.head _))))) (PA_sizes _ _)) Tryz.underlying56 rfl (PA_info _)) rfl ⟨by rw [Hdec.out]; rfl, Below.setCells _ _ _ _ le_bR.out hK.2⟩
      · have Hfr := show Hid _ from hfr
        clear hfr
        have hx : Hid (x < R256) := by show _ < _; exact Nat.lt_trans (froot_some Hfr.out).1 (by decide)
        refine wp_region_lv 62 (fun _ => [(b6, numA yy, 54), (b2, numA y, 54), (bR, PA ⟨0, 0, 0, 0⟩, 56)]) [.v (.agg (numA yy)), .v (.agg (numA 1)), .v (.agg (numA s)), .v (.agg (numA dd)), .v (.agg (numA yy)), .v (.agg (numA e)), .v (.agg (numA 1)), .v (.agg (numA g)), .v (.agg (numA v)), .v (.agg (numA q)), .v (.tuple #[.agg (numA x), .bool true]), .v (.tuple #[.agg (numA x), .bool true]), .v (.agg (numA x)), .v (.bool true), .mk (numA 0) (numA x) 54 15, .o, .v (.bool true)] hK (by kernel_rfl) (by kernel_rfl) (by kernel_rfl) (by rfl) ?_ ?_
        · exact .c (.ld b6 (fun _ => .head _) Tryz.underlying54 rfl (numA_info _)) <| .c .p0 <| .c (.ca fun _ _ _ => fsub_at hyy.out (by decide) Hs.out _) <| .c (.ca fun _ _ _ => d_any _) <| .c (.ld b6 (fun _ => .head _) Tryz.underlying54 rfl (numA_info _)) <| .c (.ca fun _ _ _ => mul_at dd_R hyy.out He.out _) <| .c .p0 <| .c (.ca fun _ _ _ => fadd_at he.out (by decide) Hg.out _) <| .c (.ca fun _ _ _ => inv_at hg.out Hv.out _) <| .c (.ca fun _ _ _ => mul_at hs.out hv.out Hq.out _) <| .c (.ca fun _ _ _ => root_some hq.out (by rw [Hqu.out]; exact Hfr.out) _) <| .c (.p1 37 (.tuple #[.agg (numA x), .bool true])) <| .c (.p1 26 (.tuple #[.agg (numA x), .bool true])) <| .c (.p1 26 (.tuple #[.agg (numA x), .bool true])) <| .c (.al hz) <| .c (.st 14 (numA_info _) (numA_one _)) <| .c (.p1 39 (.bool true)) .nil
        intro vs V8 hJ hf
        obtain ⟨g9, hgg9⟩ := hf 14 _ _ rfl rfl
        obtain ⟨le0, apg9, owng9⟩ := hJ.got 14 hgg9
        have le_g9 := show Hid _ from le0
        clear le0
        have ne_b6_g9 : Hid (b6 ≠ g9) := apg9 (b6, numA yy, 54) (.head _)
        have ne_b2_g9 : Hid (b2 ≠ g9) := apg9 (b2, numA y, 54) (.tail _ (.head _))
        have ne_bR_g9 : Hid (bR ≠ g9) := apg9 (bR, PA ⟨0, 0, 0, 0⟩, 56) (.tail _ (.tail _ (.head _)))
        have hK : Kp [(g9, numA x, 54), (b6, numA yy, 54), (b2, numA y, 54), (bR, PA ⟨0, 0, 0, 0⟩, 56)] w V8 := (hJ.1.cons owng9)
        simp only [putL, Lv.val, Nat.zero_add, Nat.reduceAdd, hgg9, Act.put, List.setIfInBounds_toArray, List.set_cons_succ, List.set_cons_zero]
        clear hJ hf hgg9 apg9 owng9
        obtain ⟨t, Ht⟩ : ∃ z, Hid (x * y % pp = z) := ⟨_, rfl⟩
        have Hdec : Hid (decV (dec a) = .tuple #[.agg (PA ⟨x, y, 1, t⟩), .bool true]) := by show _ = _; rw [dec_even' (by rw [Hy.out]; exact Hlt.out) (by rw [Hy.out]; exact Hfr.out) hodd.out, Hy.out, Ht.out]; rfl
        obtain ⟨bz, hbz⟩ : ∃ b : Bool, ∀ w, (Op.equalIn 10000 54 (.agg (numA x)) (.agg #[.int .u64 0, .int .u64 0, .int .u64 0, .int .u64 0])).run Tryz.prog w = .ok b w := ⟨_, fun w => num_eq x 0 hx.out (by decide) w⟩
        cases bz
        · go_upto_region 10 with (refine wpList_load_gd (by rfl) 54 (.tmp 7) (by rfl) g9 (by rfl) (numA x) _ (hK.at g9 (numA x) 54 (.head _)) Tryz.underlying54 (by rfl) (numA_info _) ?_)
          clear hbz
          go_upto_region 12 with fail
          have hK : Kp [(g9, numA x, 54), (b2, numA y, 54), (bR, PA ⟨0, 0, 0, 0⟩, 56)] w V8 := (((hK.none.cons (hK.at bR (PA ⟨0, 0, 0, 0⟩) 56 (.tail _ (.tail _ (.tail _ (.head _)))))).cons (hK.at b2 (numA y) 54 (.tail _ (.tail _ (.head _))))).cons (hK.at g9 (numA x) 54 (.head _)))
          refine wp_region_lv 62 (fun L => [(g9, numA x, 54), (b2, numA y, 54), (bR, if L 7 = true then PA ⟨x, y, 1, t⟩ else PA ⟨0, 0, 0, 0⟩, 56)]) [.v (.agg (numA x)), .v (.agg (numA y)), .v (.agg (numA 1)), .v (.agg (numA x)), .v (.agg (numA y)), .v (.agg (numA t)), .v (.agg (PA ⟨x, y, 1, t⟩)), .o, .v (.bool true)] hK (by kernel_rfl) (by kernel_rfl) (by kernel_rfl) (by rfl) ?_ ?_
          · exact .c (.ld g9 (fun _ => .head _) Tryz.underlying54 rfl (numA_info _)) <| .c (.ld b2 (fun _ => .tail _ (.head _)) Tryz.underlying54 rfl (numA_info _)) <| .c .p0 <| .c (.ld g9 (fun _ => .head _) Tryz.underlying54 rfl (numA_info _)) <| .c (.ld b2 (fun _ => .tail _ (.head _)) Tryz.underlying54 rfl (numA_info _)) <| .c (.ca fun _ _ _ => mul_at hx.out hy.out Ht.out _) <| .c (.x [(55, .agg (numA x)), (56, .agg (numA y)), (57, .agg (numA 1)), (60, .agg (numA t))] fun _ _ _ _ _ hfx hkx hx => wp_build_pt 55 56 57 60 (x) (y) (1) (t) rfl (hfx _ (.head _)) (hfx _ (.tail _ (.head _))) (hfx _ (.tail _ (.tail _ (.head _)))) (hfx _ (.tail _ (.tail _ (.tail _ (.head _))))) (hx _ _ rfl (Below.refl _ _))) <| .c (.sk bR (.nx (fun _ => rfl) (fun _ => rfl) (fun _ => Ne.symm ne_bR_g9.out) <| .nx (fun _ => rfl) (fun _ => rfl) (fun _ => Ne.symm ne_bR_b2.out) <| .hr (fun _ => rfl) (fun _ => rfl) (fun _ => fn)) le_bR.out (PA_info _) (PA_one _)) <| .c .p0 .nil
          intro _ V10 hJ _
          have hK : Kp [(g9, numA x, 54), (b2, numA y, 54), (bR, PA ⟨x, y, 1, t⟩, 56)] w V10 := hJ.1
          clear hJ
          simp only [putL, Lv.val, Act.put, List.setIfInBounds_toArray, List.set_cons_succ, List.set_cons_zero]
          go_wp2_with fail
          exact bodyPost_ret (results_own_tmp Tryz.results36 _ _ bR (PA ⟨x, y, 1, t⟩) _ (by rfl) (hK.at bR (PA ⟨x, y, 1, t⟩) 56 (.tail _ (.tail _ (.head _)))) Tryz.underlying56 rfl (PA_info _)) rfl ⟨by rw [Hdec.out]; rfl, hK.2⟩
        · go_upto_region 10 with (refine wpList_load_gd (by rfl) 54 (.tmp 7) (by rfl) g9 (by rfl) (numA x) _ (hK.at g9 (numA x) 54 (.head _)) Tryz.underlying54 (by rfl) (numA_info _) ?_)
          clear hbz
          go_upto_region 12 with fail
          have hK : Kp [(g9, numA x, 54), (b2, numA y, 54), (bR, PA ⟨0, 0, 0, 0⟩, 56)] w V8 := (((hK.none.cons (hK.at bR (PA ⟨0, 0, 0, 0⟩) 56 (.tail _ (.tail _ (.tail _ (.head _)))))).cons (hK.at b2 (numA y) 54 (.tail _ (.tail _ (.head _))))).cons (hK.at g9 (numA x) 54 (.head _)))
          refine wp_region_lv 62 (fun L => [(g9, numA x, 54), (b2, numA y, 54), (bR, if L 7 = true then PA ⟨x, y, 1, t⟩ else PA ⟨0, 0, 0, 0⟩, 56)]) [.v (.agg (numA x)), .v (.agg (numA y)), .v (.agg (numA 1)), .v (.agg (numA x)), .v (.agg (numA y)), .v (.agg (numA t)), .v (.agg (PA ⟨x, y, 1, t⟩)), .o, .v (.bool true)] hK (by kernel_rfl) (by kernel_rfl) (by kernel_rfl) (by rfl) ?_ ?_
          · exact .c (.ld g9 (fun _ => .head _) Tryz.underlying54 rfl (numA_info _)) <| .c (.ld b2 (fun _ => .tail _ (.head _)) Tryz.underlying54 rfl (numA_info _)) <| .c .p0 <| .c (.ld g9 (fun _ => .head _) Tryz.underlying54 rfl (numA_info _)) <| .c (.ld b2 (fun _ => .tail _ (.head _)) Tryz.underlying54 rfl (numA_info _)) <| .c (.ca fun _ _ _ => mul_at hx.out hy.out Ht.out _) <| .c (.x [(55, .agg (numA x)), (56, .agg (numA y)), (57, .agg (numA 1)), (60, .agg (numA t))] fun _ _ _ _ _ hfx hkx hx => wp_build_pt 55 56 57 60 (x) (y) (1) (t) rfl (hfx _ (.head _)) (hfx _ (.tail _ (.head _))) (hfx _ (.tail _ (.tail _ (.head _)))) (hfx _ (.tail _ (.tail _ (.tail _ (.head _))))) (hx _ _ rfl (Below.refl _ _))) <| .c (.sk bR (.nx (fun _ => rfl) (fun _ => rfl) (fun _ => Ne.symm ne_bR_g9.out) <| .nx (fun _ => rfl) (fun _ => rfl) (fun _ => Ne.symm ne_bR_b2.out) <| .hr (fun _ => rfl) (fun _ => rfl) (fun _ => fn)) le_bR.out (PA_info _) (PA_one _)) <| .c .p0 .nil
          intro _ V10 hJ _
          have hK : Kp [(g9, numA x, 54), (b2, numA y, 54), (bR, PA ⟨x, y, 1, t⟩, 56)] w V10 := hJ.1
          clear hJ
          simp only [putL, Lv.val, Act.put, List.setIfInBounds_toArray, List.set_cons_succ, List.set_cons_zero]
          go_wp2_with fail
          exact bodyPost_ret (results_own_tmp Tryz.results36 _ _ bR (PA ⟨x, y, 1, t⟩) _ (by rfl) (hK.at bR (PA ⟨x, y, 1, t⟩) 56 (.tail _ (.tail _ (.head _)))) Tryz.underlying56 rfl (PA_info _)) rfl ⟨by rw [Hdec.out]; rfl, hK.2⟩
    · have Hdec : Hid (decV (dec a) = .tuple #[.agg (PA ⟨0, 0, 0, 0⟩), .bool false]) := by show _ = _; rw [dec_big' (by rw [Hy.out]; exact hlt)]; rfl
      have Hlt := show Hid _ from hlt
      clear hlt
      refine wp_region_lv 62 (fun _ => [(b2, numA y, 54), (bR, PA ⟨0, 0, 0, 0⟩, 56)]) [.v (.agg (numA y)), .v (.agg (numA pp)), .v (.bool false), .v (.bool true)] hK (by kernel_rfl) (by kernel_rfl) (by kernel_rfl) (by rfl) ?_ ?_
      · exact .c (.ld b2 (fun _ => .head _) Tryz.underlying54 rfl (numA_info _)) <| .c (.ca fun _ _ _ => P_any _) <| .c (.ca fun _ _ _ => less_no hy.out Hlt.out _) <| .c (.p1 20 (.bool false)) .nil
      intro _ V4 hJ _
      have hK : Kp [(b2, numA y, 54), (bR, PA ⟨0, 0, 0, 0⟩, 56)] w V4 := hJ.1
      clear hJ
      simp only [putL, Lv.val, Act.put, List.setIfInBounds_toArray, List.set_cons_succ, List.set_cons_zero]
      go_upto_region 5 with fail
      go_wp2_with (refine wpList_store_own (by rfl) 56 (.tmp 2) (.tmp 22) (by rfl) bR 0 (PA ⟨0, 0, 0, 0⟩) (by rfl) (by rfl) (hK.at bR (PA ⟨0, 0, 0, 0⟩) 56 (.tail _ (.head _))) (Nat.le_refl _) (PA_info _) (PA_one _) (by rfl) ?_)
      exact bodyPost_ret (results_own_tmp Tryz.results36 _ _ bR (PA ⟨0, 0, 0, 0⟩) _ (by rfl) (own_setCells (hK.at bR (PA ⟨0, 0, 0, 0⟩) 56 (.tail _ (.head _))) (PA_sizes _ _)) Tryz.underlying56 rfl (PA_info _)) rfl ⟨by rw [Hdec.out]; rfl, Below.setCells _ _ _ _ le_bR.out hK.2⟩
end Go.Proofs.YtgibllaifnnfkaaGreatDoor
