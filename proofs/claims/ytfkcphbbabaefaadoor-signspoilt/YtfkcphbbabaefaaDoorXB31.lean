/- Of the texts V4: what the card of this claim reaches. -/
import Derived.Test.YtfkcphbbabaefaaDoorXB30
import Derived.Test.YtfkcphbbabaefaaDoorXB10
import Derived.Test.YtfkcphbbabaefaaDoorXB27
namespace Go.Proofs.YtfkcphbbabaefaaDoor
open Go Go.RowKit
theorem wpList_load_gd {P : Program} {ops : Array Oper} {rest : List Oper} {op : Oper} {a : Act} {w : World} {Q : Exit → Act → World → Prop} (hw : Region.wanted op (yielded ops a.tmps) = true) (ty : TypeId) (x : Operand) (ho : op.op = .load ty x)
    (b : Nat) (hx : a.eval x = .pointer (some ⟨b, 0, none⟩)) (A : Array Value) (d : TypeDesc) {t : TypeId} (hc : Own w b A t)
    (hu : P.underlying ty = some d) (hd : d.isRow = true) (hi : (P.info? ty).map (·.size) = some A.size)
    (h : wpList P ops Q rest (a.put op.dst (.agg A)) w) : wpList P ops Q (op :: rest) a w :=
  wpList_step fun K hK => by
    rw [if_pos hw]
    exact wp_load_own ty x ho b hx A d t hc hu hd hi (hK _ _ h)
noncomputable def dec (a : Nat) : Option N4 :=
  if a % HH < pp then
    match froot (usq (a % HH)) with
    | none => none
    | some x => if a / HH = 1 then (if x = 0 then none else some ⟨subp 0 x, a % HH, 1, subp 0 x * (a % HH) % pp⟩) else some ⟨x, a % HH, 1, x * (a % HH) % pp⟩
  else none
theorem dec_big' {a : Nat} (h : ¬ a % HH < pp) : dec a = none := by unfold dec; rw [if_neg h]
theorem dec_noroot' {a : Nat} (h : a % HH < pp) (hf : froot (usq (a % HH)) = none) : dec a = none := by unfold dec; rw [if_pos h, hf]
theorem dec_noside' {a : Nat} (h : a % HH < pp) (hf : froot (usq (a % HH)) = some 0) (ho : a / HH = 1) : dec a = none := by unfold dec; rw [if_pos h, hf]; simp [ho]
theorem dec_side' {a x : Nat} (h : a % HH < pp) (hf : froot (usq (a % HH)) = some x) (ho : a / HH = 1) (hx : x ≠ 0) : dec a = some ⟨subp 0 x, a % HH, 1, subp 0 x * (a % HH) % pp⟩ := by unfold dec; rw [if_pos h, hf]; simp [ho, hx]
theorem dec_even' {a x : Nat} (h : a % HH < pp) (hf : froot (usq (a % HH)) = some x) (ho : a / HH ≠ 1) : dec a = some ⟨x, a % HH, 1, x * (a % HH) % pp⟩ := by unfold dec; rw [if_pos h, hf]; simp [ho]
def decV : Option N4 → Value
  | some r => .tuple #[.agg (PA r), .bool true]
  | none => .tuple #[.agg (PA ⟨0, 0, 0, 0⟩), .bool false]
theorem less_yes {a b : Nat} (ha : a < R256) (h : a < b) (w : World) (hb : b < R256 := by decide) : Calls Tryd.prog 42 #[.agg (numA a), .agg (numA b)] w fun e w' => e = .returned (.bool true) ∧ Below w.heap.size w w' := by
  have := less_any a b ha hb w
  rwa [decide_eq_true h] at this
theorem less_no {a b : Nat} (ha : a < R256) (h : ¬ a < b) (w : World) (hb : b < R256 := by decide) : Calls Tryd.prog 42 #[.agg (numA a), .agg (numA b)] w fun e w' => e = .returned (.bool false) ∧ Below w.heap.size w w' := by
  have := less_any a b ha hb w
  rwa [decide_eq_false h] at this
theorem root_none {a : Nat} (ha : a < R256) (h : froot a = none) (w : World) : Calls Tryd.prog 46 #[.agg (numA a)] w fun e w' => e = .returned (.tuple #[.agg (numA 0), .bool false]) ∧ Below w.heap.size w w' := by
  have := root_any a ha w
  unfold rootV at this
  rwa [h] at this
theorem root_some {a x : Nat} (ha : a < R256) (h : froot a = some x) (w : World) : Calls Tryd.prog 46 #[.agg (numA a)] w fun e w' => e = .returned (.tuple #[.agg (numA x), .bool true]) ∧ Below w.heap.size w w' := by
  have := root_any a ha w
  unfold rootV at this
  rwa [h] at this
theorem eq_zero {x : Nat} (hx : x < R256) (h : x = 0) (w : World) : (Op.equalIn 10000 35 (.agg (numA x)) (.agg #[.int .u64 0, .int .u64 0, .int .u64 0, .int .u64 0])).run Tryd.prog w = .ok true w :=
  (num_eq x 0 hx (by decide) w).trans (by rw [decide_eq_true h])
theorem ne_zero {x : Nat} (hx : x < R256) (h : x ≠ 0) (w : World) : (Op.equalIn 10000 35 (.agg (numA x)) (.agg #[.int .u64 0, .int .u64 0, .int .u64 0, .int .u64 0])).run Tryd.prog w = .ok false w :=
  (num_eq x 0 hx (by decide) w).trans (by rw [decide_eq_false h])
def valDeL (y : Nat) : Nat → Value
  | 0 => .agg (numA y)
  | 1 => .agg (numA pp)
  | 2 => .bool true
  | 3 => .bool false
  | _ => undef
def valDeG (y : Nat) : Nat → Value
  | 0 => .agg (numA y)
  | 1 => .agg (numA pp)
  | 2 => .bool false
  | 3 => .bool true
  | _ => undef
def factDeN (yy s e g v q : Nat) : Nat → Value → Prop
  | 0, vq => vq = .agg (numA yy)
  | 1, vq => vq = .agg (numA 1)
  | 2, vq => vq = .agg (numA s)
  | 3, vq => vq = .agg (numA dd)
  | 4, vq => vq = .agg (numA yy)
  | 5, vq => vq = .agg (numA e)
  | 6, vq => vq = .agg (numA 1)
  | 7, vq => vq = .agg (numA g)
  | 8, vq => vq = .agg (numA v)
  | 9, vq => vq = .agg (numA q)
  | 10, vq => vq = .tuple #[.agg (numA 0), .bool false]
  | 11, vq => vq = .tuple #[.agg (numA 0), .bool false]
  | 12, vq => vq = .agg (numA 0)
  | 13, vq => vq = .bool false
  | 16, vq => vq = .bool false
  | 14, vq => ∃ g, vq = .pointer (some ⟨g, 0, none⟩)
  | _, _ => True
def factDeS (yy s e g v q x : Nat) : Nat → Value → Prop
  | 0, vq => vq = .agg (numA yy)
  | 1, vq => vq = .agg (numA 1)
  | 2, vq => vq = .agg (numA s)
  | 3, vq => vq = .agg (numA dd)
  | 4, vq => vq = .agg (numA yy)
  | 5, vq => vq = .agg (numA e)
  | 6, vq => vq = .agg (numA 1)
  | 7, vq => vq = .agg (numA g)
  | 8, vq => vq = .agg (numA v)
  | 9, vq => vq = .agg (numA q)
  | 10, vq => vq = .tuple #[.agg (numA x), .bool true]
  | 11, vq => vq = .tuple #[.agg (numA x), .bool true]
  | 12, vq => vq = .agg (numA x)
  | 13, vq => vq = .bool true
  | 16, vq => vq = .bool true
  | 14, vq => ∃ g, vq = .pointer (some ⟨g, 0, none⟩)
  | _, _ => True
def valDexs (xs y t : Nat) : Nat → Value
  | 0 => .agg (numA xs)
  | 1 => .agg (numA y)
  | 2 => .agg (numA 1)
  | 3 => .agg (numA xs)
  | 4 => .agg (numA y)
  | 5 => .agg (numA t)
  | 6 => .agg (PA ⟨xs, y, 1, t⟩)
  | 8 => .bool true
  | _ => undef
def valDex (x y t : Nat) : Nat → Value
  | 0 => .agg (numA x)
  | 1 => .agg (numA y)
  | 2 => .agg (numA 1)
  | 3 => .agg (numA x)
  | 4 => .agg (numA y)
  | 5 => .agg (numA t)
  | 6 => .agg (PA ⟨x, y, 1, t⟩)
  | 8 => .bool true
  | _ => undef
set_option maxRecDepth 100000 in
set_option maxHeartbeats 3000000 in
theorem decode_any (a : Nat) (ha : Hid (a < R256)) (w : World) : Calls Tryd.prog 24 #[.agg (B32 (bdig a))] w fun e w' => e = .returned (decV (dec a)) ∧ Below w.heap.size w w' := by
  have hz := (zero_of_info zeroLit).1
  have hzP := (zero_of_info zeroPA).1
  obtain ⟨y, Hy⟩ : ∃ y, Hid (a % HH = y) := ⟨_, rfl⟩
  have hy : Hid (y < R256) := by show _ < _; rw [← Hy.out]; exact Nat.lt_of_le_of_lt (Nat.mod_le _ _) ha.out
  obtain ⟨yy, Hyy⟩ : ∃ z, Hid (y * y % pp = z) := ⟨_, rfl⟩
  have hyy : Hid (yy < R256) := by show _ < _; rw [← Hyy.out]; exact lt_of_mod
  obtain ⟨s, Hs⟩ : ∃ z, Hid (subp yy 1 = z) := ⟨_, rfl⟩
  have hs : Hid (s < R256) := by show _ < _; rw [← Hs.out]; exact subp_lt _ _
  obtain ⟨e, He⟩ : ∃ z, Hid (dd * yy % pp = z) := ⟨_, rfl⟩
  have he : Hid (e < R256) := by show _ < _; rw [← He.out]; exact lt_of_mod
  obtain ⟨g, Hg⟩ : ∃ z, Hid ((e + 1) % pp = z) := ⟨_, rfl⟩
  have hg : Hid (g < R256) := by show _ < _; rw [← Hg.out]; exact lt_of_mod
  obtain ⟨v, Hv⟩ : ∃ z, Hid (finv g = z) := ⟨_, rfl⟩
  have hv : Hid (v < R256) := by show _ < _; rw [← Hv.out]; exact finv_R _
  obtain ⟨q, Hq⟩ : ∃ z, Hid (s * v % pp = z) := ⟨_, rfl⟩
  have hq : Hid (q < R256) := by show _ < _; rw [← Hq.out]; exact lt_of_mod
  have Hqu : Hid (q = usq y) := by show _ = _; rw [← Hq.out, ← Hs.out, ← Hv.out, ← Hg.out, ← He.out, ← Hyy.out]; rfl
  by_cases hod : a / HH = 1
  · have hodd : Hid (a / HH = 1) := hod
    have hge : (128 : Int) ≤ (bdig a 31 : Int) := by have := (top_odd ha.out).2 hod; omega
    clear hod
    go_enter Tryd.func24, Tryd.ntmps24
    go_upto_region 1 with fail
    have hK := ((Kp.nil w).alloc (B32 (bdig a)) 22).alloc (PA ⟨0, 0, 0, 0⟩) 47
    rw [World.size_alloc] at hK
    generalize (w.alloc (.cells (B32 (bdig a)) 22)).alloc (.cells (PA ⟨0, 0, 0, 0⟩) 47) = W at *
    obtain ⟨bB, HbB⟩ : ∃ b, Hid (w.heap.size = b) := ⟨_, rfl⟩
    obtain ⟨bR, HbR⟩ : ∃ b, Hid (bB + 1 = b) := ⟨_, rfl⟩
    have le_bB : Hid (w.heap.size ≤ bB) := by show _ ≤ _; have := HbB.out; omega
    have le_bR : Hid (w.heap.size ≤ bR) := by show _ ≤ _; have := HbB.out; have := HbR.out; omega
    have ne_bB_bR : Hid (bB ≠ bR) := by show _ ≠ _; have := HbR.out; omega
    rw [HbB.out, HbR.out] at hK ⊢
    have cB := (hK.at bB (B32 (bdig a)) 22 (.tail _ (.head _))).cell (B32_at (bdig a) 31 (by decide))
    have fB := (hK.at bB (B32 (bdig a)) 22 (.tail _ (.head _))).frozen 31
    have hand := and_top a
    obtain ⟨u, Hu⟩ : ∃ u, Hid (bdig a 31 % 128 = u) := ⟨_, rfl⟩
    rw [Hu.out] at hand
    have hK : Kp [(bB, B32 (bdig a), 22), (bR, PA ⟨0, 0, 0, 0⟩, 47)] w W := ((hK.none.cons (hK.at bR (PA ⟨0, 0, 0, 0⟩) 47 (.head _))).cons (hK.at bB (B32 (bdig a)) 22 (.tail _ (.head _))))
    have hK := Kp.setCell (i := 31) (v := .int .u8 (u : Int)) hK (by simp only [List.forall_mem_cons, List.not_mem_nil, false_implies, implies_true, and_true]; exact (Ne.symm ne_bB_bR.out)) le_bB.out
    rw [B32_set _ 31 _ (by decide), ← Hu.out, B32_low ha.out, Hy.out, Hu.out] at hK
    generalize bdig a 31 = d31 at *
    go_upto_region 3 with fail
    generalize W.setCell ⟨bB, 31, none⟩ (.int .u8 (u : Int)) = V0 at *
    clear cB fB hand hge
    go_wp2_with (refine wpList_load_own (by rfl) 22 (.tmp 1) (by rfl) bB (by rfl) (B32 (bdig y)) _ (hK.at bB (B32 (bdig y)) 22 (.head _)) Tryd.underlying22 (by rfl) (B32_info _) ?_)
    refine (of_any y hy.out _).mono ?_
    rintro e V1 ⟨rfl, bw⟩
    have hK := hK.below bw
    clear bw
    go_upto_region 4 with (refine wpList_store_new (by rfl) 35 (.tmp 5) (.tmp 17) (by rfl) _ (numA y) (by rfl) (by rfl) (numA_info _) (lit4_size _ _ _ _ _) (numA_one _) (by rfl) ?_)
    have lt_bB := (hK.at bB (B32 (bdig y)) 22 (.head _)).lt
    have lt_bR := (hK.at bR (PA ⟨0, 0, 0, 0⟩) 47 (.tail _ (.head _))).lt
    have le_b2 := show Hid _ from hK.2.size
    have hK := hK.alloc (numA y) 35
    generalize V1.alloc (.cells (numA y) 35) = V3 at *
    obtain ⟨b2, Hb2⟩ : ∃ b, Hid (V1.heap.size = b) := ⟨_, rfl⟩
    have ne_bB_b2 : Hid (bB ≠ b2) := by show _ ≠ _; rw [← Hb2.out]; exact Nat.ne_of_lt lt_bB
    have ne_bR_b2 : Hid (bR ≠ b2) := by show _ ≠ _; rw [← Hb2.out]; exact Nat.ne_of_lt lt_bR
    have le_b2 : Hid (w.heap.size ≤ b2) := by show _ ≤ _; rw [← Hb2.out]; exact le_b2.out
    rw [Hb2.out] at hK ⊢
    clear lt_bB lt_bR
    have hK : Kp [(b2, numA y, 35), (bR, PA ⟨0, 0, 0, 0⟩, 47)] w V3 := ((hK.none.cons (hK.at bR (PA ⟨0, 0, 0, 0⟩) 47 (.tail _ (.tail _ (.head _))))).cons (hK.at b2 (numA y) 35 (.head _)))
    by_cases hlt : y < pp
    · have Hlt := show Hid _ from hlt
      clear hlt
      refine wp_region_vals 62 (by kernel_rfl) (by kernel_rfl) (by rfl) (valDeL y) (fun _ => Kp [(b2, numA y, 35), (bR, PA ⟨0, 0, 0, 0⟩, 47)] w) hK.drew ?_ ?_
      · intro L ac wc i o hF hLi ho hd K hK
        rcases i with _ | _ | _ | _ | i
        · have ho' := ho
          obtain rfl := Option.some.inj ho
          have f5 : ac.tmps.getD 5 undef = .pointer (some ⟨b2, 0, none⟩) := slotv hF 0 hLi 5 (by kernel_rfl)
          refine step_do ho' (wanted_free rfl) ?_
          exact wp_load_own 35 (.tmp 5) rfl b2 f5 (numA y) _ 35 (hF.j.at b2 (numA y) 35 (.head _)) Tryd.underlying35 rfl (numA_info _) (hK _ _ (.inr rfl) hF.j)
        · have ho' := ho
          obtain rfl := Option.some.inj ho
          refine step_do ho' (wanted_free rfl) ?_
          unfold Oper.wp
          go_simp
          refine (P_any _).mono ?_
          rintro e w' ⟨rfl, hB⟩
          exact hK _ _ (.inr rfl) (hF.j.below hB)
        · have ho' := ho
          obtain rfl := Option.some.inj ho
          have f18 : ac.tmps.getD 18 undef = .agg (numA y) := valv hF hd 0 rfl rfl (by kernel_rfl)
          have f19 : ac.tmps.getD 19 undef = .agg (numA pp) := valv hF hd 1 rfl rfl (by kernel_rfl)
          refine step_do ho' (wanted_free rfl) ?_
          unfold Oper.wp
          go_simp
          refine (less_yes hy.out Hlt.out _).mono ?_
          rintro e w' ⟨rfl, hB⟩
          exact hK _ _ (.inr rfl) (hF.j.below hB)
        · have ho' := ho
          obtain rfl := Option.some.inj ho
          have f20 : ac.tmps.getD 20 undef = .bool true := valv hF hd 2 rfl rfl (by kernel_rfl)
          refine step_do ho' (wanted_free rfl) ?_
          unfold Oper.wp
          go_simp
          exact hK _ _ (.inr rfl) hF.j
        · cases ho
      intro L V4 hL hKq
      have hK : Kp [(b2, numA y, 35), (bR, PA ⟨0, 0, 0, 0⟩, 47)] w V4 := hKq
      clear hKq hL
      simp only [putAll, valDeL, Act.put, List.setIfInBounds_toArray, List.set_cons_succ, List.set_cons_zero]
      go_upto_region 6 with fail
      go_wp2_with (first
        | refine wpList_load_own (by rfl) 35 (.tmp 5) (by rfl) b2 (by rfl) (numA y) _ (hK.at b2 (numA y) 35 (.head _)) Tryd.underlying35 (by rfl) (numA_info _) ?_
        | refine wpList_load_own (by rfl) 35 (.tmp 5) (by rfl) b2 (by rfl) (numA y) _ (hK.at b2 (numA y) 35 (.head _)) Tryd.underlying35 (by rfl) (numA_info _) ?_)
      refine (mul_at hy.out hy.out Hyy.out _).mono ?_
      rintro e V5 ⟨rfl, bw⟩
      have hK := hK.below bw
      clear bw
      go_upto_region 7 with (refine wpList_store_new (by rfl) 35 (.tmp 6) (.tmp 25) (by rfl) _ (numA yy) (by rfl) (by rfl) (numA_info _) (lit4_size _ _ _ _ _) (numA_one _) (by rfl) ?_)
      have lt_b2 := (hK.at b2 (numA y) 35 (.head _)).lt
      have lt_bR := (hK.at bR (PA ⟨0, 0, 0, 0⟩) 47 (.tail _ (.head _))).lt
      have le_b6 := show Hid _ from hK.2.size
      have hK := hK.alloc (numA yy) 35
      generalize V5.alloc (.cells (numA yy) 35) = V7 at *
      obtain ⟨b6, Hb6⟩ : ∃ b, Hid (V5.heap.size = b) := ⟨_, rfl⟩
      have ne_b2_b6 : Hid (b2 ≠ b6) := by show _ ≠ _; rw [← Hb6.out]; exact Nat.ne_of_lt lt_b2
      have ne_bR_b6 : Hid (bR ≠ b6) := by show _ ≠ _; rw [← Hb6.out]; exact Nat.ne_of_lt lt_bR
      have le_b6 : Hid (w.heap.size ≤ b6) := by show _ ≤ _; rw [← Hb6.out]; exact le_b6.out
      rw [Hb6.out] at hK ⊢
      clear lt_b2 lt_bR
      rcases hfr : froot (usq y) with _ | x
      · have Hfr := show Hid _ from hfr
        clear hfr
        have Hdec : Hid (decV (dec a) = .tuple #[.agg (PA ⟨0, 0, 0, 0⟩), .bool false]) := by show _ = _; rw [dec_noroot' (by rw [Hy.out]; exact Hlt.out) (by rw [Hy.out]; exact Hfr.out)]; rfl
        refine wp_region_told 62 (by kernel_rfl) (by kernel_rfl) (by rfl) (factDeN yy s e g v q) (fun L vs => MkN 1 [(b6, numA yy, 35), (b2, numA y, 35), (bR, PA ⟨0, 0, 0, 0⟩, 47)] w (fun _ => numA 0) (fun _ => numA 0) (fun _ => 35) (fun i => L (14 + i)) (fun i => L (15 + i)) (fun i => vs (14 + i))) (fun _ => MkN.drew hK (fun _ _ => rfl)) ?_ ?_
        · intro L vs ac wc i o hF hLi ho hd K hK
          rcases i with _ | _ | _ | _ | _ | _ | _ | _ | _ | _ | _ | _ | _ | _ | _ | _ | _ | i
          · have ho' := ho
            obtain rfl := Option.some.inj ho
            have f6 : ac.tmps.getD 6 undef = .pointer (some ⟨b6, 0, none⟩) := slott hF 0 hLi 6 (by kernel_rfl)
            refine step_do ho' (wanted_free rfl) ?_
            exact wp_load_own 35 (.tmp 6) rfl b6 f6 (numA yy) _ 35 (hF.j.1.at b6 (numA yy) 35 (.head _)) Tryd.underlying35 rfl (numA_info _) (hK _ _ (.inr rfl) (hF.j.congr (fun i hi => if_off (by decide) hi) (fun i hi => if_off (by decide) hi) (fun i hi => if_off (by decide) hi)))
          · have ho' := ho
            obtain rfl := Option.some.inj ho
            refine step_do ho' (wanted_free rfl) ?_
            unfold Oper.wp
            go_simp
            exact hK _ _ (.inr (by show _ = Value.agg (numA 1); rw [numA_word 1 (by decide)]; rfl)) (hF.j.congr (fun i hi => if_off (by decide) hi) (fun i hi => if_off (by decide) hi) (fun i hi => if_off (by decide) hi))
          · have ho' := ho
            obtain rfl := Option.some.inj ho
            have f27 : ac.tmps.getD 27 undef = .agg (numA yy) := (factt hF hd 0 rfl rfl (by kernel_rfl)).1.trans (factt hF hd 0 rfl rfl (by kernel_rfl)).2
            have f28 : ac.tmps.getD 28 undef = .agg (numA 1) := (factt hF hd 1 rfl rfl (by kernel_rfl)).1.trans (factt hF hd 1 rfl rfl (by kernel_rfl)).2
            refine step_do ho' (wanted_free rfl) ?_
            unfold Oper.wp
            go_simp
            refine (fsub_at hyy.out (by decide) Hs.out _).mono ?_
            rintro e w' ⟨rfl, hB⟩
            exact hK _ _ (.inr rfl) ((hF.j.congr (fun i hi => if_off (by decide) hi) (fun i hi => if_off (by decide) hi) (fun i hi => if_off (by decide) hi)).below hB)
          · have ho' := ho
            obtain rfl := Option.some.inj ho
            refine step_do ho' (wanted_free rfl) ?_
            unfold Oper.wp
            go_simp
            refine (d_any _).mono ?_
            rintro e w' ⟨rfl, hB⟩
            exact hK _ _ (.inr rfl) ((hF.j.congr (fun i hi => if_off (by decide) hi) (fun i hi => if_off (by decide) hi) (fun i hi => if_off (by decide) hi)).below hB)
          · have ho' := ho
            obtain rfl := Option.some.inj ho
            have f6 : ac.tmps.getD 6 undef = .pointer (some ⟨b6, 0, none⟩) := slott hF 4 hLi 6 (by kernel_rfl)
            refine step_do ho' (wanted_free rfl) ?_
            exact wp_load_own 35 (.tmp 6) rfl b6 f6 (numA yy) _ 35 (hF.j.1.at b6 (numA yy) 35 (.head _)) Tryd.underlying35 rfl (numA_info _) (hK _ _ (.inr rfl) (hF.j.congr (fun i hi => if_off (by decide) hi) (fun i hi => if_off (by decide) hi) (fun i hi => if_off (by decide) hi)))
          · have ho' := ho
            obtain rfl := Option.some.inj ho
            have f30 : ac.tmps.getD 30 undef = .agg (numA dd) := (factt hF hd 3 rfl rfl (by kernel_rfl)).1.trans (factt hF hd 3 rfl rfl (by kernel_rfl)).2
            have f31 : ac.tmps.getD 31 undef = .agg (numA yy) := (factt hF hd 4 rfl rfl (by kernel_rfl)).1.trans (factt hF hd 4 rfl rfl (by kernel_rfl)).2
            refine step_do ho' (wanted_free rfl) ?_
            unfold Oper.wp
            go_simp
            refine (mul_at dd_R hyy.out He.out _).mono ?_
            rintro e w' ⟨rfl, hB⟩
            exact hK _ _ (.inr rfl) ((hF.j.congr (fun i hi => if_off (by decide) hi) (fun i hi => if_off (by decide) hi) (fun i hi => if_off (by decide) hi)).below hB)
          · have ho' := ho
            obtain rfl := Option.some.inj ho
            refine step_do ho' (wanted_free rfl) ?_
            unfold Oper.wp
            go_simp
            exact hK _ _ (.inr (by show _ = Value.agg (numA 1); rw [numA_word 1 (by decide)]; rfl)) (hF.j.congr (fun i hi => if_off (by decide) hi) (fun i hi => if_off (by decide) hi) (fun i hi => if_off (by decide) hi))
          · have ho' := ho
            obtain rfl := Option.some.inj ho
            have f32 : ac.tmps.getD 32 undef = .agg (numA e) := (factt hF hd 5 rfl rfl (by kernel_rfl)).1.trans (factt hF hd 5 rfl rfl (by kernel_rfl)).2
            have f33 : ac.tmps.getD 33 undef = .agg (numA 1) := (factt hF hd 6 rfl rfl (by kernel_rfl)).1.trans (factt hF hd 6 rfl rfl (by kernel_rfl)).2
            refine step_do ho' (wanted_free rfl) ?_
            unfold Oper.wp
            go_simp
            refine (fadd_at he.out (by decide) Hg.out _).mono ?_
            rintro e w' ⟨rfl, hB⟩
            exact hK _ _ (.inr rfl) ((hF.j.congr (fun i hi => if_off (by decide) hi) (fun i hi => if_off (by decide) hi) (fun i hi => if_off (by decide) hi)).below hB)
          · have ho' := ho
            obtain rfl := Option.some.inj ho
            have f34 : ac.tmps.getD 34 undef = .agg (numA g) := (factt hF hd 7 rfl rfl (by kernel_rfl)).1.trans (factt hF hd 7 rfl rfl (by kernel_rfl)).2
            refine step_do ho' (wanted_free rfl) ?_
            unfold Oper.wp
            go_simp
            refine (inv_at hg.out Hv.out _).mono ?_
            rintro e w' ⟨rfl, hB⟩
            exact hK _ _ (.inr rfl) ((hF.j.congr (fun i hi => if_off (by decide) hi) (fun i hi => if_off (by decide) hi) (fun i hi => if_off (by decide) hi)).below hB)
          · have ho' := ho
            obtain rfl := Option.some.inj ho
            have f29 : ac.tmps.getD 29 undef = .agg (numA s) := (factt hF hd 2 rfl rfl (by kernel_rfl)).1.trans (factt hF hd 2 rfl rfl (by kernel_rfl)).2
            have f35 : ac.tmps.getD 35 undef = .agg (numA v) := (factt hF hd 8 rfl rfl (by kernel_rfl)).1.trans (factt hF hd 8 rfl rfl (by kernel_rfl)).2
            refine step_do ho' (wanted_free rfl) ?_
            unfold Oper.wp
            go_simp
            refine (mul_at hs.out hv.out Hq.out _).mono ?_
            rintro e w' ⟨rfl, hB⟩
            exact hK _ _ (.inr rfl) ((hF.j.congr (fun i hi => if_off (by decide) hi) (fun i hi => if_off (by decide) hi) (fun i hi => if_off (by decide) hi)).below hB)
          · have ho' := ho
            obtain rfl := Option.some.inj ho
            have f36 : ac.tmps.getD 36 undef = .agg (numA q) := (factt hF hd 9 rfl rfl (by kernel_rfl)).1.trans (factt hF hd 9 rfl rfl (by kernel_rfl)).2
            refine step_do ho' (wanted_free rfl) ?_
            unfold Oper.wp
            go_simp
            refine (root_none hq.out (by rw [Hqu.out]; exact Hfr.out) _).mono ?_
            rintro e w' ⟨rfl, hB⟩
            exact hK _ _ (.inr rfl) ((hF.j.congr (fun i hi => if_off (by decide) hi) (fun i hi => if_off (by decide) hi) (fun i hi => if_off (by decide) hi)).below hB)
          · have ho' := ho
            obtain rfl := Option.some.inj ho
            have f37 : ac.tmps.getD 37 undef = .tuple #[.agg (numA 0), .bool false] := (factt hF hd 10 rfl rfl (by kernel_rfl)).1.trans (factt hF hd 10 rfl rfl (by kernel_rfl)).2
            refine step_do ho' (wanted_free rfl) ?_
            unfold Oper.wp
            go_simp
            exact hK _ _ (.inr rfl) (hF.j.congr (fun i hi => if_off (by decide) hi) (fun i hi => if_off (by decide) hi) (fun i hi => if_off (by decide) hi))
          · have ho' := ho
            obtain rfl := Option.some.inj ho
            have f26 : ac.tmps.getD 26 undef = .tuple #[.agg (numA 0), .bool false] := (factt hF hd 11 rfl rfl (by kernel_rfl)).1.trans (factt hF hd 11 rfl rfl (by kernel_rfl)).2
            refine step_do ho' (wanted_free rfl) ?_
            unfold Oper.wp
            go_simp
            exact hK _ _ (.inr rfl) (hF.j.congr (fun i hi => if_off (by decide) hi) (fun i hi => if_off (by decide) hi) (fun i hi => if_off (by decide) hi))
          · have ho' := ho
            obtain rfl := Option.some.inj ho
            have f26 : ac.tmps.getD 26 undef = .tuple #[.agg (numA 0), .bool false] := (factt hF hd 11 rfl rfl (by kernel_rfl)).1.trans (factt hF hd 11 rfl rfl (by kernel_rfl)).2
            refine step_do ho' (wanted_free rfl) ?_
            unfold Oper.wp
            go_simp
            exact hK _ _ (.inr rfl) (hF.j.congr (fun i hi => if_off (by decide) hi) (fun i hi => if_off (by decide) hi) (fun i hi => if_off (by decide) hi))
          · have ho' := ho
            obtain rfl := Option.some.inj ho
            refine step_do ho' (wanted_free rfl) ?_
            have hs := notyett hF 14 hLi 15 rfl (by kernel_rfl)
            unfold Oper.wp
            go_simp
            rw [show (#[.int .u64 0, .int .u64 0, .int .u64 0, .int .u64 0] : Array Value) = numA 0 from rfl]
            exact hK _ _ (.inr ⟨_, rfl⟩) (hF.j.alloc 0 (fun i _ hne => if_oth (k := 0) rfl hne) (fun i hi => if_off (by decide) hi) (fun i _ hne => if_oth (k := 0) rfl hne) rfl hs)
          · have ho' := ho
            obtain rfl := Option.some.inj ho
            have f38 : ac.tmps.getD 38 undef = .agg (numA 0) := (factt hF hd 12 rfl rfl (by kernel_rfl)).1.trans (factt hF hd 12 rfl rfl (by kernel_rfl)).2
            refine step_do ho' (wanted_free rfl) ?_
            obtain ⟨fg, gq, hg⟩ := factt hF hd 14 rfl rfl (by kernel_rfl)
            have hm := dep hd 14 (by kernel_rfl)
            have hj := hF.j
            rw [hg] at fg
            have hj2 := hj.at (k := 0) (by decide) hm hg hLi
            refine wp_store_own 35 (.tmp 7) (.tmp 38) rfl gq (numA 0) fg f38 hj2.2.2 (numA_sizes _ _) (numA_info _) (numA_one _) rfl ?_
            exact hK undef _ (.inl rfl) (hj.store (k := 0) (by decide) hm hg hLi (numA_sizes _ _) (fun i hi => if_off (by decide) hi) (fun i _ hne => if_oth (k := 0) rfl hne) (fun i hi => if_off (by decide) hi) rfl)
          · have ho' := ho
            obtain rfl := Option.some.inj ho
            have f39 : ac.tmps.getD 39 undef = .bool false := (factt hF hd 13 rfl rfl (by kernel_rfl)).1.trans (factt hF hd 13 rfl rfl (by kernel_rfl)).2
            refine step_do ho' (wanted_free rfl) ?_
            unfold Oper.wp
            go_simp
            exact hK _ _ (.inr rfl) (hF.j.congr (fun i hi => if_off (by decide) hi) (fun i hi => if_off (by decide) hi) (fun i hi => if_off (by decide) hi))
          · cases ho
        intro L vs V8 hL hJ hf
        obtain ⟨g9, hgg9⟩ := hf 14 _ _ rfl rfl
        obtain ⟨le0, apg9, owng9⟩ := hJ.got (k := 0) (by decide) (hL 14 (by decide)) hgg9 (hL 15 (by decide))
        have le_g9 := show Hid _ from le0
        clear le0
        have ne_bR_g9 : Hid (bR ≠ g9) := apg9 (bR, PA ⟨0, 0, 0, 0⟩, 47) (.tail _ (.tail _ (.head _)))
        have hK : Kp [(g9, numA 0, 35), (b6, numA yy, 35), (b2, numA y, 35), (bR, PA ⟨0, 0, 0, 0⟩, 47)] w V8 := (hJ.1.cons owng9)
        have e0 : vs 0 = _ := hf 0 _ _ rfl rfl
        have e1 : vs 1 = _ := hf 1 _ _ rfl rfl
        have e2 : vs 2 = _ := hf 2 _ _ rfl rfl
        have e3 : vs 3 = _ := hf 3 _ _ rfl rfl
        have e4 : vs 4 = _ := hf 4 _ _ rfl rfl
        have e5 : vs 5 = _ := hf 5 _ _ rfl rfl
        have e6 : vs 6 = _ := hf 6 _ _ rfl rfl
        have e7 : vs 7 = _ := hf 7 _ _ rfl rfl
        have e8 : vs 8 = _ := hf 8 _ _ rfl rfl
        have e9 : vs 9 = _ := hf 9 _ _ rfl rfl
        have e10 : vs 10 = _ := hf 10 _ _ rfl rfl
        have e11 : vs 11 = _ := hf 11 _ _ rfl rfl
        have e12 : vs 12 = _ := hf 12 _ _ rfl rfl
        have e13 : vs 13 = _ := hf 13 _ _ rfl rfl
        have e16 : vs 16 = _ := hf 16 _ _ rfl rfl
        simp only [putAll, Nat.zero_add, Nat.reduceAdd, e0, e1, e2, e3, e4, e5, e6, e7, e8, e9, e10, e11, e12, e13, e16, hgg9, Act.put, List.setIfInBounds_toArray, List.set_cons_succ, List.set_cons_zero]
        clear hJ hf hL e0 e1 e2 e3 e4 e5 e6 e7 e8 e9 e10 e11 e12 e13 e16 hgg9 apg9 owng9
        go_upto_region 9 with fail
        go_wp2_with (refine wpList_store_own (by rfl) 47 (.tmp 2) (.tmp 50) (by rfl) bR 0 (PA ⟨0, 0, 0, 0⟩) (by rfl) (by rfl) (hK.at bR (PA ⟨0, 0, 0, 0⟩) 47 (.tail _ (.tail _ (.tail _ (.head _))))) (Nat.le_refl _) (PA_info _) (PA_one _) (by rfl) ?_)
        exact bodyPost_ret (results_own_tmp Tryd.results24 _ _ bR (PA ⟨0, 0, 0, 0⟩) _ (by rfl) (own_setCells (hK.at bR (PA ⟨0, 0, 0, 0⟩) 47 (.tail _ (.tail _ (.tail _ (.head _))))) (PA_sizes _ _)) Tryd.underlying47 rfl (PA_info _)) rfl ⟨by rw [Hdec.out]; rfl, Below.setCells _ _ _ _ le_bR.out hK.2⟩
      · have Hfr := show Hid _ from hfr
        clear hfr
        have hx : Hid (x < R256) := by show _ < _; exact Nat.lt_trans (froot_some Hfr.out).1 (by decide)
        refine wp_region_told 62 (by kernel_rfl) (by kernel_rfl) (by rfl) (factDeS yy s e g v q x) (fun L vs => MkN 1 [(b6, numA yy, 35), (b2, numA y, 35), (bR, PA ⟨0, 0, 0, 0⟩, 47)] w (fun _ => numA 0) (fun _ => numA x) (fun _ => 35) (fun i => L (14 + i)) (fun i => L (15 + i)) (fun i => vs (14 + i))) (fun _ => MkN.drew hK (fun _ _ => rfl)) ?_ ?_
        · intro L vs ac wc i o hF hLi ho hd K hK
          rcases i with _ | _ | _ | _ | _ | _ | _ | _ | _ | _ | _ | _ | _ | _ | _ | _ | _ | i
          · have ho' := ho
            obtain rfl := Option.some.inj ho
            have f6 : ac.tmps.getD 6 undef = .pointer (some ⟨b6, 0, none⟩) := slott hF 0 hLi 6 (by kernel_rfl)
            refine step_do ho' (wanted_free rfl) ?_
            exact wp_load_own 35 (.tmp 6) rfl b6 f6 (numA yy) _ 35 (hF.j.1.at b6 (numA yy) 35 (.head _)) Tryd.underlying35 rfl (numA_info _) (hK _ _ (.inr rfl) (hF.j.congr (fun i hi => if_off (by decide) hi) (fun i hi => if_off (by decide) hi) (fun i hi => if_off (by decide) hi)))
          · have ho' := ho
            obtain rfl := Option.some.inj ho
            refine step_do ho' (wanted_free rfl) ?_
            unfold Oper.wp
            go_simp
            exact hK _ _ (.inr (by show _ = Value.agg (numA 1); rw [numA_word 1 (by decide)]; rfl)) (hF.j.congr (fun i hi => if_off (by decide) hi) (fun i hi => if_off (by decide) hi) (fun i hi => if_off (by decide) hi))
          · have ho' := ho
            obtain rfl := Option.some.inj ho
            have f27 : ac.tmps.getD 27 undef = .agg (numA yy) := (factt hF hd 0 rfl rfl (by kernel_rfl)).1.trans (factt hF hd 0 rfl rfl (by kernel_rfl)).2
            have f28 : ac.tmps.getD 28 undef = .agg (numA 1) := (factt hF hd 1 rfl rfl (by kernel_rfl)).1.trans (factt hF hd 1 rfl rfl (by kernel_rfl)).2
            refine step_do ho' (wanted_free rfl) ?_
            unfold Oper.wp
            go_simp
            refine (fsub_at hyy.out (by decide) Hs.out _).mono ?_
            rintro e w' ⟨rfl, hB⟩
            exact hK _ _ (.inr rfl) ((hF.j.congr (fun i hi => if_off (by decide) hi) (fun i hi => if_off (by decide) hi) (fun i hi => if_off (by decide) hi)).below hB)
          · have ho' := ho
            obtain rfl := Option.some.inj ho
            refine step_do ho' (wanted_free rfl) ?_
            unfold Oper.wp
            go_simp
            refine (d_any _).mono ?_
            rintro e w' ⟨rfl, hB⟩
            exact hK _ _ (.inr rfl) ((hF.j.congr (fun i hi => if_off (by decide) hi) (fun i hi => if_off (by decide) hi) (fun i hi => if_off (by decide) hi)).below hB)
          · have ho' := ho
            obtain rfl := Option.some.inj ho
            have f6 : ac.tmps.getD 6 undef = .pointer (some ⟨b6, 0, none⟩) := slott hF 4 hLi 6 (by kernel_rfl)
            refine step_do ho' (wanted_free rfl) ?_
            exact wp_load_own 35 (.tmp 6) rfl b6 f6 (numA yy) _ 35 (hF.j.1.at b6 (numA yy) 35 (.head _)) Tryd.underlying35 rfl (numA_info _) (hK _ _ (.inr rfl) (hF.j.congr (fun i hi => if_off (by decide) hi) (fun i hi => if_off (by decide) hi) (fun i hi => if_off (by decide) hi)))
          · have ho' := ho
            obtain rfl := Option.some.inj ho
            have f30 : ac.tmps.getD 30 undef = .agg (numA dd) := (factt hF hd 3 rfl rfl (by kernel_rfl)).1.trans (factt hF hd 3 rfl rfl (by kernel_rfl)).2
            have f31 : ac.tmps.getD 31 undef = .agg (numA yy) := (factt hF hd 4 rfl rfl (by kernel_rfl)).1.trans (factt hF hd 4 rfl rfl (by kernel_rfl)).2
            refine step_do ho' (wanted_free rfl) ?_
            unfold Oper.wp
            go_simp
            refine (mul_at dd_R hyy.out He.out _).mono ?_
            rintro e w' ⟨rfl, hB⟩
            exact hK _ _ (.inr rfl) ((hF.j.congr (fun i hi => if_off (by decide) hi) (fun i hi => if_off (by decide) hi) (fun i hi => if_off (by decide) hi)).below hB)
          · have ho' := ho
            obtain rfl := Option.some.inj ho
            refine step_do ho' (wanted_free rfl) ?_
            unfold Oper.wp
            go_simp
            exact hK _ _ (.inr (by show _ = Value.agg (numA 1); rw [numA_word 1 (by decide)]; rfl)) (hF.j.congr (fun i hi => if_off (by decide) hi) (fun i hi => if_off (by decide) hi) (fun i hi => if_off (by decide) hi))
          · have ho' := ho
            obtain rfl := Option.some.inj ho
            have f32 : ac.tmps.getD 32 undef = .agg (numA e) := (factt hF hd 5 rfl rfl (by kernel_rfl)).1.trans (factt hF hd 5 rfl rfl (by kernel_rfl)).2
            have f33 : ac.tmps.getD 33 undef = .agg (numA 1) := (factt hF hd 6 rfl rfl (by kernel_rfl)).1.trans (factt hF hd 6 rfl rfl (by kernel_rfl)).2
            refine step_do ho' (wanted_free rfl) ?_
            unfold Oper.wp
            go_simp
            refine (fadd_at he.out (by decide) Hg.out _).mono ?_
            rintro e w' ⟨rfl, hB⟩
            exact hK _ _ (.inr rfl) ((hF.j.congr (fun i hi => if_off (by decide) hi) (fun i hi => if_off (by decide) hi) (fun i hi => if_off (by decide) hi)).below hB)
          · have ho' := ho
            obtain rfl := Option.some.inj ho
            have f34 : ac.tmps.getD 34 undef = .agg (numA g) := (factt hF hd 7 rfl rfl (by kernel_rfl)).1.trans (factt hF hd 7 rfl rfl (by kernel_rfl)).2
            refine step_do ho' (wanted_free rfl) ?_
            unfold Oper.wp
            go_simp
            refine (inv_at hg.out Hv.out _).mono ?_
            rintro e w' ⟨rfl, hB⟩
            exact hK _ _ (.inr rfl) ((hF.j.congr (fun i hi => if_off (by decide) hi) (fun i hi => if_off (by decide) hi) (fun i hi => if_off (by decide) hi)).below hB)
          · have ho' := ho
            obtain rfl := Option.some.inj ho
            have f29 : ac.tmps.getD 29 undef = .agg (numA s) := (factt hF hd 2 rfl rfl (by kernel_rfl)).1.trans (factt hF hd 2 rfl rfl (by kernel_rfl)).2
            have f35 : ac.tmps.getD 35 undef = .agg (numA v) := (factt hF hd 8 rfl rfl (by kernel_rfl)).1.trans (factt hF hd 8 rfl rfl (by kernel_rfl)).2
            refine step_do ho' (wanted_free rfl) ?_
            unfold Oper.wp
            go_simp
            refine (mul_at hs.out hv.out Hq.out _).mono ?_
            rintro e w' ⟨rfl, hB⟩
            exact hK _ _ (.inr rfl) ((hF.j.congr (fun i hi => if_off (by decide) hi) (fun i hi => if_off (by decide) hi) (fun i hi => if_off (by decide) hi)).below hB)
          · have ho' := ho
            obtain rfl := Option.some.inj ho
            have f36 : ac.tmps.getD 36 undef = .agg (numA q) := (factt hF hd 9 rfl rfl (by kernel_rfl)).1.trans (factt hF hd 9 rfl rfl (by kernel_rfl)).2
            refine step_do ho' (wanted_free rfl) ?_
            unfold Oper.wp
            go_simp
            refine (root_some hq.out (by rw [Hqu.out]; exact Hfr.out) _).mono ?_
            rintro e w' ⟨rfl, hB⟩
            exact hK _ _ (.inr rfl) ((hF.j.congr (fun i hi => if_off (by decide) hi) (fun i hi => if_off (by decide) hi) (fun i hi => if_off (by decide) hi)).below hB)
          · have ho' := ho
            obtain rfl := Option.some.inj ho
            have f37 : ac.tmps.getD 37 undef = .tuple #[.agg (numA x), .bool true] := (factt hF hd 10 rfl rfl (by kernel_rfl)).1.trans (factt hF hd 10 rfl rfl (by kernel_rfl)).2
            refine step_do ho' (wanted_free rfl) ?_
            unfold Oper.wp
            go_simp
            exact hK _ _ (.inr rfl) (hF.j.congr (fun i hi => if_off (by decide) hi) (fun i hi => if_off (by decide) hi) (fun i hi => if_off (by decide) hi))
          · have ho' := ho
            obtain rfl := Option.some.inj ho
            have f26 : ac.tmps.getD 26 undef = .tuple #[.agg (numA x), .bool true] := (factt hF hd 11 rfl rfl (by kernel_rfl)).1.trans (factt hF hd 11 rfl rfl (by kernel_rfl)).2
            refine step_do ho' (wanted_free rfl) ?_
            unfold Oper.wp
            go_simp
            exact hK _ _ (.inr rfl) (hF.j.congr (fun i hi => if_off (by decide) hi) (fun i hi => if_off (by decide) hi) (fun i hi => if_off (by decide) hi))
          · have ho' := ho
            obtain rfl := Option.some.inj ho
            have f26 : ac.tmps.getD 26 undef = .tuple #[.agg (numA x), .bool true] := (factt hF hd 11 rfl rfl (by kernel_rfl)).1.trans (factt hF hd 11 rfl rfl (by kernel_rfl)).2
            refine step_do ho' (wanted_free rfl) ?_
            unfold Oper.wp
            go_simp
            exact hK _ _ (.inr rfl) (hF.j.congr (fun i hi => if_off (by decide) hi) (fun i hi => if_off (by decide) hi) (fun i hi => if_off (by decide) hi))
          · have ho' := ho
            obtain rfl := Option.some.inj ho
            refine step_do ho' (wanted_free rfl) ?_
            have hs := notyett hF 14 hLi 15 rfl (by kernel_rfl)
            unfold Oper.wp
            go_simp
            rw [show (#[.int .u64 0, .int .u64 0, .int .u64 0, .int .u64 0] : Array Value) = numA 0 from rfl]
            exact hK _ _ (.inr ⟨_, rfl⟩) (hF.j.alloc 0 (fun i _ hne => if_oth (k := 0) rfl hne) (fun i hi => if_off (by decide) hi) (fun i _ hne => if_oth (k := 0) rfl hne) rfl hs)
          · have ho' := ho
            obtain rfl := Option.some.inj ho
            have f38 : ac.tmps.getD 38 undef = .agg (numA x) := (factt hF hd 12 rfl rfl (by kernel_rfl)).1.trans (factt hF hd 12 rfl rfl (by kernel_rfl)).2
            refine step_do ho' (wanted_free rfl) ?_
            obtain ⟨fg, gq, hg⟩ := factt hF hd 14 rfl rfl (by kernel_rfl)
            have hm := dep hd 14 (by kernel_rfl)
            have hj := hF.j
            rw [hg] at fg
            have hj2 := hj.at (k := 0) (by decide) hm hg hLi
            refine wp_store_own 35 (.tmp 7) (.tmp 38) rfl gq (numA x) fg f38 hj2.2.2 (numA_sizes _ _) (numA_info _) (numA_one _) rfl ?_
            exact hK undef _ (.inl rfl) (hj.store (k := 0) (by decide) hm hg hLi (numA_sizes _ _) (fun i hi => if_off (by decide) hi) (fun i _ hne => if_oth (k := 0) rfl hne) (fun i hi => if_off (by decide) hi) rfl)
          · have ho' := ho
            obtain rfl := Option.some.inj ho
            have f39 : ac.tmps.getD 39 undef = .bool true := (factt hF hd 13 rfl rfl (by kernel_rfl)).1.trans (factt hF hd 13 rfl rfl (by kernel_rfl)).2
            refine step_do ho' (wanted_free rfl) ?_
            unfold Oper.wp
            go_simp
            exact hK _ _ (.inr rfl) (hF.j.congr (fun i hi => if_off (by decide) hi) (fun i hi => if_off (by decide) hi) (fun i hi => if_off (by decide) hi))
          · cases ho
        intro L vs V8 hL hJ hf
        obtain ⟨g9, hgg9⟩ := hf 14 _ _ rfl rfl
        obtain ⟨le0, apg9, owng9⟩ := hJ.got (k := 0) (by decide) (hL 14 (by decide)) hgg9 (hL 15 (by decide))
        have le_g9 := show Hid _ from le0
        clear le0
        have ne_b6_g9 : Hid (b6 ≠ g9) := apg9 (b6, numA yy, 35) (.head _)
        have ne_b2_g9 : Hid (b2 ≠ g9) := apg9 (b2, numA y, 35) (.tail _ (.head _))
        have ne_bR_g9 : Hid (bR ≠ g9) := apg9 (bR, PA ⟨0, 0, 0, 0⟩, 47) (.tail _ (.tail _ (.head _)))
        have hK : Kp [(g9, numA x, 35), (b6, numA yy, 35), (b2, numA y, 35), (bR, PA ⟨0, 0, 0, 0⟩, 47)] w V8 := (hJ.1.cons owng9)
        have e0 : vs 0 = _ := hf 0 _ _ rfl rfl
        have e1 : vs 1 = _ := hf 1 _ _ rfl rfl
        have e2 : vs 2 = _ := hf 2 _ _ rfl rfl
        have e3 : vs 3 = _ := hf 3 _ _ rfl rfl
        have e4 : vs 4 = _ := hf 4 _ _ rfl rfl
        have e5 : vs 5 = _ := hf 5 _ _ rfl rfl
        have e6 : vs 6 = _ := hf 6 _ _ rfl rfl
        have e7 : vs 7 = _ := hf 7 _ _ rfl rfl
        have e8 : vs 8 = _ := hf 8 _ _ rfl rfl
        have e9 : vs 9 = _ := hf 9 _ _ rfl rfl
        have e10 : vs 10 = _ := hf 10 _ _ rfl rfl
        have e11 : vs 11 = _ := hf 11 _ _ rfl rfl
        have e12 : vs 12 = _ := hf 12 _ _ rfl rfl
        have e13 : vs 13 = _ := hf 13 _ _ rfl rfl
        have e16 : vs 16 = _ := hf 16 _ _ rfl rfl
        simp only [putAll, Nat.zero_add, Nat.reduceAdd, e0, e1, e2, e3, e4, e5, e6, e7, e8, e9, e10, e11, e12, e13, e16, hgg9, Act.put, List.setIfInBounds_toArray, List.set_cons_succ, List.set_cons_zero]
        clear hJ hf hL e0 e1 e2 e3 e4 e5 e6 e7 e8 e9 e10 e11 e12 e13 e16 hgg9 apg9 owng9
        by_cases hx0 : x = 0
        · have Hdec : Hid (decV (dec a) = .tuple #[.agg (PA ⟨0, 0, 0, 0⟩), .bool false]) := by show _ = _; rw [dec_noside' (by rw [Hy.out]; exact Hlt.out) (by rw [Hy.out, Hfr.out, hx0]) hodd.out]; rfl
          have hq0 := eq_zero hx.out hx0
          clear hx0
          go_upto_region 9 with (refine wpList_load_gd (by rfl) 35 (.tmp 7) (by rfl) g9 (by rfl) (numA x) _ (hK.at g9 (numA x) 35 (.head _)) Tryd.underlying35 (by rfl) (numA_info _) ?_)
          go_wp2_with (refine wpList_store_own (by rfl) 47 (.tmp 2) (.tmp 50) (by rfl) bR 0 (PA ⟨0, 0, 0, 0⟩) (by rfl) (by rfl) (hK.at bR (PA ⟨0, 0, 0, 0⟩) 47 (.tail _ (.tail _ (.tail _ (.head _))))) (Nat.le_refl _) (PA_info _) (PA_one _) (by rfl) ?_)
          exact bodyPost_ret (results_own_tmp Tryd.results24 _ _ bR (PA ⟨0, 0, 0, 0⟩) _ (by rfl) (own_setCells (hK.at bR (PA ⟨0, 0, 0, 0⟩) 47 (.tail _ (.tail _ (.tail _ (.head _))))) (PA_sizes _ _)) Tryd.underlying47 rfl (PA_info _)) rfl ⟨by rw [Hdec.out]; rfl, Below.setCells _ _ _ _ le_bR.out hK.2⟩
        · obtain ⟨xs, Hxs⟩ : ∃ z, Hid (subp 0 x = z) := ⟨_, rfl⟩
          have hxs : Hid (xs < R256) := by show _ < _; rw [← Hxs.out]; exact subp_lt _ _
          obtain ⟨t, Ht⟩ : ∃ z, Hid (xs * y % pp = z) := ⟨_, rfl⟩
          have Hdec : Hid (decV (dec a) = .tuple #[.agg (PA ⟨xs, y, 1, t⟩), .bool true]) := by show _ = _; rw [dec_side' (by rw [Hy.out]; exact Hlt.out) (by rw [Hy.out]; exact Hfr.out) hodd.out hx0, Hy.out, Hxs.out, Ht.out]; rfl
          have hq0 := ne_zero hx.out hx0
          clear hx0
          go_upto_region 11 with (refine wpList_load_gd (by rfl) 35 (.tmp 7) (by rfl) g9 (by rfl) (numA x) _ (hK.at g9 (numA x) 35 (.head _)) Tryd.underlying35 (by rfl) (numA_info _) ?_)
          clear hq0
          go_wp2_with (refine wpList_load_own (by rfl) 35 (.tmp 7) (by rfl) g9 (by rfl) (numA x) _ (hK.at g9 (numA x) 35 (.head _)) Tryd.underlying35 (by rfl) (numA_info _) ?_)
          rw [show (#[.int .u64 0, .int .u64 0, .int .u64 0, .int .u64 0] : Array Value) = numA 0 from rfl]
          refine (fsub_at (by decide) hx.out Hxs.out _).mono ?_
          rintro e V10 ⟨rfl, bw⟩
          have hK := hK.below bw
          clear bw
          go_upto_region 12 with (refine wpList_store_own (by rfl) 35 (.tmp 7) (.tmp 54) (by rfl) g9 0 (numA xs) (by rfl) (by rfl) (hK.at g9 (numA x) 35 (.head _)) (Nat.le_refl _) (numA_info _) (numA_one _) (by rfl) ?_)
          have hK : Kp [(g9, numA x, 35), (b6, numA yy, 35), (b2, numA y, 35), (bR, PA ⟨0, 0, 0, 0⟩, 47)] w V10 := ((((hK.none.cons (hK.at bR (PA ⟨0, 0, 0, 0⟩) 47 (.tail _ (.tail _ (.tail _ (.head _)))))).cons (hK.at b2 (numA y) 35 (.tail _ (.tail _ (.head _))))).cons (hK.at b6 (numA yy) 35 (.tail _ (.head _)))).cons (hK.at g9 (numA x) 35 (.head _)))
          have hK := Kp.set (A' := numA xs) hK (by simp only [List.forall_mem_cons, List.not_mem_nil, false_implies, implies_true, and_true]; exact ⟨ne_b6_g9.out, ne_b2_g9.out, ne_bR_g9.out⟩) le_g9.out (numA_sizes _ _)
          generalize V10.setCells g9 0 (numA xs).toList = V11 at *
          have hK : Kp [(g9, numA xs, 35), (b2, numA y, 35), (bR, PA ⟨0, 0, 0, 0⟩, 47)] w V11 := (((hK.none.cons (hK.at bR (PA ⟨0, 0, 0, 0⟩) 47 (.tail _ (.tail _ (.tail _ (.head _)))))).cons (hK.at b2 (numA y) 35 (.tail _ (.tail _ (.head _))))).cons (hK.at g9 (numA xs) 35 (.head _)))
          refine wp_region_vals 62 (by kernel_rfl) (by kernel_rfl) (by rfl) (valDexs xs y t) (fun L => Kp [(g9, numA xs, 35), (b2, numA y, 35), (bR, if L 7 = true then PA ⟨xs, y, 1, t⟩ else PA ⟨0, 0, 0, 0⟩, 47)] w) hK.drew ?_ ?_
          · intro L ac wc i o hF hLi ho hd K hK
            rcases i with _ | _ | _ | _ | _ | _ | _ | _ | _ | i
            · have ho' := ho
              obtain rfl := Option.some.inj ho
              have f7 : ac.tmps.getD 7 undef = .pointer (some ⟨g9, 0, none⟩) := slotv hF 0 hLi 7 (by kernel_rfl)
              refine step_do ho' (wanted_free rfl) ?_
              exact wp_load_own 35 (.tmp 7) rfl g9 f7 (numA xs) _ 35 (hF.j.at g9 (numA xs) 35 (.head _)) Tryd.underlying35 rfl (numA_info _) (hK _ _ (.inr rfl) hF.j)
            · have ho' := ho
              obtain rfl := Option.some.inj ho
              have f5 : ac.tmps.getD 5 undef = .pointer (some ⟨b2, 0, none⟩) := slotv hF 1 hLi 5 (by kernel_rfl)
              refine step_do ho' (wanted_free rfl) ?_
              exact wp_load_own 35 (.tmp 5) rfl b2 f5 (numA y) _ 35 (hF.j.at b2 (numA y) 35 (.tail _ (.head _))) Tryd.underlying35 rfl (numA_info _) (hK _ _ (.inr rfl) hF.j)
            · have ho' := ho
              obtain rfl := Option.some.inj ho
              refine step_do ho' (wanted_free rfl) ?_
              unfold Oper.wp
              go_simp
              exact hK _ _ (.inr (by show _ = Value.agg (numA 1); rw [numA_word 1 (by decide)]; rfl)) hF.j
            · have ho' := ho
              obtain rfl := Option.some.inj ho
              have f7 : ac.tmps.getD 7 undef = .pointer (some ⟨g9, 0, none⟩) := slotv hF 3 hLi 7 (by kernel_rfl)
              refine step_do ho' (wanted_free rfl) ?_
              exact wp_load_own 35 (.tmp 7) rfl g9 f7 (numA xs) _ 35 (hF.j.at g9 (numA xs) 35 (.head _)) Tryd.underlying35 rfl (numA_info _) (hK _ _ (.inr rfl) hF.j)
            · have ho' := ho
              obtain rfl := Option.some.inj ho
              have f5 : ac.tmps.getD 5 undef = .pointer (some ⟨b2, 0, none⟩) := slotv hF 4 hLi 5 (by kernel_rfl)
              refine step_do ho' (wanted_free rfl) ?_
              exact wp_load_own 35 (.tmp 5) rfl b2 f5 (numA y) _ 35 (hF.j.at b2 (numA y) 35 (.tail _ (.head _))) Tryd.underlying35 rfl (numA_info _) (hK _ _ (.inr rfl) hF.j)
            · have ho' := ho
              obtain rfl := Option.some.inj ho
              have f58 : ac.tmps.getD 58 undef = .agg (numA xs) := valv hF hd 3 rfl rfl (by kernel_rfl)
              have f59 : ac.tmps.getD 59 undef = .agg (numA y) := valv hF hd 4 rfl rfl (by kernel_rfl)
              refine step_do ho' (wanted_free rfl) ?_
              unfold Oper.wp
              go_simp
              refine (mul_at hxs.out hy.out Ht.out _).mono ?_
              rintro e w' ⟨rfl, hB⟩
              exact hK _ _ (.inr rfl) (hF.j.below hB)
            · have ho' := ho
              obtain rfl := Option.some.inj ho
              have f55 : ac.tmps.getD 55 undef = .agg (numA xs) := valv hF hd 0 rfl rfl (by kernel_rfl)
              have f56 : ac.tmps.getD 56 undef = .agg (numA y) := valv hF hd 1 rfl rfl (by kernel_rfl)
              have f57 : ac.tmps.getD 57 undef = .agg (numA 1) := valv hF hd 2 rfl rfl (by kernel_rfl)
              have f60 : ac.tmps.getD 60 undef = .agg (numA t) := valv hF hd 5 rfl rfl (by kernel_rfl)
              refine step_do ho' (wanted_free rfl) ?_
              exact wp_build_pt 55 56 57 60 (xs) (y) (1) (t) rfl f55 f56 f57 f60 (hK _ _ (.inr rfl) hF.j)
            · have ho' := ho
              obtain rfl := Option.some.inj ho
              have f2 : ac.tmps.getD 2 undef = .pointer (some ⟨bR, 0, none⟩) := slotv hF 7 hLi 2 (by kernel_rfl)
              have f61 : ac.tmps.getD 61 undef = .agg (PA ⟨xs, y, 1, t⟩) := valv hF hd 6 rfl rfl (by kernel_rfl)
              refine step_do ho' (wanted_free rfl) ?_
              have hj := hF.j
              rw [hLi] at hj
              have hj : Kp [(g9, numA xs, 35), (b2, numA y, 35), (bR, PA ⟨0, 0, 0, 0⟩, 47)] w wc := hj
              have hj : Kp [(bR, PA ⟨0, 0, 0, 0⟩, 47), (g9, numA xs, 35), (b2, numA y, 35)] w wc := (((hj.none.cons (hj.at b2 (numA y) 35 (.tail _ (.head _)))).cons (hj.at g9 (numA xs) 35 (.head _))).cons (hj.at bR (PA ⟨0, 0, 0, 0⟩) 47 (.tail _ (.tail _ (.head _)))))
              refine wp_store_own 47 (.tmp 2) (.tmp 61) rfl bR (PA ⟨xs, y, 1, t⟩) f2 f61 (hj.at bR (PA ⟨0, 0, 0, 0⟩) 47 (.head _)) (PA_sizes _ _) (PA_info _) (PA_one _) rfl ?_
              have hj := Kp.set (A' := PA ⟨xs, y, 1, t⟩) hj (by simp only [List.forall_mem_cons, List.not_mem_nil, false_implies, implies_true, and_true]; exact ⟨(Ne.symm ne_bR_g9.out), (Ne.symm ne_bR_b2.out)⟩) le_bR.out (PA_sizes _ _)
              exact hK undef _ (.inl rfl) (((hj.none.cons (hj.at bR (PA ⟨xs, y, 1, t⟩) 47 (.head _))).cons (hj.at b2 (numA y) 35 (.tail _ (.tail _ (.head _))))).cons (hj.at g9 (numA xs) 35 (.tail _ (.head _))))
            · have ho' := ho
              obtain rfl := Option.some.inj ho
              refine step_do ho' (wanted_free rfl) ?_
              unfold Oper.wp
              go_simp
              exact hK _ _ (.inr rfl) hF.j
            · cases ho
          intro L V12 hL hKq
          rw [hL 7 (by decide)] at hKq
          have hK : Kp [(g9, numA xs, 35), (b2, numA y, 35), (bR, PA ⟨xs, y, 1, t⟩, 47)] w V12 := hKq
          clear hKq hL
          simp only [putAll, valDexs, Act.put, List.setIfInBounds_toArray, List.set_cons_succ, List.set_cons_zero]
          go_wp2_with fail
          exact bodyPost_ret (results_own_tmp Tryd.results24 _ _ bR (PA ⟨xs, y, 1, t⟩) _ (by rfl) (hK.at bR (PA ⟨xs, y, 1, t⟩) 47 (.tail _ (.tail _ (.head _)))) Tryd.underlying47 rfl (PA_info _)) rfl ⟨by rw [Hdec.out]; rfl, hK.2⟩
    · have Hdec : Hid (decV (dec a) = .tuple #[.agg (PA ⟨0, 0, 0, 0⟩), .bool false]) := by show _ = _; rw [dec_big' (by rw [Hy.out]; exact hlt)]; rfl
      have Hlt := show Hid _ from hlt
      clear hlt
      refine wp_region_vals 62 (by kernel_rfl) (by kernel_rfl) (by rfl) (valDeG y) (fun _ => Kp [(b2, numA y, 35), (bR, PA ⟨0, 0, 0, 0⟩, 47)] w) hK.drew ?_ ?_
      · intro L ac wc i o hF hLi ho hd K hK
        rcases i with _ | _ | _ | _ | i
        · have ho' := ho
          obtain rfl := Option.some.inj ho
          have f5 : ac.tmps.getD 5 undef = .pointer (some ⟨b2, 0, none⟩) := slotv hF 0 hLi 5 (by kernel_rfl)
          refine step_do ho' (wanted_free rfl) ?_
          exact wp_load_own 35 (.tmp 5) rfl b2 f5 (numA y) _ 35 (hF.j.at b2 (numA y) 35 (.head _)) Tryd.underlying35 rfl (numA_info _) (hK _ _ (.inr rfl) hF.j)
        · have ho' := ho
          obtain rfl := Option.some.inj ho
          refine step_do ho' (wanted_free rfl) ?_
          unfold Oper.wp
          go_simp
          refine (P_any _).mono ?_
          rintro e w' ⟨rfl, hB⟩
          exact hK _ _ (.inr rfl) (hF.j.below hB)
        · have ho' := ho
          obtain rfl := Option.some.inj ho
          have f18 : ac.tmps.getD 18 undef = .agg (numA y) := valv hF hd 0 rfl rfl (by kernel_rfl)
          have f19 : ac.tmps.getD 19 undef = .agg (numA pp) := valv hF hd 1 rfl rfl (by kernel_rfl)
          refine step_do ho' (wanted_free rfl) ?_
          unfold Oper.wp
          go_simp
          refine (less_no hy.out Hlt.out _).mono ?_
          rintro e w' ⟨rfl, hB⟩
          exact hK _ _ (.inr rfl) (hF.j.below hB)
        · have ho' := ho
          obtain rfl := Option.some.inj ho
          have f20 : ac.tmps.getD 20 undef = .bool false := valv hF hd 2 rfl rfl (by kernel_rfl)
          refine step_do ho' (wanted_free rfl) ?_
          unfold Oper.wp
          go_simp
          exact hK _ _ (.inr rfl) hF.j
        · cases ho
      intro L V4 hL hKq
      have hK : Kp [(b2, numA y, 35), (bR, PA ⟨0, 0, 0, 0⟩, 47)] w V4 := hKq
      clear hKq hL
      simp only [putAll, valDeG, Act.put, List.setIfInBounds_toArray, List.set_cons_succ, List.set_cons_zero]
      go_upto_region 5 with fail
      go_wp2_with (refine wpList_store_own (by rfl) 47 (.tmp 2) (.tmp 22) (by rfl) bR 0 (PA ⟨0, 0, 0, 0⟩) (by rfl) (by rfl) (hK.at bR (PA ⟨0, 0, 0, 0⟩) 47 (.tail _ (.head _))) (Nat.le_refl _) (PA_info _) (PA_one _) (by rfl) ?_)
      exact bodyPost_ret (results_own_tmp Tryd.results24 _ _ bR (PA ⟨0, 0, 0, 0⟩) _ (by rfl) (own_setCells (hK.at bR (PA ⟨0, 0, 0, 0⟩) 47 (.tail _ (.head _))) (PA_sizes _ _)) Tryd.underlying47 rfl (PA_info _)) rfl ⟨by rw [Hdec.out]; rfl, Below.setCells _ _ _ _ le_bR.out hK.2⟩
  · have hodd : Hid (a / HH ≠ 1) := hod
    have hge : decide ((128 : Int) ≤ (bdig a 31 : Int)) = false := by have := mt (top_odd ha.out).1 hod; rw [decide_eq_false]; omega
    clear hod
    go_enter Tryd.func24, Tryd.ntmps24
    go_upto_region 1 with fail
    have hK := ((Kp.nil w).alloc (B32 (bdig a)) 22).alloc (PA ⟨0, 0, 0, 0⟩) 47
    rw [World.size_alloc] at hK
    generalize (w.alloc (.cells (B32 (bdig a)) 22)).alloc (.cells (PA ⟨0, 0, 0, 0⟩) 47) = W at *
    obtain ⟨bB, HbB⟩ : ∃ b, Hid (w.heap.size = b) := ⟨_, rfl⟩
    obtain ⟨bR, HbR⟩ : ∃ b, Hid (bB + 1 = b) := ⟨_, rfl⟩
    have le_bB : Hid (w.heap.size ≤ bB) := by show _ ≤ _; have := HbB.out; omega
    have le_bR : Hid (w.heap.size ≤ bR) := by show _ ≤ _; have := HbB.out; have := HbR.out; omega
    have ne_bB_bR : Hid (bB ≠ bR) := by show _ ≠ _; have := HbR.out; omega
    rw [HbB.out, HbR.out] at hK ⊢
    have cB := (hK.at bB (B32 (bdig a)) 22 (.tail _ (.head _))).cell (B32_at (bdig a) 31 (by decide))
    have fB := (hK.at bB (B32 (bdig a)) 22 (.tail _ (.head _))).frozen 31
    have hand := and_top a
    obtain ⟨u, Hu⟩ : ∃ u, Hid (bdig a 31 % 128 = u) := ⟨_, rfl⟩
    rw [Hu.out] at hand
    have hK : Kp [(bB, B32 (bdig a), 22), (bR, PA ⟨0, 0, 0, 0⟩, 47)] w W := ((hK.none.cons (hK.at bR (PA ⟨0, 0, 0, 0⟩) 47 (.head _))).cons (hK.at bB (B32 (bdig a)) 22 (.tail _ (.head _))))
    have hK := Kp.setCell (i := 31) (v := .int .u8 (u : Int)) hK (by simp only [List.forall_mem_cons, List.not_mem_nil, false_implies, implies_true, and_true]; exact (Ne.symm ne_bB_bR.out)) le_bB.out
    rw [B32_set _ 31 _ (by decide), ← Hu.out, B32_low ha.out, Hy.out, Hu.out] at hK
    generalize bdig a 31 = d31 at *
    go_upto_region 3 with fail
    generalize W.setCell ⟨bB, 31, none⟩ (.int .u8 (u : Int)) = V0 at *
    clear cB fB hand hge
    go_wp2_with (refine wpList_load_own (by rfl) 22 (.tmp 1) (by rfl) bB (by rfl) (B32 (bdig y)) _ (hK.at bB (B32 (bdig y)) 22 (.head _)) Tryd.underlying22 (by rfl) (B32_info _) ?_)
    refine (of_any y hy.out _).mono ?_
    rintro e V1 ⟨rfl, bw⟩
    have hK := hK.below bw
    clear bw
    go_upto_region 4 with (refine wpList_store_new (by rfl) 35 (.tmp 5) (.tmp 17) (by rfl) _ (numA y) (by rfl) (by rfl) (numA_info _) (lit4_size _ _ _ _ _) (numA_one _) (by rfl) ?_)
    have lt_bB := (hK.at bB (B32 (bdig y)) 22 (.head _)).lt
    have lt_bR := (hK.at bR (PA ⟨0, 0, 0, 0⟩) 47 (.tail _ (.head _))).lt
    have le_b2 := show Hid _ from hK.2.size
    have hK := hK.alloc (numA y) 35
    generalize V1.alloc (.cells (numA y) 35) = V3 at *
    obtain ⟨b2, Hb2⟩ : ∃ b, Hid (V1.heap.size = b) := ⟨_, rfl⟩
    have ne_bB_b2 : Hid (bB ≠ b2) := by show _ ≠ _; rw [← Hb2.out]; exact Nat.ne_of_lt lt_bB
    have ne_bR_b2 : Hid (bR ≠ b2) := by show _ ≠ _; rw [← Hb2.out]; exact Nat.ne_of_lt lt_bR
    have le_b2 : Hid (w.heap.size ≤ b2) := by show _ ≤ _; rw [← Hb2.out]; exact le_b2.out
    rw [Hb2.out] at hK ⊢
    clear lt_bB lt_bR
    have hK : Kp [(b2, numA y, 35), (bR, PA ⟨0, 0, 0, 0⟩, 47)] w V3 := ((hK.none.cons (hK.at bR (PA ⟨0, 0, 0, 0⟩) 47 (.tail _ (.tail _ (.head _))))).cons (hK.at b2 (numA y) 35 (.head _)))
    by_cases hlt : y < pp
    · have Hlt := show Hid _ from hlt
      clear hlt
      refine wp_region_vals 62 (by kernel_rfl) (by kernel_rfl) (by rfl) (valDeL y) (fun _ => Kp [(b2, numA y, 35), (bR, PA ⟨0, 0, 0, 0⟩, 47)] w) hK.drew ?_ ?_
      · intro L ac wc i o hF hLi ho hd K hK
        rcases i with _ | _ | _ | _ | i
        · have ho' := ho
          obtain rfl := Option.some.inj ho
          have f5 : ac.tmps.getD 5 undef = .pointer (some ⟨b2, 0, none⟩) := slotv hF 0 hLi 5 (by kernel_rfl)
          refine step_do ho' (wanted_free rfl) ?_
          exact wp_load_own 35 (.tmp 5) rfl b2 f5 (numA y) _ 35 (hF.j.at b2 (numA y) 35 (.head _)) Tryd.underlying35 rfl (numA_info _) (hK _ _ (.inr rfl) hF.j)
        · have ho' := ho
          obtain rfl := Option.some.inj ho
          refine step_do ho' (wanted_free rfl) ?_
          unfold Oper.wp
          go_simp
          refine (P_any _).mono ?_
          rintro e w' ⟨rfl, hB⟩
          exact hK _ _ (.inr rfl) (hF.j.below hB)
        · have ho' := ho
          obtain rfl := Option.some.inj ho
          have f18 : ac.tmps.getD 18 undef = .agg (numA y) := valv hF hd 0 rfl rfl (by kernel_rfl)
          have f19 : ac.tmps.getD 19 undef = .agg (numA pp) := valv hF hd 1 rfl rfl (by kernel_rfl)
          refine step_do ho' (wanted_free rfl) ?_
          unfold Oper.wp
          go_simp
          refine (less_yes hy.out Hlt.out _).mono ?_
          rintro e w' ⟨rfl, hB⟩
          exact hK _ _ (.inr rfl) (hF.j.below hB)
        · have ho' := ho
          obtain rfl := Option.some.inj ho
          have f20 : ac.tmps.getD 20 undef = .bool true := valv hF hd 2 rfl rfl (by kernel_rfl)
          refine step_do ho' (wanted_free rfl) ?_
          unfold Oper.wp
          go_simp
          exact hK _ _ (.inr rfl) hF.j
        · cases ho
      intro L V4 hL hKq
      have hK : Kp [(b2, numA y, 35), (bR, PA ⟨0, 0, 0, 0⟩, 47)] w V4 := hKq
      clear hKq hL
      simp only [putAll, valDeL, Act.put, List.setIfInBounds_toArray, List.set_cons_succ, List.set_cons_zero]
      go_upto_region 6 with fail
      go_wp2_with (first
        | refine wpList_load_own (by rfl) 35 (.tmp 5) (by rfl) b2 (by rfl) (numA y) _ (hK.at b2 (numA y) 35 (.head _)) Tryd.underlying35 (by rfl) (numA_info _) ?_
        | refine wpList_load_own (by rfl) 35 (.tmp 5) (by rfl) b2 (by rfl) (numA y) _ (hK.at b2 (numA y) 35 (.head _)) Tryd.underlying35 (by rfl) (numA_info _) ?_)
      refine (mul_at hy.out hy.out Hyy.out _).mono ?_
      rintro e V5 ⟨rfl, bw⟩
      have hK := hK.below bw
      clear bw
      go_upto_region 7 with (refine wpList_store_new (by rfl) 35 (.tmp 6) (.tmp 25) (by rfl) _ (numA yy) (by rfl) (by rfl) (numA_info _) (lit4_size _ _ _ _ _) (numA_one _) (by rfl) ?_)
      have lt_b2 := (hK.at b2 (numA y) 35 (.head _)).lt
      have lt_bR := (hK.at bR (PA ⟨0, 0, 0, 0⟩) 47 (.tail _ (.head _))).lt
      have le_b6 := show Hid _ from hK.2.size
      have hK := hK.alloc (numA yy) 35
      generalize V5.alloc (.cells (numA yy) 35) = V7 at *
      obtain ⟨b6, Hb6⟩ : ∃ b, Hid (V5.heap.size = b) := ⟨_, rfl⟩
      have ne_b2_b6 : Hid (b2 ≠ b6) := by show _ ≠ _; rw [← Hb6.out]; exact Nat.ne_of_lt lt_b2
      have ne_bR_b6 : Hid (bR ≠ b6) := by show _ ≠ _; rw [← Hb6.out]; exact Nat.ne_of_lt lt_bR
      have le_b6 : Hid (w.heap.size ≤ b6) := by show _ ≤ _; rw [← Hb6.out]; exact le_b6.out
      rw [Hb6.out] at hK ⊢
      clear lt_b2 lt_bR
      rcases hfr : froot (usq y) with _ | x
      · have Hfr := show Hid _ from hfr
        clear hfr
        have Hdec : Hid (decV (dec a) = .tuple #[.agg (PA ⟨0, 0, 0, 0⟩), .bool false]) := by show _ = _; rw [dec_noroot' (by rw [Hy.out]; exact Hlt.out) (by rw [Hy.out]; exact Hfr.out)]; rfl
        refine wp_region_told 62 (by kernel_rfl) (by kernel_rfl) (by rfl) (factDeN yy s e g v q) (fun L vs => MkN 1 [(b6, numA yy, 35), (b2, numA y, 35), (bR, PA ⟨0, 0, 0, 0⟩, 47)] w (fun _ => numA 0) (fun _ => numA 0) (fun _ => 35) (fun i => L (14 + i)) (fun i => L (15 + i)) (fun i => vs (14 + i))) (fun _ => MkN.drew hK (fun _ _ => rfl)) ?_ ?_
        · intro L vs ac wc i o hF hLi ho hd K hK
          rcases i with _ | _ | _ | _ | _ | _ | _ | _ | _ | _ | _ | _ | _ | _ | _ | _ | _ | i
          · have ho' := ho
            obtain rfl := Option.some.inj ho
            have f6 : ac.tmps.getD 6 undef = .pointer (some ⟨b6, 0, none⟩) := slott hF 0 hLi 6 (by kernel_rfl)
            refine step_do ho' (wanted_free rfl) ?_
            exact wp_load_own 35 (.tmp 6) rfl b6 f6 (numA yy) _ 35 (hF.j.1.at b6 (numA yy) 35 (.head _)) Tryd.underlying35 rfl (numA_info _) (hK _ _ (.inr rfl) (hF.j.congr (fun i hi => if_off (by decide) hi) (fun i hi => if_off (by decide) hi) (fun i hi => if_off (by decide) hi)))
          · have ho' := ho
            obtain rfl := Option.some.inj ho
            refine step_do ho' (wanted_free rfl) ?_
            unfold Oper.wp
            go_simp
            exact hK _ _ (.inr (by show _ = Value.agg (numA 1); rw [numA_word 1 (by decide)]; rfl)) (hF.j.congr (fun i hi => if_off (by decide) hi) (fun i hi => if_off (by decide) hi) (fun i hi => if_off (by decide) hi))
          · have ho' := ho
            obtain rfl := Option.some.inj ho
            have f27 : ac.tmps.getD 27 undef = .agg (numA yy) := (factt hF hd 0 rfl rfl (by kernel_rfl)).1.trans (factt hF hd 0 rfl rfl (by kernel_rfl)).2
            have f28 : ac.tmps.getD 28 undef = .agg (numA 1) := (factt hF hd 1 rfl rfl (by kernel_rfl)).1.trans (factt hF hd 1 rfl rfl (by kernel_rfl)).2
            refine step_do ho' (wanted_free rfl) ?_
            unfold Oper.wp
            go_simp
            refine (fsub_at hyy.out (by decide) Hs.out _).mono ?_
            rintro e w' ⟨rfl, hB⟩
            exact hK _ _ (.inr rfl) ((hF.j.congr (fun i hi => if_off (by decide) hi) (fun i hi => if_off (by decide) hi) (fun i hi => if_off (by decide) hi)).below hB)
          · have ho' := ho
            obtain rfl := Option.some.inj ho
            refine step_do ho' (wanted_free rfl) ?_
            unfold Oper.wp
            go_simp
            refine (d_any _).mono ?_
            rintro e w' ⟨rfl, hB⟩
            exact hK _ _ (.inr rfl) ((hF.j.congr (fun i hi => if_off (by decide) hi) (fun i hi => if_off (by decide) hi) (fun i hi => if_off (by decide) hi)).below hB)
          · have ho' := ho
            obtain rfl := Option.some.inj ho
            have f6 : ac.tmps.getD 6 undef = .pointer (some ⟨b6, 0, none⟩) := slott hF 4 hLi 6 (by kernel_rfl)
            refine step_do ho' (wanted_free rfl) ?_
            exact wp_load_own 35 (.tmp 6) rfl b6 f6 (numA yy) _ 35 (hF.j.1.at b6 (numA yy) 35 (.head _)) Tryd.underlying35 rfl (numA_info _) (hK _ _ (.inr rfl) (hF.j.congr (fun i hi => if_off (by decide) hi) (fun i hi => if_off (by decide) hi) (fun i hi => if_off (by decide) hi)))
          · have ho' := ho
            obtain rfl := Option.some.inj ho
            have f30 : ac.tmps.getD 30 undef = .agg (numA dd) := (factt hF hd 3 rfl rfl (by kernel_rfl)).1.trans (factt hF hd 3 rfl rfl (by kernel_rfl)).2
            have f31 : ac.tmps.getD 31 undef = .agg (numA yy) := (factt hF hd 4 rfl rfl (by kernel_rfl)).1.trans (factt hF hd 4 rfl rfl (by kernel_rfl)).2
            refine step_do ho' (wanted_free rfl) ?_
            unfold Oper.wp
            go_simp
            refine (mul_at dd_R hyy.out He.out _).mono ?_
            rintro e w' ⟨rfl, hB⟩
            exact hK _ _ (.inr rfl) ((hF.j.congr (fun i hi => if_off (by decide) hi) (fun i hi => if_off (by decide) hi) (fun i hi => if_off (by decide) hi)).below hB)
          · have ho' := ho
            obtain rfl := Option.some.inj ho
            refine step_do ho' (wanted_free rfl) ?_
            unfold Oper.wp
            go_simp
            exact hK _ _ (.inr (by show _ = Value.agg (numA 1); rw [numA_word 1 (by decide)]; rfl)) (hF.j.congr (fun i hi => if_off (by decide) hi) (fun i hi => if_off (by decide) hi) (fun i hi => if_off (by decide) hi))
          · have ho' := ho
            obtain rfl := Option.some.inj ho
            have f32 : ac.tmps.getD 32 undef = .agg (numA e) := (factt hF hd 5 rfl rfl (by kernel_rfl)).1.trans (factt hF hd 5 rfl rfl (by kernel_rfl)).2
            have f33 : ac.tmps.getD 33 undef = .agg (numA 1) := (factt hF hd 6 rfl rfl (by kernel_rfl)).1.trans (factt hF hd 6 rfl rfl (by kernel_rfl)).2
            refine step_do ho' (wanted_free rfl) ?_
            unfold Oper.wp
            go_simp
            refine (fadd_at he.out (by decide) Hg.out _).mono ?_
            rintro e w' ⟨rfl, hB⟩
            exact hK _ _ (.inr rfl) ((hF.j.congr (fun i hi => if_off (by decide) hi) (fun i hi => if_off (by decide) hi) (fun i hi => if_off (by decide) hi)).below hB)
          · have ho' := ho
            obtain rfl := Option.some.inj ho
            have f34 : ac.tmps.getD 34 undef = .agg (numA g) := (factt hF hd 7 rfl rfl (by kernel_rfl)).1.trans (factt hF hd 7 rfl rfl (by kernel_rfl)).2
            refine step_do ho' (wanted_free rfl) ?_
            unfold Oper.wp
            go_simp
            refine (inv_at hg.out Hv.out _).mono ?_
            rintro e w' ⟨rfl, hB⟩
            exact hK _ _ (.inr rfl) ((hF.j.congr (fun i hi => if_off (by decide) hi) (fun i hi => if_off (by decide) hi) (fun i hi => if_off (by decide) hi)).below hB)
          · have ho' := ho
            obtain rfl := Option.some.inj ho
            have f29 : ac.tmps.getD 29 undef = .agg (numA s) := (factt hF hd 2 rfl rfl (by kernel_rfl)).1.trans (factt hF hd 2 rfl rfl (by kernel_rfl)).2
            have f35 : ac.tmps.getD 35 undef = .agg (numA v) := (factt hF hd 8 rfl rfl (by kernel_rfl)).1.trans (factt hF hd 8 rfl rfl (by kernel_rfl)).2
            refine step_do ho' (wanted_free rfl) ?_
            unfold Oper.wp
            go_simp
            refine (mul_at hs.out hv.out Hq.out _).mono ?_
            rintro e w' ⟨rfl, hB⟩
            exact hK _ _ (.inr rfl) ((hF.j.congr (fun i hi => if_off (by decide) hi) (fun i hi => if_off (by decide) hi) (fun i hi => if_off (by decide) hi)).below hB)
          · have ho' := ho
            obtain rfl := Option.some.inj ho
            have f36 : ac.tmps.getD 36 undef = .agg (numA q) := (factt hF hd 9 rfl rfl (by kernel_rfl)).1.trans (factt hF hd 9 rfl rfl (by kernel_rfl)).2
            refine step_do ho' (wanted_free rfl) ?_
            unfold Oper.wp
            go_simp
            refine (root_none hq.out (by rw [Hqu.out]; exact Hfr.out) _).mono ?_
            rintro e w' ⟨rfl, hB⟩
            exact hK _ _ (.inr rfl) ((hF.j.congr (fun i hi => if_off (by decide) hi) (fun i hi => if_off (by decide) hi) (fun i hi => if_off (by decide) hi)).below hB)
          · have ho' := ho
            obtain rfl := Option.some.inj ho
            have f37 : ac.tmps.getD 37 undef = .tuple #[.agg (numA 0), .bool false] := (factt hF hd 10 rfl rfl (by kernel_rfl)).1.trans (factt hF hd 10 rfl rfl (by kernel_rfl)).2
            refine step_do ho' (wanted_free rfl) ?_
            unfold Oper.wp
            go_simp
            exact hK _ _ (.inr rfl) (hF.j.congr (fun i hi => if_off (by decide) hi) (fun i hi => if_off (by decide) hi) (fun i hi => if_off (by decide) hi))
          · have ho' := ho
            obtain rfl := Option.some.inj ho
            have f26 : ac.tmps.getD 26 undef = .tuple #[.agg (numA 0), .bool false] := (factt hF hd 11 rfl rfl (by kernel_rfl)).1.trans (factt hF hd 11 rfl rfl (by kernel_rfl)).2
            refine step_do ho' (wanted_free rfl) ?_
            unfold Oper.wp
            go_simp
            exact hK _ _ (.inr rfl) (hF.j.congr (fun i hi => if_off (by decide) hi) (fun i hi => if_off (by decide) hi) (fun i hi => if_off (by decide) hi))
          · have ho' := ho
            obtain rfl := Option.some.inj ho
            have f26 : ac.tmps.getD 26 undef = .tuple #[.agg (numA 0), .bool false] := (factt hF hd 11 rfl rfl (by kernel_rfl)).1.trans (factt hF hd 11 rfl rfl (by kernel_rfl)).2
            refine step_do ho' (wanted_free rfl) ?_
            unfold Oper.wp
            go_simp
            exact hK _ _ (.inr rfl) (hF.j.congr (fun i hi => if_off (by decide) hi) (fun i hi => if_off (by decide) hi) (fun i hi => if_off (by decide) hi))
          · have ho' := ho
            obtain rfl := Option.some.inj ho
            refine step_do ho' (wanted_free rfl) ?_
            have hs := notyett hF 14 hLi 15 rfl (by kernel_rfl)
            unfold Oper.wp
            go_simp
            rw [show (#[.int .u64 0, .int .u64 0, .int .u64 0, .int .u64 0] : Array Value) = numA 0 from rfl]
            exact hK _ _ (.inr ⟨_, rfl⟩) (hF.j.alloc 0 (fun i _ hne => if_oth (k := 0) rfl hne) (fun i hi => if_off (by decide) hi) (fun i _ hne => if_oth (k := 0) rfl hne) rfl hs)
          · have ho' := ho
            obtain rfl := Option.some.inj ho
            have f38 : ac.tmps.getD 38 undef = .agg (numA 0) := (factt hF hd 12 rfl rfl (by kernel_rfl)).1.trans (factt hF hd 12 rfl rfl (by kernel_rfl)).2
            refine step_do ho' (wanted_free rfl) ?_
            obtain ⟨fg, gq, hg⟩ := factt hF hd 14 rfl rfl (by kernel_rfl)
            have hm := dep hd 14 (by kernel_rfl)
            have hj := hF.j
            rw [hg] at fg
            have hj2 := hj.at (k := 0) (by decide) hm hg hLi
            refine wp_store_own 35 (.tmp 7) (.tmp 38) rfl gq (numA 0) fg f38 hj2.2.2 (numA_sizes _ _) (numA_info _) (numA_one _) rfl ?_
            exact hK undef _ (.inl rfl) (hj.store (k := 0) (by decide) hm hg hLi (numA_sizes _ _) (fun i hi => if_off (by decide) hi) (fun i _ hne => if_oth (k := 0) rfl hne) (fun i hi => if_off (by decide) hi) rfl)
          · have ho' := ho
            obtain rfl := Option.some.inj ho
            have f39 : ac.tmps.getD 39 undef = .bool false := (factt hF hd 13 rfl rfl (by kernel_rfl)).1.trans (factt hF hd 13 rfl rfl (by kernel_rfl)).2
            refine step_do ho' (wanted_free rfl) ?_
            unfold Oper.wp
            go_simp
            exact hK _ _ (.inr rfl) (hF.j.congr (fun i hi => if_off (by decide) hi) (fun i hi => if_off (by decide) hi) (fun i hi => if_off (by decide) hi))
          · cases ho
        intro L vs V8 hL hJ hf
        obtain ⟨g9, hgg9⟩ := hf 14 _ _ rfl rfl
        obtain ⟨le0, apg9, owng9⟩ := hJ.got (k := 0) (by decide) (hL 14 (by decide)) hgg9 (hL 15 (by decide))
        have le_g9 := show Hid _ from le0
        clear le0
        have ne_bR_g9 : Hid (bR ≠ g9) := apg9 (bR, PA ⟨0, 0, 0, 0⟩, 47) (.tail _ (.tail _ (.head _)))
        have hK : Kp [(g9, numA 0, 35), (b6, numA yy, 35), (b2, numA y, 35), (bR, PA ⟨0, 0, 0, 0⟩, 47)] w V8 := (hJ.1.cons owng9)
        have e0 : vs 0 = _ := hf 0 _ _ rfl rfl
        have e1 : vs 1 = _ := hf 1 _ _ rfl rfl
        have e2 : vs 2 = _ := hf 2 _ _ rfl rfl
        have e3 : vs 3 = _ := hf 3 _ _ rfl rfl
        have e4 : vs 4 = _ := hf 4 _ _ rfl rfl
        have e5 : vs 5 = _ := hf 5 _ _ rfl rfl
        have e6 : vs 6 = _ := hf 6 _ _ rfl rfl
        have e7 : vs 7 = _ := hf 7 _ _ rfl rfl
        have e8 : vs 8 = _ := hf 8 _ _ rfl rfl
        have e9 : vs 9 = _ := hf 9 _ _ rfl rfl
        have e10 : vs 10 = _ := hf 10 _ _ rfl rfl
        have e11 : vs 11 = _ := hf 11 _ _ rfl rfl
        have e12 : vs 12 = _ := hf 12 _ _ rfl rfl
        have e13 : vs 13 = _ := hf 13 _ _ rfl rfl
        have e16 : vs 16 = _ := hf 16 _ _ rfl rfl
        simp only [putAll, Nat.zero_add, Nat.reduceAdd, e0, e1, e2, e3, e4, e5, e6, e7, e8, e9, e10, e11, e12, e13, e16, hgg9, Act.put, List.setIfInBounds_toArray, List.set_cons_succ, List.set_cons_zero]
        clear hJ hf hL e0 e1 e2 e3 e4 e5 e6 e7 e8 e9 e10 e11 e12 e13 e16 hgg9 apg9 owng9
        go_upto_region 9 with fail
        go_wp2_with (refine wpList_store_own (by rfl) 47 (.tmp 2) (.tmp 50) (by rfl) bR 0 (PA ⟨0, 0, 0, 0⟩) (by rfl) (by rfl) (hK.at bR (PA ⟨0, 0, 0, 0⟩) 47 (.tail _ (.tail _ (.tail _ (.head _))))) (Nat.le_refl _) (PA_info _) (PA_one _) (by rfl) ?_)
        exact bodyPost_ret (results_own_tmp Tryd.results24 _ _ bR (PA ⟨0, 0, 0, 0⟩) _ (by rfl) (own_setCells (hK.at bR (PA ⟨0, 0, 0, 0⟩) 47 (.tail _ (.tail _ (.tail _ (.head _))))) (PA_sizes _ _)) Tryd.underlying47 rfl (PA_info _)) rfl ⟨by rw [Hdec.out]; rfl, Below.setCells _ _ _ _ le_bR.out hK.2⟩
      · have Hfr := show Hid _ from hfr
        clear hfr
        have hx : Hid (x < R256) := by show _ < _; exact Nat.lt_trans (froot_some Hfr.out).1 (by decide)
        refine wp_region_told 62 (by kernel_rfl) (by kernel_rfl) (by rfl) (factDeS yy s e g v q x) (fun L vs => MkN 1 [(b6, numA yy, 35), (b2, numA y, 35), (bR, PA ⟨0, 0, 0, 0⟩, 47)] w (fun _ => numA 0) (fun _ => numA x) (fun _ => 35) (fun i => L (14 + i)) (fun i => L (15 + i)) (fun i => vs (14 + i))) (fun _ => MkN.drew hK (fun _ _ => rfl)) ?_ ?_
        · intro L vs ac wc i o hF hLi ho hd K hK
          rcases i with _ | _ | _ | _ | _ | _ | _ | _ | _ | _ | _ | _ | _ | _ | _ | _ | _ | i
          · have ho' := ho
            obtain rfl := Option.some.inj ho
            have f6 : ac.tmps.getD 6 undef = .pointer (some ⟨b6, 0, none⟩) := slott hF 0 hLi 6 (by kernel_rfl)
            refine step_do ho' (wanted_free rfl) ?_
            exact wp_load_own 35 (.tmp 6) rfl b6 f6 (numA yy) _ 35 (hF.j.1.at b6 (numA yy) 35 (.head _)) Tryd.underlying35 rfl (numA_info _) (hK _ _ (.inr rfl) (hF.j.congr (fun i hi => if_off (by decide) hi) (fun i hi => if_off (by decide) hi) (fun i hi => if_off (by decide) hi)))
          · have ho' := ho
            obtain rfl := Option.some.inj ho
            refine step_do ho' (wanted_free rfl) ?_
            unfold Oper.wp
            go_simp
            exact hK _ _ (.inr (by show _ = Value.agg (numA 1); rw [numA_word 1 (by decide)]; rfl)) (hF.j.congr (fun i hi => if_off (by decide) hi) (fun i hi => if_off (by decide) hi) (fun i hi => if_off (by decide) hi))
          · have ho' := ho
            obtain rfl := Option.some.inj ho
            have f27 : ac.tmps.getD 27 undef = .agg (numA yy) := (factt hF hd 0 rfl rfl (by kernel_rfl)).1.trans (factt hF hd 0 rfl rfl (by kernel_rfl)).2
            have f28 : ac.tmps.getD 28 undef = .agg (numA 1) := (factt hF hd 1 rfl rfl (by kernel_rfl)).1.trans (factt hF hd 1 rfl rfl (by kernel_rfl)).2
            refine step_do ho' (wanted_free rfl) ?_
            unfold Oper.wp
            go_simp
            refine (fsub_at hyy.out (by decide) Hs.out _).mono ?_
            rintro e w' ⟨rfl, hB⟩
            exact hK _ _ (.inr rfl) ((hF.j.congr (fun i hi => if_off (by decide) hi) (fun i hi => if_off (by decide) hi) (fun i hi => if_off (by decide) hi)).below hB)
          · have ho' := ho
            obtain rfl := Option.some.inj ho
            refine step_do ho' (wanted_free rfl) ?_
            unfold Oper.wp
            go_simp
            refine (d_any _).mono ?_
            rintro e w' ⟨rfl, hB⟩
            exact hK _ _ (.inr rfl) ((hF.j.congr (fun i hi => if_off (by decide) hi) (fun i hi => if_off (by decide) hi) (fun i hi => if_off (by decide) hi)).below hB)
          · have ho' := ho
            obtain rfl := Option.some.inj ho
            have f6 : ac.tmps.getD 6 undef = .pointer (some ⟨b6, 0, none⟩) := slott hF 4 hLi 6 (by kernel_rfl)
            refine step_do ho' (wanted_free rfl) ?_
            exact wp_load_own 35 (.tmp 6) rfl b6 f6 (numA yy) _ 35 (hF.j.1.at b6 (numA yy) 35 (.head _)) Tryd.underlying35 rfl (numA_info _) (hK _ _ (.inr rfl) (hF.j.congr (fun i hi => if_off (by decide) hi) (fun i hi => if_off (by decide) hi) (fun i hi => if_off (by decide) hi)))
          · have ho' := ho
            obtain rfl := Option.some.inj ho
            have f30 : ac.tmps.getD 30 undef = .agg (numA dd) := (factt hF hd 3 rfl rfl (by kernel_rfl)).1.trans (factt hF hd 3 rfl rfl (by kernel_rfl)).2
            have f31 : ac.tmps.getD 31 undef = .agg (numA yy) := (factt hF hd 4 rfl rfl (by kernel_rfl)).1.trans (factt hF hd 4 rfl rfl (by kernel_rfl)).2
            refine step_do ho' (wanted_free rfl) ?_
            unfold Oper.wp
            go_simp
            refine (mul_at dd_R hyy.out He.out _).mono ?_
            rintro e w' ⟨rfl, hB⟩
            exact hK _ _ (.inr rfl) ((hF.j.congr (fun i hi => if_off (by decide) hi) (fun i hi => if_off (by decide) hi) (fun i hi => if_off (by decide) hi)).below hB)
          · have ho' := ho
            obtain rfl := Option.some.inj ho
            refine step_do ho' (wanted_free rfl) ?_
            unfold Oper.wp
            go_simp
            exact hK _ _ (.inr (by show _ = Value.agg (numA 1); rw [numA_word 1 (by decide)]; rfl)) (hF.j.congr (fun i hi => if_off (by decide) hi) (fun i hi => if_off (by decide) hi) (fun i hi => if_off (by decide) hi))
          · have ho' := ho
            obtain rfl := Option.some.inj ho
            have f32 : ac.tmps.getD 32 undef = .agg (numA e) := (factt hF hd 5 rfl rfl (by kernel_rfl)).1.trans (factt hF hd 5 rfl rfl (by kernel_rfl)).2
            have f33 : ac.tmps.getD 33 undef = .agg (numA 1) := (factt hF hd 6 rfl rfl (by kernel_rfl)).1.trans (factt hF hd 6 rfl rfl (by kernel_rfl)).2
            refine step_do ho' (wanted_free rfl) ?_
            unfold Oper.wp
            go_simp
            refine (fadd_at he.out (by decide) Hg.out _).mono ?_
            rintro e w' ⟨rfl, hB⟩
            exact hK _ _ (.inr rfl) ((hF.j.congr (fun i hi => if_off (by decide) hi) (fun i hi => if_off (by decide) hi) (fun i hi => if_off (by decide) hi)).below hB)
          · have ho' := ho
            obtain rfl := Option.some.inj ho
            have f34 : ac.tmps.getD 34 undef = .agg (numA g) := (factt hF hd 7 rfl rfl (by kernel_rfl)).1.trans (factt hF hd 7 rfl rfl (by kernel_rfl)).2
            refine step_do ho' (wanted_free rfl) ?_
            unfold Oper.wp
            go_simp
            refine (inv_at hg.out Hv.out _).mono ?_
            rintro e w' ⟨rfl, hB⟩
            exact hK _ _ (.inr rfl) ((hF.j.congr (fun i hi => if_off (by decide) hi) (fun i hi => if_off (by decide) hi) (fun i hi => if_off (by decide) hi)).below hB)
          · have ho' := ho
            obtain rfl := Option.some.inj ho
            have f29 : ac.tmps.getD 29 undef = .agg (numA s) := (factt hF hd 2 rfl rfl (by kernel_rfl)).1.trans (factt hF hd 2 rfl rfl (by kernel_rfl)).2
            have f35 : ac.tmps.getD 35 undef = .agg (numA v) := (factt hF hd 8 rfl rfl (by kernel_rfl)).1.trans (factt hF hd 8 rfl rfl (by kernel_rfl)).2
            refine step_do ho' (wanted_free rfl) ?_
            unfold Oper.wp
            go_simp
            refine (mul_at hs.out hv.out Hq.out _).mono ?_
            rintro e w' ⟨rfl, hB⟩
            exact hK _ _ (.inr rfl) ((hF.j.congr (fun i hi => if_off (by decide) hi) (fun i hi => if_off (by decide) hi) (fun i hi => if_off (by decide) hi)).below hB)
          · have ho' := ho
            obtain rfl := Option.some.inj ho
            have f36 : ac.tmps.getD 36 undef = .agg (numA q) := (factt hF hd 9 rfl rfl (by kernel_rfl)).1.trans (factt hF hd 9 rfl rfl (by kernel_rfl)).2
            refine step_do ho' (wanted_free rfl) ?_
            unfold Oper.wp
            go_simp
            refine (root_some hq.out (by rw [Hqu.out]; exact Hfr.out) _).mono ?_
            rintro e w' ⟨rfl, hB⟩
            exact hK _ _ (.inr rfl) ((hF.j.congr (fun i hi => if_off (by decide) hi) (fun i hi => if_off (by decide) hi) (fun i hi => if_off (by decide) hi)).below hB)
          · have ho' := ho
            obtain rfl := Option.some.inj ho
            have f37 : ac.tmps.getD 37 undef = .tuple #[.agg (numA x), .bool true] := (factt hF hd 10 rfl rfl (by kernel_rfl)).1.trans (factt hF hd 10 rfl rfl (by kernel_rfl)).2
            refine step_do ho' (wanted_free rfl) ?_
            unfold Oper.wp
            go_simp
            exact hK _ _ (.inr rfl) (hF.j.congr (fun i hi => if_off (by decide) hi) (fun i hi => if_off (by decide) hi) (fun i hi => if_off (by decide) hi))
          · have ho' := ho
            obtain rfl := Option.some.inj ho
            have f26 : ac.tmps.getD 26 undef = .tuple #[.agg (numA x), .bool true] := (factt hF hd 11 rfl rfl (by kernel_rfl)).1.trans (factt hF hd 11 rfl rfl (by kernel_rfl)).2
            refine step_do ho' (wanted_free rfl) ?_
            unfold Oper.wp
            go_simp
            exact hK _ _ (.inr rfl) (hF.j.congr (fun i hi => if_off (by decide) hi) (fun i hi => if_off (by decide) hi) (fun i hi => if_off (by decide) hi))
          · have ho' := ho
            obtain rfl := Option.some.inj ho
            have f26 : ac.tmps.getD 26 undef = .tuple #[.agg (numA x), .bool true] := (factt hF hd 11 rfl rfl (by kernel_rfl)).1.trans (factt hF hd 11 rfl rfl (by kernel_rfl)).2
            refine step_do ho' (wanted_free rfl) ?_
            unfold Oper.wp
            go_simp
            exact hK _ _ (.inr rfl) (hF.j.congr (fun i hi => if_off (by decide) hi) (fun i hi => if_off (by decide) hi) (fun i hi => if_off (by decide) hi))
          · have ho' := ho
            obtain rfl := Option.some.inj ho
            refine step_do ho' (wanted_free rfl) ?_
            have hs := notyett hF 14 hLi 15 rfl (by kernel_rfl)
            unfold Oper.wp
            go_simp
            rw [show (#[.int .u64 0, .int .u64 0, .int .u64 0, .int .u64 0] : Array Value) = numA 0 from rfl]
            exact hK _ _ (.inr ⟨_, rfl⟩) (hF.j.alloc 0 (fun i _ hne => if_oth (k := 0) rfl hne) (fun i hi => if_off (by decide) hi) (fun i _ hne => if_oth (k := 0) rfl hne) rfl hs)
          · have ho' := ho
            obtain rfl := Option.some.inj ho
            have f38 : ac.tmps.getD 38 undef = .agg (numA x) := (factt hF hd 12 rfl rfl (by kernel_rfl)).1.trans (factt hF hd 12 rfl rfl (by kernel_rfl)).2
            refine step_do ho' (wanted_free rfl) ?_
            obtain ⟨fg, gq, hg⟩ := factt hF hd 14 rfl rfl (by kernel_rfl)
            have hm := dep hd 14 (by kernel_rfl)
            have hj := hF.j
            rw [hg] at fg
            have hj2 := hj.at (k := 0) (by decide) hm hg hLi
            refine wp_store_own 35 (.tmp 7) (.tmp 38) rfl gq (numA x) fg f38 hj2.2.2 (numA_sizes _ _) (numA_info _) (numA_one _) rfl ?_
            exact hK undef _ (.inl rfl) (hj.store (k := 0) (by decide) hm hg hLi (numA_sizes _ _) (fun i hi => if_off (by decide) hi) (fun i _ hne => if_oth (k := 0) rfl hne) (fun i hi => if_off (by decide) hi) rfl)
          · have ho' := ho
            obtain rfl := Option.some.inj ho
            have f39 : ac.tmps.getD 39 undef = .bool true := (factt hF hd 13 rfl rfl (by kernel_rfl)).1.trans (factt hF hd 13 rfl rfl (by kernel_rfl)).2
            refine step_do ho' (wanted_free rfl) ?_
            unfold Oper.wp
            go_simp
            exact hK _ _ (.inr rfl) (hF.j.congr (fun i hi => if_off (by decide) hi) (fun i hi => if_off (by decide) hi) (fun i hi => if_off (by decide) hi))
          · cases ho
        intro L vs V8 hL hJ hf
        obtain ⟨g9, hgg9⟩ := hf 14 _ _ rfl rfl
        obtain ⟨le0, apg9, owng9⟩ := hJ.got (k := 0) (by decide) (hL 14 (by decide)) hgg9 (hL 15 (by decide))
        have le_g9 := show Hid _ from le0
        clear le0
        have ne_b6_g9 : Hid (b6 ≠ g9) := apg9 (b6, numA yy, 35) (.head _)
        have ne_b2_g9 : Hid (b2 ≠ g9) := apg9 (b2, numA y, 35) (.tail _ (.head _))
        have ne_bR_g9 : Hid (bR ≠ g9) := apg9 (bR, PA ⟨0, 0, 0, 0⟩, 47) (.tail _ (.tail _ (.head _)))
        have hK : Kp [(g9, numA x, 35), (b6, numA yy, 35), (b2, numA y, 35), (bR, PA ⟨0, 0, 0, 0⟩, 47)] w V8 := (hJ.1.cons owng9)
        have e0 : vs 0 = _ := hf 0 _ _ rfl rfl
        have e1 : vs 1 = _ := hf 1 _ _ rfl rfl
        have e2 : vs 2 = _ := hf 2 _ _ rfl rfl
        have e3 : vs 3 = _ := hf 3 _ _ rfl rfl
        have e4 : vs 4 = _ := hf 4 _ _ rfl rfl
        have e5 : vs 5 = _ := hf 5 _ _ rfl rfl
        have e6 : vs 6 = _ := hf 6 _ _ rfl rfl
        have e7 : vs 7 = _ := hf 7 _ _ rfl rfl
        have e8 : vs 8 = _ := hf 8 _ _ rfl rfl
        have e9 : vs 9 = _ := hf 9 _ _ rfl rfl
        have e10 : vs 10 = _ := hf 10 _ _ rfl rfl
        have e11 : vs 11 = _ := hf 11 _ _ rfl rfl
        have e12 : vs 12 = _ := hf 12 _ _ rfl rfl
        have e13 : vs 13 = _ := hf 13 _ _ rfl rfl
        have e16 : vs 16 = _ := hf 16 _ _ rfl rfl
        simp only [putAll, Nat.zero_add, Nat.reduceAdd, e0, e1, e2, e3, e4, e5, e6, e7, e8, e9, e10, e11, e12, e13, e16, hgg9, Act.put, List.setIfInBounds_toArray, List.set_cons_succ, List.set_cons_zero]
        clear hJ hf hL e0 e1 e2 e3 e4 e5 e6 e7 e8 e9 e10 e11 e12 e13 e16 hgg9 apg9 owng9
        obtain ⟨t, Ht⟩ : ∃ z, Hid (x * y % pp = z) := ⟨_, rfl⟩
        have Hdec : Hid (decV (dec a) = .tuple #[.agg (PA ⟨x, y, 1, t⟩), .bool true]) := by show _ = _; rw [dec_even' (by rw [Hy.out]; exact Hlt.out) (by rw [Hy.out]; exact Hfr.out) hodd.out, Hy.out, Ht.out]; rfl
        obtain ⟨bz, hbz⟩ : ∃ b : Bool, ∀ w, (Op.equalIn 10000 35 (.agg (numA x)) (.agg #[.int .u64 0, .int .u64 0, .int .u64 0, .int .u64 0])).run Tryd.prog w = .ok b w := ⟨_, fun w => num_eq x 0 hx.out (by decide) w⟩
        cases bz
        · go_upto_region 10 with (refine wpList_load_gd (by rfl) 35 (.tmp 7) (by rfl) g9 (by rfl) (numA x) _ (hK.at g9 (numA x) 35 (.head _)) Tryd.underlying35 (by rfl) (numA_info _) ?_)
          clear hbz
          go_upto_region 12 with fail
          have hK : Kp [(g9, numA x, 35), (b2, numA y, 35), (bR, PA ⟨0, 0, 0, 0⟩, 47)] w V8 := (((hK.none.cons (hK.at bR (PA ⟨0, 0, 0, 0⟩) 47 (.tail _ (.tail _ (.tail _ (.head _)))))).cons (hK.at b2 (numA y) 35 (.tail _ (.tail _ (.head _))))).cons (hK.at g9 (numA x) 35 (.head _)))
          refine wp_region_vals 62 (by kernel_rfl) (by kernel_rfl) (by rfl) (valDex x y t) (fun L => Kp [(g9, numA x, 35), (b2, numA y, 35), (bR, if L 7 = true then PA ⟨x, y, 1, t⟩ else PA ⟨0, 0, 0, 0⟩, 47)] w) hK.drew ?_ ?_
          · intro L ac wc i o hF hLi ho hd K hK
            rcases i with _ | _ | _ | _ | _ | _ | _ | _ | _ | i
            · have ho' := ho
              obtain rfl := Option.some.inj ho
              have f7 : ac.tmps.getD 7 undef = .pointer (some ⟨g9, 0, none⟩) := slotv hF 0 hLi 7 (by kernel_rfl)
              refine step_do ho' (wanted_free rfl) ?_
              exact wp_load_own 35 (.tmp 7) rfl g9 f7 (numA x) _ 35 (hF.j.at g9 (numA x) 35 (.head _)) Tryd.underlying35 rfl (numA_info _) (hK _ _ (.inr rfl) hF.j)
            · have ho' := ho
              obtain rfl := Option.some.inj ho
              have f5 : ac.tmps.getD 5 undef = .pointer (some ⟨b2, 0, none⟩) := slotv hF 1 hLi 5 (by kernel_rfl)
              refine step_do ho' (wanted_free rfl) ?_
              exact wp_load_own 35 (.tmp 5) rfl b2 f5 (numA y) _ 35 (hF.j.at b2 (numA y) 35 (.tail _ (.head _))) Tryd.underlying35 rfl (numA_info _) (hK _ _ (.inr rfl) hF.j)
            · have ho' := ho
              obtain rfl := Option.some.inj ho
              refine step_do ho' (wanted_free rfl) ?_
              unfold Oper.wp
              go_simp
              exact hK _ _ (.inr (by show _ = Value.agg (numA 1); rw [numA_word 1 (by decide)]; rfl)) hF.j
            · have ho' := ho
              obtain rfl := Option.some.inj ho
              have f7 : ac.tmps.getD 7 undef = .pointer (some ⟨g9, 0, none⟩) := slotv hF 3 hLi 7 (by kernel_rfl)
              refine step_do ho' (wanted_free rfl) ?_
              exact wp_load_own 35 (.tmp 7) rfl g9 f7 (numA x) _ 35 (hF.j.at g9 (numA x) 35 (.head _)) Tryd.underlying35 rfl (numA_info _) (hK _ _ (.inr rfl) hF.j)
            · have ho' := ho
              obtain rfl := Option.some.inj ho
              have f5 : ac.tmps.getD 5 undef = .pointer (some ⟨b2, 0, none⟩) := slotv hF 4 hLi 5 (by kernel_rfl)
              refine step_do ho' (wanted_free rfl) ?_
              exact wp_load_own 35 (.tmp 5) rfl b2 f5 (numA y) _ 35 (hF.j.at b2 (numA y) 35 (.tail _ (.head _))) Tryd.underlying35 rfl (numA_info _) (hK _ _ (.inr rfl) hF.j)
            · have ho' := ho
              obtain rfl := Option.some.inj ho
              have f58 : ac.tmps.getD 58 undef = .agg (numA x) := valv hF hd 3 rfl rfl (by kernel_rfl)
              have f59 : ac.tmps.getD 59 undef = .agg (numA y) := valv hF hd 4 rfl rfl (by kernel_rfl)
              refine step_do ho' (wanted_free rfl) ?_
              unfold Oper.wp
              go_simp
              refine (mul_at hx.out hy.out Ht.out _).mono ?_
              rintro e w' ⟨rfl, hB⟩
              exact hK _ _ (.inr rfl) (hF.j.below hB)
            · have ho' := ho
              obtain rfl := Option.some.inj ho
              have f55 : ac.tmps.getD 55 undef = .agg (numA x) := valv hF hd 0 rfl rfl (by kernel_rfl)
              have f56 : ac.tmps.getD 56 undef = .agg (numA y) := valv hF hd 1 rfl rfl (by kernel_rfl)
              have f57 : ac.tmps.getD 57 undef = .agg (numA 1) := valv hF hd 2 rfl rfl (by kernel_rfl)
              have f60 : ac.tmps.getD 60 undef = .agg (numA t) := valv hF hd 5 rfl rfl (by kernel_rfl)
              refine step_do ho' (wanted_free rfl) ?_
              exact wp_build_pt 55 56 57 60 (x) (y) (1) (t) rfl f55 f56 f57 f60 (hK _ _ (.inr rfl) hF.j)
            · have ho' := ho
              obtain rfl := Option.some.inj ho
              have f2 : ac.tmps.getD 2 undef = .pointer (some ⟨bR, 0, none⟩) := slotv hF 7 hLi 2 (by kernel_rfl)
              have f61 : ac.tmps.getD 61 undef = .agg (PA ⟨x, y, 1, t⟩) := valv hF hd 6 rfl rfl (by kernel_rfl)
              refine step_do ho' (wanted_free rfl) ?_
              have hj := hF.j
              rw [hLi] at hj
              have hj : Kp [(g9, numA x, 35), (b2, numA y, 35), (bR, PA ⟨0, 0, 0, 0⟩, 47)] w wc := hj
              have hj : Kp [(bR, PA ⟨0, 0, 0, 0⟩, 47), (g9, numA x, 35), (b2, numA y, 35)] w wc := (((hj.none.cons (hj.at b2 (numA y) 35 (.tail _ (.head _)))).cons (hj.at g9 (numA x) 35 (.head _))).cons (hj.at bR (PA ⟨0, 0, 0, 0⟩) 47 (.tail _ (.tail _ (.head _)))))
              refine wp_store_own 47 (.tmp 2) (.tmp 61) rfl bR (PA ⟨x, y, 1, t⟩) f2 f61 (hj.at bR (PA ⟨0, 0, 0, 0⟩) 47 (.head _)) (PA_sizes _ _) (PA_info _) (PA_one _) rfl ?_
              have hj := Kp.set (A' := PA ⟨x, y, 1, t⟩) hj (by simp only [List.forall_mem_cons, List.not_mem_nil, false_implies, implies_true, and_true]; exact ⟨(Ne.symm ne_bR_g9.out), (Ne.symm ne_bR_b2.out)⟩) le_bR.out (PA_sizes _ _)
              exact hK undef _ (.inl rfl) (((hj.none.cons (hj.at bR (PA ⟨x, y, 1, t⟩) 47 (.head _))).cons (hj.at b2 (numA y) 35 (.tail _ (.tail _ (.head _))))).cons (hj.at g9 (numA x) 35 (.tail _ (.head _))))
            · have ho' := ho
              obtain rfl := Option.some.inj ho
              refine step_do ho' (wanted_free rfl) ?_
              unfold Oper.wp
              go_simp
              exact hK _ _ (.inr rfl) hF.j
            · cases ho
          intro L V10 hL hKq
          rw [hL 7 (by decide)] at hKq
          have hK : Kp [(g9, numA x, 35), (b2, numA y, 35), (bR, PA ⟨x, y, 1, t⟩, 47)] w V10 := hKq
          clear hKq hL
          simp only [putAll, valDex, Act.put, List.setIfInBounds_toArray, List.set_cons_succ, List.set_cons_zero]
          go_wp2_with fail
          exact bodyPost_ret (results_own_tmp Tryd.results24 _ _ bR (PA ⟨x, y, 1, t⟩) _ (by rfl) (hK.at bR (PA ⟨x, y, 1, t⟩) 47 (.tail _ (.tail _ (.head _)))) Tryd.underlying47 rfl (PA_info _)) rfl ⟨by rw [Hdec.out]; rfl, hK.2⟩
        · go_upto_region 10 with (refine wpList_load_gd (by rfl) 35 (.tmp 7) (by rfl) g9 (by rfl) (numA x) _ (hK.at g9 (numA x) 35 (.head _)) Tryd.underlying35 (by rfl) (numA_info _) ?_)
          clear hbz
          go_upto_region 12 with fail
          have hK : Kp [(g9, numA x, 35), (b2, numA y, 35), (bR, PA ⟨0, 0, 0, 0⟩, 47)] w V8 := (((hK.none.cons (hK.at bR (PA ⟨0, 0, 0, 0⟩) 47 (.tail _ (.tail _ (.tail _ (.head _)))))).cons (hK.at b2 (numA y) 35 (.tail _ (.tail _ (.head _))))).cons (hK.at g9 (numA x) 35 (.head _)))
          refine wp_region_vals 62 (by kernel_rfl) (by kernel_rfl) (by rfl) (valDex x y t) (fun L => Kp [(g9, numA x, 35), (b2, numA y, 35), (bR, if L 7 = true then PA ⟨x, y, 1, t⟩ else PA ⟨0, 0, 0, 0⟩, 47)] w) hK.drew ?_ ?_
          · intro L ac wc i o hF hLi ho hd K hK
            rcases i with _ | _ | _ | _ | _ | _ | _ | _ | _ | i
            · have ho' := ho
              obtain rfl := Option.some.inj ho
              have f7 : ac.tmps.getD 7 undef = .pointer (some ⟨g9, 0, none⟩) := slotv hF 0 hLi 7 (by kernel_rfl)
              refine step_do ho' (wanted_free rfl) ?_
              exact wp_load_own 35 (.tmp 7) rfl g9 f7 (numA x) _ 35 (hF.j.at g9 (numA x) 35 (.head _)) Tryd.underlying35 rfl (numA_info _) (hK _ _ (.inr rfl) hF.j)
            · have ho' := ho
              obtain rfl := Option.some.inj ho
              have f5 : ac.tmps.getD 5 undef = .pointer (some ⟨b2, 0, none⟩) := slotv hF 1 hLi 5 (by kernel_rfl)
              refine step_do ho' (wanted_free rfl) ?_
              exact wp_load_own 35 (.tmp 5) rfl b2 f5 (numA y) _ 35 (hF.j.at b2 (numA y) 35 (.tail _ (.head _))) Tryd.underlying35 rfl (numA_info _) (hK _ _ (.inr rfl) hF.j)
            · have ho' := ho
              obtain rfl := Option.some.inj ho
              refine step_do ho' (wanted_free rfl) ?_
              unfold Oper.wp
              go_simp
              exact hK _ _ (.inr (by show _ = Value.agg (numA 1); rw [numA_word 1 (by decide)]; rfl)) hF.j
            · have ho' := ho
              obtain rfl := Option.some.inj ho
              have f7 : ac.tmps.getD 7 undef = .pointer (some ⟨g9, 0, none⟩) := slotv hF 3 hLi 7 (by kernel_rfl)
              refine step_do ho' (wanted_free rfl) ?_
              exact wp_load_own 35 (.tmp 7) rfl g9 f7 (numA x) _ 35 (hF.j.at g9 (numA x) 35 (.head _)) Tryd.underlying35 rfl (numA_info _) (hK _ _ (.inr rfl) hF.j)
            · have ho' := ho
              obtain rfl := Option.some.inj ho
              have f5 : ac.tmps.getD 5 undef = .pointer (some ⟨b2, 0, none⟩) := slotv hF 4 hLi 5 (by kernel_rfl)
              refine step_do ho' (wanted_free rfl) ?_
              exact wp_load_own 35 (.tmp 5) rfl b2 f5 (numA y) _ 35 (hF.j.at b2 (numA y) 35 (.tail _ (.head _))) Tryd.underlying35 rfl (numA_info _) (hK _ _ (.inr rfl) hF.j)
            · have ho' := ho
              obtain rfl := Option.some.inj ho
              have f58 : ac.tmps.getD 58 undef = .agg (numA x) := valv hF hd 3 rfl rfl (by kernel_rfl)
              have f59 : ac.tmps.getD 59 undef = .agg (numA y) := valv hF hd 4 rfl rfl (by kernel_rfl)
              refine step_do ho' (wanted_free rfl) ?_
              unfold Oper.wp
              go_simp
              refine (mul_at hx.out hy.out Ht.out _).mono ?_
              rintro e w' ⟨rfl, hB⟩
              exact hK _ _ (.inr rfl) (hF.j.below hB)
            · have ho' := ho
              obtain rfl := Option.some.inj ho
              have f55 : ac.tmps.getD 55 undef = .agg (numA x) := valv hF hd 0 rfl rfl (by kernel_rfl)
              have f56 : ac.tmps.getD 56 undef = .agg (numA y) := valv hF hd 1 rfl rfl (by kernel_rfl)
              have f57 : ac.tmps.getD 57 undef = .agg (numA 1) := valv hF hd 2 rfl rfl (by kernel_rfl)
              have f60 : ac.tmps.getD 60 undef = .agg (numA t) := valv hF hd 5 rfl rfl (by kernel_rfl)
              refine step_do ho' (wanted_free rfl) ?_
              exact wp_build_pt 55 56 57 60 (x) (y) (1) (t) rfl f55 f56 f57 f60 (hK _ _ (.inr rfl) hF.j)
            · have ho' := ho
              obtain rfl := Option.some.inj ho
              have f2 : ac.tmps.getD 2 undef = .pointer (some ⟨bR, 0, none⟩) := slotv hF 7 hLi 2 (by kernel_rfl)
              have f61 : ac.tmps.getD 61 undef = .agg (PA ⟨x, y, 1, t⟩) := valv hF hd 6 rfl rfl (by kernel_rfl)
              refine step_do ho' (wanted_free rfl) ?_
              have hj := hF.j
              rw [hLi] at hj
              have hj : Kp [(g9, numA x, 35), (b2, numA y, 35), (bR, PA ⟨0, 0, 0, 0⟩, 47)] w wc := hj
              have hj : Kp [(bR, PA ⟨0, 0, 0, 0⟩, 47), (g9, numA x, 35), (b2, numA y, 35)] w wc := (((hj.none.cons (hj.at b2 (numA y) 35 (.tail _ (.head _)))).cons (hj.at g9 (numA x) 35 (.head _))).cons (hj.at bR (PA ⟨0, 0, 0, 0⟩) 47 (.tail _ (.tail _ (.head _)))))
              refine wp_store_own 47 (.tmp 2) (.tmp 61) rfl bR (PA ⟨x, y, 1, t⟩) f2 f61 (hj.at bR (PA ⟨0, 0, 0, 0⟩) 47 (.head _)) (PA_sizes _ _) (PA_info _) (PA_one _) rfl ?_
              have hj := Kp.set (A' := PA ⟨x, y, 1, t⟩) hj (by simp only [List.forall_mem_cons, List.not_mem_nil, false_implies, implies_true, and_true]; exact ⟨(Ne.symm ne_bR_g9.out), (Ne.symm ne_bR_b2.out)⟩) le_bR.out (PA_sizes _ _)
              exact hK undef _ (.inl rfl) (((hj.none.cons (hj.at bR (PA ⟨x, y, 1, t⟩) 47 (.head _))).cons (hj.at b2 (numA y) 35 (.tail _ (.tail _ (.head _))))).cons (hj.at g9 (numA x) 35 (.tail _ (.head _))))
            · have ho' := ho
              obtain rfl := Option.some.inj ho
              refine step_do ho' (wanted_free rfl) ?_
              unfold Oper.wp
              go_simp
              exact hK _ _ (.inr rfl) hF.j
            · cases ho
          intro L V10 hL hKq
          rw [hL 7 (by decide)] at hKq
          have hK : Kp [(g9, numA x, 35), (b2, numA y, 35), (bR, PA ⟨x, y, 1, t⟩, 47)] w V10 := hKq
          clear hKq hL
          simp only [putAll, valDex, Act.put, List.setIfInBounds_toArray, List.set_cons_succ, List.set_cons_zero]
          go_wp2_with fail
          exact bodyPost_ret (results_own_tmp Tryd.results24 _ _ bR (PA ⟨x, y, 1, t⟩) _ (by rfl) (hK.at bR (PA ⟨x, y, 1, t⟩) 47 (.tail _ (.tail _ (.head _)))) Tryd.underlying47 rfl (PA_info _)) rfl ⟨by rw [Hdec.out]; rfl, hK.2⟩
    · have Hdec : Hid (decV (dec a) = .tuple #[.agg (PA ⟨0, 0, 0, 0⟩), .bool false]) := by show _ = _; rw [dec_big' (by rw [Hy.out]; exact hlt)]; rfl
      have Hlt := show Hid _ from hlt
      clear hlt
      refine wp_region_vals 62 (by kernel_rfl) (by kernel_rfl) (by rfl) (valDeG y) (fun _ => Kp [(b2, numA y, 35), (bR, PA ⟨0, 0, 0, 0⟩, 47)] w) hK.drew ?_ ?_
      · intro L ac wc i o hF hLi ho hd K hK
        rcases i with _ | _ | _ | _ | i
        · have ho' := ho
          obtain rfl := Option.some.inj ho
          have f5 : ac.tmps.getD 5 undef = .pointer (some ⟨b2, 0, none⟩) := slotv hF 0 hLi 5 (by kernel_rfl)
          refine step_do ho' (wanted_free rfl) ?_
          exact wp_load_own 35 (.tmp 5) rfl b2 f5 (numA y) _ 35 (hF.j.at b2 (numA y) 35 (.head _)) Tryd.underlying35 rfl (numA_info _) (hK _ _ (.inr rfl) hF.j)
        · have ho' := ho
          obtain rfl := Option.some.inj ho
          refine step_do ho' (wanted_free rfl) ?_
          unfold Oper.wp
          go_simp
          refine (P_any _).mono ?_
          rintro e w' ⟨rfl, hB⟩
          exact hK _ _ (.inr rfl) (hF.j.below hB)
        · have ho' := ho
          obtain rfl := Option.some.inj ho
          have f18 : ac.tmps.getD 18 undef = .agg (numA y) := valv hF hd 0 rfl rfl (by kernel_rfl)
          have f19 : ac.tmps.getD 19 undef = .agg (numA pp) := valv hF hd 1 rfl rfl (by kernel_rfl)
          refine step_do ho' (wanted_free rfl) ?_
          unfold Oper.wp
          go_simp
          refine (less_no hy.out Hlt.out _).mono ?_
          rintro e w' ⟨rfl, hB⟩
          exact hK _ _ (.inr rfl) (hF.j.below hB)
        · have ho' := ho
          obtain rfl := Option.some.inj ho
          have f20 : ac.tmps.getD 20 undef = .bool false := valv hF hd 2 rfl rfl (by kernel_rfl)
          refine step_do ho' (wanted_free rfl) ?_
          unfold Oper.wp
          go_simp
          exact hK _ _ (.inr rfl) hF.j
        · cases ho
      intro L V4 hL hKq
      have hK : Kp [(b2, numA y, 35), (bR, PA ⟨0, 0, 0, 0⟩, 47)] w V4 := hKq
      clear hKq hL
      simp only [putAll, valDeG, Act.put, List.setIfInBounds_toArray, List.set_cons_succ, List.set_cons_zero]
      go_upto_region 5 with fail
      go_wp2_with (refine wpList_store_own (by rfl) 47 (.tmp 2) (.tmp 22) (by rfl) bR 0 (PA ⟨0, 0, 0, 0⟩) (by rfl) (by rfl) (hK.at bR (PA ⟨0, 0, 0, 0⟩) 47 (.tail _ (.head _))) (Nat.le_refl _) (PA_info _) (PA_one _) (by rfl) ?_)
      exact bodyPost_ret (results_own_tmp Tryd.results24 _ _ bR (PA ⟨0, 0, 0, 0⟩) _ (by rfl) (own_setCells (hK.at bR (PA ⟨0, 0, 0, 0⟩) 47 (.tail _ (.head _))) (PA_sizes _ _)) Tryd.underlying47 rfl (PA_info _)) rfl ⟨by rw [Hdec.out]; rfl, Below.setCells _ _ _ _ le_bR.out hK.2⟩
end Go.Proofs.YtfkcphbbabaefaaDoor
